/- values: its rounds. -/
import Derived.Test.YthefmfjlinpepaaF1
namespace Go.Proofs.Ythefmfjlinpepaa
open Go.RowKit Go.Shelf
set_option linter.unusedSimpArgs false
set_option linter.unusedVariables false
attribute [local go_sem] Oper.semAt_some

/-- How many places of values there are from a place on. -/
def plN (a n f : Nat) : Nat := (a - f) + (n - (f - a) / 2)
/-- The j-th of them. -/
def plA (a f j : Nat) : Nat := if j < a - f then f + j else a + 2 * ((f - a) / 2 + (j - (a - f))) + 1

structure ValIs (W : World) (P : Nat) (most : Int) (a n nn : Nat) (sl : Sl) (Bs Bf : Nat) (f : Nat) : Prop where
  tb : Tb W P most a n nn sl
  bs : W.heap[Bs]? = some (.cells #[MI P] 81 (0, 0))
  bf : W.heap[Bf]? = some (.cells #[.int .i64 (f : Int)] 3 (0, 0))

theorem values_any (s : Value) (hs : s.oneCell' = true) (x : Int) (w : World) :
    Calls Try.prog 74 #[s, .int .i64 x] w fun e w' => e = .returned (.func (.func 83) #[] #[.pointer (some ⟨w.heap.size, 0, none⟩), .pointer (some ⟨w.heap.size + 1, 0, none⟩)]) ∧ w' = (w.alloc (.cells #[s] 81)).alloc (.cells #[.int .i64 x] 3) := by
  go_enter Try.func74, Try.ntmps74
  go_wp2
  go_ret
  exact ⟨rfl, rfl⟩
theorem entries_any (s : Value) (hs : s.oneCell' = true) (x : Int) (w : World) :
    Calls Try.prog 46 #[s, .int .i64 x] w fun e w' => e = .returned (.func (.func 73) #[] #[.pointer (some ⟨w.heap.size, 0, none⟩), .pointer (some ⟨w.heap.size + 1, 0, none⟩)]) ∧ w' = (w.alloc (.cells #[s] 81)).alloc (.cells #[.int .i64 x] 3) := by
  go_enter Try.func46, Try.ntmps46
  go_wp2
  go_ret
  exact ⟨rfl, rfl⟩

set_option maxRecDepth 100000 in
set_option maxHeartbeats 2000000 in
theorem values_rounds (d P : Nat) (most : Int) (a n nn : Nat) (sl : Sl) (Bs Bf f : Nat) (hf : f ≤ 1000000) (I : Nat → World → Prop) (hI : ∀ j W, I j W → ValIs W P most a n nn sl Bs Bf f) :
    Rounds Fence.wide d Try.prog 83 #[.pointer (some ⟨Bs, 0, none⟩), .pointer (some ⟨Bf, 0, none⟩)] (plN a n f) (fun j W args => args = #[.int .i64 (plA a f j : Nat)]) I := by
  intro l J Jx W hJI hJd hY h0 hJx
  have hW := hI _ _ (hJI _ _ h0)
  have HW : Hid (ValIs W P most a n nn sl Bs Bf f) := hW
  obtain ⟨b1, b2⟩ := hW.tb.bd
  have cs0 : W.cell? ⟨Bs, 0, none⟩ = some (MI P) := by rw [cell_of hW.bs]; rfl
  have HJ0 : Hid (J 0 W) := h0
  have HI : Hid (∀ j W, J j W → ValIs W P most a n nn sl Bs Bf f) := fun j W h => hI _ _ (hJI _ _ h)
  have HY : Hid _ := hY
  clear hW h0 hI hJI hY
  refine callsIn_of_wp Try.func83 rfl trivial ?_ rfl
  simp only [Try.ntmps83, List.size_toArray, List.length_cons, List.length_nil, Nat.reduceAdd, Nat.reduceSub, Array.replicate_succ, Array.replicate_zero, List.push_toArray, List.append_toArray, List.nil_append, List.cons_append]
  gi_wp2
  have HArr : Hid (∀ m, Calls Try.prog 25 #[MP P] (W.drewN m) fun e w' => e = .returned (.int .i64 a) ∧ W.drewN m = w') := fun m => Array_any (HW.out.tb.no ((Kept.refl _ _).drewN m))
  have HNod : Hid (∀ m, Calls Try.prog 26 #[MP P] (W.drewN m) fun e w' => e = .returned (.int .i64 n) ∧ W.drewN m = w') := fun m => Nodes_any (HW.out.tb.no ((Kept.refl _ _).drewN m))
  have hmA := mArray P
  have hmN := mNodes P
  refine wpIn_wide.2 ?_
  go_quiet (first | (go_at_call 25; exact quiet_same (HArr.out _)) | (go_at_call 26; exact quiet_same (HNod.out _)))
  have HJ1 : Hid (J 0 (W.drewN nq)) := hJd _ _ _ HJ0.out (Loose.drewN _ _ nq)
  have HWn : Hid ((W.drewN nq).heap.size = W.heap.size) := by show _ = _; rfl
  generalize hWq : W.drewN nq = W1 at HJ1 HWn ⊢
  clear hWq
  have cf1 : W1.cell? ⟨Bf, 0, none⟩ = some (.int .i64 (f : Int)) := by rw [cell_of (HI.out _ _ HJ1.out).bf]; rfl
  clear cs0 HW HJ0 HArr HNod
  gi_wp2
  clear cf1
  gi_loopw [6] (fun c wr => ∃ j : Nat, j ≤ a - f ∧ c = .int .i64 ((f : Int) + (j : Int)) ∧ Hid (J j wr)) (fun c _ => a - (intOf c).toNat)
  case atStart => exact ⟨0, Nat.zero_le _, by simp, HJ1.out⟩
  case round =>
    obtain ⟨j, hj, rfl, HJj⟩ := hrel
    by_cases hlt : f + j < a
    · have k2 : (f : Int) + (j : Int) < (a : Int) := by omega
      have HY1 : Hid (YieldAt Fence.wide (d - 1) Try.prog l #[.int .i64 ((f : Int) + (j : Int))] wr fun e W' => Still W.heap.size wr W' ∧ ((e = .returned (.bool true) ∧ J (j + 1) W') ∨ (e = .returned (.bool false) ∧ Jx (j + 1) W'))) := by
        refine HY.out j _ _ HJj.out ?_ (by unfold plN; omega)
        unfold plA
        rw [if_pos (by omega)]
        simp
      obtain ⟨fn, tmps, as', bo, hy, hR⟩ := HY1.out
      gi_wp2
      refine ⟨fun h => (by cases h), ?_⟩
      refine hR.mono ?_
      rintro e W3 ⟨-, (⟨rfl, hJ3⟩ | ⟨rfl, hJx3⟩)⟩
      · clear hy hR
        gi_wp2
        go_roundw
        case rel => exact ⟨j + 1, by omega, by go_num, hJ3⟩
        case measure => simp [intOf]; omega
      · gi_wp2
        refine bodyPost_ret (results_none rfl _ _ _) rfl ?_
        exact ⟨⟨_, rfl⟩, .inr ⟨j + 1, by unfold plN; omega, hJx3⟩⟩
    · have he : j = a - f := by omega
      have k2 : ¬ (f : Int) + (j : Int) < (a : Int) := by omega
      have cf2 : wr.cell? ⟨Bf, 0, none⟩ = some (.int .i64 (f : Int)) := by rw [cell_of (HI.out _ _ HJj.out).bf]; rfl
      obtain ⟨i0, hi0⟩ : ∃ i0 : Nat, (f - a) / 2 = i0 := ⟨_, rfl⟩
      have e1 : (if (f : Int) - (a : Int) < 0 then (0 : Int) else (f : Int) - (a : Int)).tdiv 2 = (i0 : Int) := by
        split
        · rw [Int.zero_tdiv]; omega
        · rw [Int.tdiv_eq_ediv_of_nonneg (by omega)]; omega
      obtain ⟨W2, hW2⟩ : ∃ W2, W2 = wr := ⟨_, rfl⟩
      have HJ2 : Hid (J (a - f) W2) := by rw [hW2, ← he]; exact HJj.out
      rw [← hW2] at cf2 ⊢
      clear hW2 HJj HJ1 hj hlt
      subst he
      by_cases hfa : (f : Int) - (a : Int) < 0
      all_goals (
        gi_wp2
        clear cf2 e1
        gi_loopw [7] (fun c wr => ∃ j : Nat, j ≤ n - i0 ∧ c = .int .i64 ((i0 : Int) + (j : Int)) ∧ Hid (J ((a - f) + j) wr)) (fun c _ => n - (intOf c).toNat)
        case atStart => exact ⟨0, Nat.zero_le _, by first | (simp; done) | (simp; omega), HJ2.out⟩
        case round =>
          obtain ⟨j, hj, rfl, HJj⟩ := hrel
          by_cases hlt : i0 + j < n
          · have k3 : (i0 : Int) + (j : Int) < (n : Int) := by omega
            have HY1 : Hid (YieldAt Fence.wide (d - 1) Try.prog l #[.int .i64 ((a : Int) + 2 * ((i0 : Int) + (j : Int)) + 1)] wr fun e W' => Still W.heap.size wr W' ∧ ((e = .returned (.bool true) ∧ J ((a - f) + j + 1) W') ∨ (e = .returned (.bool false) ∧ Jx ((a - f) + j + 1) W'))) := by
              refine HY.out ((a - f) + j) _ _ HJj.out ?_ (by unfold plN; omega)
              unfold plA
              rw [if_neg (by omega), hi0, show a - f + j - (a - f) = j by omega]
              simp
            obtain ⟨fn, tmps, as', bo, hy, hR⟩ := HY1.out
            gi_wp2
            refine ⟨fun h => (by cases h), ?_⟩
            refine hR.mono ?_
            rintro e W3 ⟨-, (⟨rfl, hJ3⟩ | ⟨rfl, hJx3⟩)⟩
            · clear hy hR
              gi_wp2
              go_roundw
              case rel => exact ⟨j + 1, by omega, by go_num, hJ3⟩
              case measure => simp [intOf]; omega
            · gi_wp2
              refine bodyPost_ret (results_none rfl _ _ _) rfl ?_
              exact ⟨⟨_, rfl⟩, .inr ⟨(a - f) + j + 1, by unfold plN; omega, hJx3⟩⟩
          · have k3 : ¬ (i0 : Int) + (j : Int) < (n : Int) := by omega
            have Hend : Hid (J (plN a n f) wr) := by
              have := HJj.out
              rwa [show a - f + j = plN a n f by unfold plN; omega] at this
            gi_wp2
            go_end0
            exact ⟨⟨_, rfl⟩, .inl Hend.out⟩)
end Go.Proofs.Ythefmfjlinpepaa
