/- values: the slots of a table's values with their keys. -/
import Derived.Test.YtnofmpbdfcolfaaL0
namespace Go.Proofs.Ytnofmpbdfcolfaa
open Go.RowKit Go.Shelf
set_option linter.unusedSimpArgs false
set_option linter.unusedVariables false
attribute [local go_sem] Oper.semAt_some

/-- From a slot on, f slots at the most. -/
def valsF (t : Th) : Nat → Nat → List (Nat × V)
  | 0, _ => []
  | f + 1, s => if s < t.sl.length then (if t.arr < (s : Int) ∧ s + 1 < t.sl.length then (s + 1, t.sl.getD s (0, 0)) :: valsF t f (s + 2) else (s, (0, 0)) :: valsF t f (s + 1)) else []
/-- The slots of a table's values, each with the key ahead of it. -/
def vals (t : Th) : List (Nat × V) := valsF t t.sl.length 1

theorem valsF_lt (t : Th) : ∀ f s p, p ∈ valsF t f s → p.1 < t.sl.length
  | 0, _, p, h => by simp [valsF] at h
  | f + 1, s, p, h => by
    unfold valsF at h
    split at h
    · split at h
      · rcases List.mem_cons.1 h with rfl | h
        · simp; omega
        · exact valsF_lt t f _ p h
      · rcases List.mem_cons.1 h with rfl | h
        · simp; omega
        · exact valsF_lt t f _ p h
    · cases h
theorem vals_lt {t : Th} {p : Nat × V} (h : p ∈ vals t) : p.1 < t.sl.length := valsF_lt t _ _ p h

/-- A thing in a box. -/
structure ThBox (W : World) (tb : Nat) (t : Th) (sv : Value) : Prop where
  hp : W.heap[tb]? = some (.cells #[.int .i64 t.kind, .int .i64 t.weak, .int .i64 t.arr, sv, .int .i64 t.fin] 43 (0, 0))
  rd : RdV W sv t.sl

theorem values_any (t : Th) (ao : Option Addr) (ln cap : Nat) (w : World) :
    Calls Try.prog 52 #[AT t (.slice ao ln cap)] w fun e w' => e = .returned (.func (.func 64) #[] #[PT w.heap.size]) ∧ w' = w.alloc (.cells #[.int .i64 t.kind, .int .i64 t.weak, .int .i64 t.arr, .slice ao ln cap, .int .i64 t.fin] 43) := by
  obtain ⟨k, wk, ar, sl, fi⟩ := t
  go_enter Try.func52, Try.ntmps52
  go_wp2
  go_ret
  exact ⟨rfl, rfl⟩

/-- What comes in round j. -/
def valAt (t : Th) (j : Nat) : Nat × V := (vals t).getD j (0, (0, 0))
theorem drop_cons {t : Th} {j : Nat} {p : Nat × V} {r : List (Nat × V)} (h : (vals t).drop j = p :: r) : j < (vals t).length ∧ valAt t j = p ∧ (vals t).drop (j + 1) = r := by
  have hj : j < (vals t).length := by
    rcases Nat.lt_or_ge j (vals t).length with hj | hj
    · exact hj
    · rw [List.drop_eq_nil_of_le hj] at h; cases h
  rw [List.drop_eq_getElem_cons hj] at h
  injection h with h1 h2
  exact ⟨hj, by simp [valAt, List.getD, hj, h1], h2⟩

set_option maxRecDepth 100000 in
set_option maxHeartbeats 4000000 in
theorem values_rounds (d tb : Nat) (t : Th) (sv : Value) (hn : t.sl.length ≤ 1000000) (I : Nat → World → Prop) (hI : ∀ j W, I j W → ThBox W tb t sv) :
    Rounds Fence.wide d Try.prog 64 #[PT tb] (vals t).length (fun j W args => args = #[.int .i64 ((valAt t j).1 : Nat), AV (valAt t j).2]) I := by
  intro l J Jx W hJI hJd hY h0 hJx
  have HI : Hid (∀ j W, J j W → ThBox W tb t sv) := fun j W h => hI j W (hJI j W h)
  have HJ0 : Hid (J 0 W) := h0
  have HJd : Hid (∀ k W1 W', J k W1 → Kept No W1 W' → J k W') := fun k W1 W' h hk => hJd k W1 W' h (Loose.of_below (hk.below (Nat.le_refl _) (fun _ e => e.elim)))
  have HY : Hid (∀ j W1, J j W1 → j < (vals t).length → YieldAt Fence.wide (d - 1) Try.prog l #[.int .i64 ((valAt t j).1 : Nat), AV (valAt t j).2] W1 fun e W' => Still W.heap.size W1 W' ∧ ((e = .returned (.bool true) ∧ J (j + 1) W') ∨ (e = .returned (.bool false) ∧ Jx (j + 1) W'))) := fun j W1 h hj => hY j _ W1 h rfl hj
  obtain ⟨ao, cap, hsv, _⟩ := (HI.out 0 W h0).rd
  subst hsv
  have HC : Hid (∀ j W, J j W → W.cell? ⟨tb, 2, none⟩ = some (.int .i64 t.arr) ∧ W.cell? ⟨tb, 3, none⟩ = some (.slice ao t.sl.length cap)) := fun j W h => by
    have := (HI.out j W h).hp
    exact ⟨by rw [cell_of this]; rfl, by rw [cell_of this]; rfl⟩
  have HRd : Hid (∀ j W, J j W → ∀ i (hi : i < t.sl.length), ∃ b off, ao = some ⟨b, off, none⟩ ∧ W.cell? ⟨b, off + i * 2, none⟩ = some (.int .i64 t.sl[i].1) ∧ W.cell? ⟨b, off + i * 2 + 1, none⟩ = some (.int .i64 t.sl[i].2)) := fun j W h i hi => by
    obtain ⟨ao', cap', e, h⟩ := (HI.out j W h).rd
    injection e with e1 e2 e3
    subst e1
    exact h i hi
  clear hI hJI hJd hY h0 hJx HI
  refine callsIn_of_wp Try.func64 rfl trivial ?_ rfl
  simp only [Try.ntmps64, List.size_toArray, List.length_cons, List.length_nil, Nat.reduceAdd, Nat.reduceSub, Array.replicate_succ, Array.replicate_zero, List.push_toArray, List.append_toArray, List.nil_append, List.cons_append]
  gi_wp2
  gi_loopw [3] (fun c wr => ∃ j s f : Nat, c = .int .i64 s ∧ s ≤ t.sl.length + 1 ∧ j ≤ (vals t).length ∧ t.sl.length ≤ s + f ∧ Hid ((vals t).drop j = valsF t f s) ∧ Hid (J j wr)) (fun c _ => t.sl.length + 2 - (intOf c).toNat)
  case atStart => exact ⟨0, 1, t.sl.length, rfl, by omega, by omega, by omega, rfl, HJ0.out⟩
  case round =>
    obtain ⟨j, s, f, rfl, hs, hj, hf, HDr, HJj⟩ := hrel
    obtain ⟨c2, c3⟩ := HC.out j wr HJj.out
    have HA : Hid (∀ o, J j (wr.alloc o)) := fun o => HJd.out j wr _ HJj.out ((Kept.refl _ _).alloc _)
    have c2a : ∀ o, (wr.alloc o).cell? ⟨tb, 2, none⟩ = some (.int .i64 t.arr) := fun o => (HC.out j _ (HA.out o)).1
    have c3a : ∀ o, (wr.alloc o).cell? ⟨tb, 3, none⟩ = some (.slice ao t.sl.length cap) := fun o => (HC.out j _ (HA.out o)).2
    by_cases hlt : s < t.sl.length
    · have k1 : (s : Int) < (t.sl.length : Int) := by omega
      obtain ⟨f', rfl⟩ : ∃ f', f = f' + 1 := ⟨f - 1, by omega⟩
      by_cases hA : t.arr < (s : Int)
      · by_cases hB : s + 1 < t.sl.length
        · have k2 : (s : Int) + 1 < (t.sl.length : Int) := by omega
          have hd : (vals t).drop j = (s + 1, t.sl[s]) :: valsF t f' (s + 2) := by
            rw [HDr.out, valsF, if_pos hlt, if_pos ⟨hA, hB⟩]
            congr 2
            simp [List.getD, hlt]
          obtain ⟨hjn, hva, hd2⟩ := drop_cons hd
          have HD2 : Hid ((vals t).drop (j + 1) = valsF t f' (s + 2)) := hd2
          obtain ⟨b, off, rfl, q0, q1⟩ := HRd.out j _ (HA.out (.cells #[.int .i64 0, .int .i64 0] 40)) s hlt
          obtain ⟨x, hx⟩ : ∃ x, t.sl[s] = x := ⟨_, rfl⟩
          rw [hx] at q0 q1 hva
          obtain ⟨x1, x2⟩ := x
          dsimp only at q0 q1
          have HYj : Hid (YieldAt Fence.wide (d - 1) Try.prog l #[.int .i64 ((s : Int) + 1), AV (x1, x2)] (wr.alloc (.cells #[.int .i64 x1, .int .i64 x2] 40)) fun e W' => Still W.heap.size (wr.alloc (.cells #[.int .i64 x1, .int .i64 x2] 40)) W' ∧ ((e = .returned (.bool true) ∧ J (j + 1) W') ∨ (e = .returned (.bool false) ∧ Jx (j + 1) W'))) := by
            have := HY.out j _ (HA.out (.cells #[.int .i64 x1, .int .i64 x2] 40)) hjn
            rw [hva] at this
            exact this
          clear hx hva hd hd2 HDr
          obtain ⟨fn, tmps, as', bo, hy, hR⟩ := HYj.out
          clear HYj
          gi_wp2
          refine ⟨fun h => (by cases h), ?_⟩
          refine hR.mono ?_
          rintro e W3 ⟨-, (⟨rfl, hJ3⟩ | ⟨rfl, hJx3⟩)⟩
          · clear hy hR
            gi_wp2
            go_roundw
            case rel => exact ⟨j + 1, s + 2, f', by go_num, by omega, by omega, by omega, HD2.out, hJ3⟩
            case measure => simp [intOf]; omega
          · gi_wp2
            refine bodyPost_ret (results_none rfl _ _ _) rfl ?_
            exact ⟨⟨_, rfl⟩, .inr ⟨j + 1, by omega, hJx3⟩⟩
        · have k2 : ¬ (s : Int) + 1 < (t.sl.length : Int) := by omega
          have hd : (vals t).drop j = (s, (0, 0)) :: valsF t f' (s + 1) := by
            rw [HDr.out, valsF, if_pos hlt, if_neg (by omega)]
          obtain ⟨hjn, hva, hd2⟩ := drop_cons hd
          have HD2 : Hid ((vals t).drop (j + 1) = valsF t f' (s + 1)) := hd2
          have HYj : Hid (YieldAt Fence.wide (d - 1) Try.prog l #[.int .i64 (s : Int), AV (0, 0)] (wr.alloc (.cells #[.int .i64 0, .int .i64 0] 40)) fun e W' => Still W.heap.size (wr.alloc (.cells #[.int .i64 0, .int .i64 0] 40)) W' ∧ ((e = .returned (.bool true) ∧ J (j + 1) W') ∨ (e = .returned (.bool false) ∧ Jx (j + 1) W'))) := by
            have := HY.out j _ (HA.out (.cells #[.int .i64 0, .int .i64 0] 40)) hjn
            rw [hva] at this
            exact this
          clear hva hd hd2 HDr
          obtain ⟨fn, tmps, as', bo, hy, hR⟩ := HYj.out
          clear HYj
          gi_wp2
          refine ⟨fun h => (by cases h), ?_⟩
          refine hR.mono ?_
          rintro e W3 ⟨-, (⟨rfl, hJ3⟩ | ⟨rfl, hJx3⟩)⟩
          · clear hy hR
            gi_wp2
            go_roundw
            case rel => exact ⟨j + 1, s + 1, f', by go_num, by omega, by omega, by omega, HD2.out, hJ3⟩
            case measure => simp [intOf]; omega
          · gi_wp2
            refine bodyPost_ret (results_none rfl _ _ _) rfl ?_
            exact ⟨⟨_, rfl⟩, .inr ⟨j + 1, by omega, hJx3⟩⟩
      · have hd : (vals t).drop j = (s, (0, 0)) :: valsF t f' (s + 1) := by
          rw [HDr.out, valsF, if_pos hlt, if_neg (by omega)]
        obtain ⟨hjn, hva, hd2⟩ := drop_cons hd
        have HD2 : Hid ((vals t).drop (j + 1) = valsF t f' (s + 1)) := hd2
        have HYj : Hid (YieldAt Fence.wide (d - 1) Try.prog l #[.int .i64 (s : Int), AV (0, 0)] (wr.alloc (.cells #[.int .i64 0, .int .i64 0] 40)) fun e W' => Still W.heap.size (wr.alloc (.cells #[.int .i64 0, .int .i64 0] 40)) W' ∧ ((e = .returned (.bool true) ∧ J (j + 1) W') ∨ (e = .returned (.bool false) ∧ Jx (j + 1) W'))) := by
          have := HY.out j _ (HA.out (.cells #[.int .i64 0, .int .i64 0] 40)) hjn
          rw [hva] at this
          exact this
        clear hva hd hd2 HDr
        obtain ⟨fn, tmps, as', bo, hy, hR⟩ := HYj.out
        clear HYj
        gi_wp2
        refine ⟨fun h => (by cases h), ?_⟩
        refine hR.mono ?_
        rintro e W3 ⟨-, (⟨rfl, hJ3⟩ | ⟨rfl, hJx3⟩)⟩
        · clear hy hR
          gi_wp2
          go_roundw
          case rel => exact ⟨j + 1, s + 1, f', by go_num, by omega, by omega, by omega, HD2.out, hJ3⟩
          case measure => simp [intOf]; omega
        · gi_wp2
          refine bodyPost_ret (results_none rfl _ _ _) rfl ?_
          exact ⟨⟨_, rfl⟩, .inr ⟨j + 1, by omega, hJx3⟩⟩
    · have k1 : ¬ (s : Int) < (t.sl.length : Int) := by omega
      have hd : (vals t).drop j = [] := by
        rw [HDr.out]
        cases f with
        | zero => rfl
        | succ f => rw [valsF, if_neg hlt]
      obtain rfl : j = (vals t).length := by
        have := List.drop_eq_nil_iff.1 hd
        omega
      clear hd HDr
      gi_wp2
      go_end0
      exact ⟨⟨_, rfl⟩, .inl HJj.out⟩
end Go.Proofs.Ytnofmpbdfcolfaa
