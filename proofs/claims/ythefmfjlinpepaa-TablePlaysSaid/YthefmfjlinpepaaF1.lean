/- way's function: its rounds; find. -/
import Derived.Test.YthefmfjlinpepaaM0
namespace Go.Proofs.Ythefmfjlinpepaa
open Go.RowKit Go.Shelf
set_option linter.unusedSimpArgs false
set_option linter.unusedVariables false
attribute [local go_sem] Oper.semAt_some

/-- Where a key's way begins. -/
def fst0 (n : Nat) (k : Int × Int) : Nat := (mixV k.1 k.2).toNat % n
/-- The place of the key of the i-th node on the way. -/
def wayN (a n : Nat) (k : Int × Int) (i : Nat) : Nat := a + 2 * ((fst0 n k + i) % n)
/-- What a key's way comes to, from its i-th node on, f nodes being left. -/
def fnd (a n : Nat) (sl : Sl) (k : Int × Int) : Nat → Nat → Int × Bool
  | 0, _ => (-1, false)
  | f + 1, i => if sl (wayN a n k i) = k then ((wayN a n k i : Int) + 1, true) else if (sl (wayN a n k i)).1 = 0 then ((wayN a n k i : Int) + 1, false) else fnd a n sl k f (i + 1)
/-- Has a key an array slot? -/
def inArr (a : Nat) (k : Int × Int) : Bool := k.1 == 2 && (decide (1 ≤ k.2) && decide (k.2 ≤ (a : Int)))
/-- find's answer. -/
def findR (a n : Nat) (sl : Sl) (k : Int × Int) : Int × Bool := if inArr a k then (k.2 - 1, true) else fnd a n sl k n 0

theorem mixV_bd (t n : Int) : 0 ≤ mixV t n ∧ mixV t n < 4294967296 := by
  unfold mixV bits
  exact ⟨by simp only [IntKind.wrap_u32]; omega, by simp only [IntKind.wrap_u32]; omega⟩

theorem way_any (s v : Value) (hs : s.oneCell' = true) (t x : Int) (w : World) (hv : v = AV t x) :
    Calls Try.prog 72 #[s, v] w fun e w' => e = .returned (.func (.func 82) #[] #[.pointer (some ⟨w.heap.size, 0, none⟩), .pointer (some ⟨w.heap.size + 1, 0, none⟩)]) ∧ w' = (w.alloc (.cells #[s] 81)).alloc (.cells #[.int .i64 t, .int .i64 x] 33) := by
  subst hv
  go_enter Try.func72, Try.ntmps72
  go_wp2
  go_ret
  exact ⟨rfl, rfl⟩

/-- What many ways come to is shown once. -/
structure Once (P : Prop) : Prop where
  out : P
theorem once {P G : Prop} (k : Once P → G) (h : P) : G := k ⟨h⟩

theorem quiet_same {P : Program} {f : FuncId} {args : Array Value} {w : World} {n : Nat} {v : Value}
    (h : Calls P f args (w.drewN n) fun e w' => e = .returned v ∧ w.drewN n = w') : Calls P f args (w.drewN n) fun e w'' => e = .returned v ∧ ∃ m, w'' = w.drewN m :=
  h.mono fun _ _ ⟨he, hm⟩ => ⟨he, n, hm.symm⟩
theorem below_drewN {B : Nat} {a w : World} (h : Below B a w) (n : Nat) : Below B a (w.drewN n) := ⟨h.os, h.tape, h.output, h.size, h.block⟩

/-- What way's function reads. -/
structure WayIs (W : World) (P : Nat) (most : Int) (a n nn : Nat) (sl : Sl) (Bs Bk : Nat) (k : Int × Int) : Prop where
  tb : Tb W P most a n nn sl
  bs : W.heap[Bs]? = some (.cells #[MI P] 81 (0, 0))
  bk : W.heap[Bk]? = some (.cells #[.int .i64 k.1, .int .i64 k.2] 33 (0, 0))
theorem WayIs.no {W W' : World} {P : Nat} {most : Int} {a n nn : Nat} {sl : Sl} {Bs Bk : Nat} {k : Int × Int} (h : WayIs W P most a n nn sl Bs Bk k) (hk : Kept No W W') : WayIs W' P most a n nn sl Bs Bk k :=
  ⟨h.tb.no hk, hk.heap h.bs id, hk.heap h.bk id⟩

theorem rem_first (n : Nat) (k : Int × Int) (hn : 1 ≤ n) : (mixV k.1 k.2).tmod (n : Int) = ((fst0 n k : Nat) : Int) := by
  have h := mixV_bd k.1 k.2
  rw [Int.tmod_eq_emod_of_nonneg h.1]
  unfold fst0
  rw [Int.natCast_emod, Int.toNat_of_nonneg h.1]

set_option maxRecDepth 100000 in
set_option maxHeartbeats 2000000 in
theorem way_rounds (d P : Nat) (most : Int) (a n nn : Nat) (sl : Sl) (Bs Bk : Nat) (k : Int × Int) (I : Nat → World → Prop) (hI : ∀ j W, I j W → WayIs W P most a n nn sl Bs Bk k) :
    Rounds Fence.wide d Try.prog 82 #[.pointer (some ⟨Bs, 0, none⟩), .pointer (some ⟨Bk, 0, none⟩)] n (fun j W args => args = #[.int .i64 (wayN a n k j : Nat)]) I := by
  intro l J Jx W hJI hJd hY h0 hJx
  have hW := hI _ _ (hJI _ _ h0)
  have HW : Hid (WayIs W P most a n nn sl Bs Bk k) := hW
  obtain ⟨b1, b2⟩ := hW.tb.bd
  have cs0 : W.cell? ⟨Bs, 0, none⟩ = some (MI P) := by rw [cell_of hW.bs]; rfl
  have ck0 : W.cell? ⟨Bk, 0, none⟩ = some (.int .i64 k.1) := by rw [cell_of hW.bk]; rfl
  have ck1 : W.cell? ⟨Bk, 1, none⟩ = some (.int .i64 k.2) := by rw [cell_of hW.bk]; rfl
  have HJ0 : Hid (J 0 W) := h0
  clear hW h0
  refine callsIn_of_wp Try.func82 rfl trivial ?_ rfl
  simp only [Try.ntmps82, List.size_toArray, List.length_cons, List.length_nil, Nat.reduceAdd, Nat.reduceSub, Array.replicate_succ, Array.replicate_zero, List.push_toArray, List.append_toArray, List.nil_append, List.cons_append]
  gi_wp2
  have HArr : Hid (∀ m, Calls Try.prog 25 #[MP P] (W.drewN m) fun e w' => e = .returned (.int .i64 a) ∧ W.drewN m = w') := fun m => Array_any (HW.out.tb.no ((Kept.refl _ _).drewN m))
  have HNod : Hid (∀ m, Calls Try.prog 26 #[MP P] (W.drewN m) fun e w' => e = .returned (.int .i64 n) ∧ W.drewN m = w') := fun m => Nodes_any (HW.out.tb.no ((Kept.refl _ _).drewN m))
  have hmA := mArray P
  have hmN := mNodes P
  have hmH := mHash P
  refine wpIn_wide.2 ?_
  go_quiet (first | (go_at_call 25; exact quiet_same (HArr.out _)) | (go_at_call 26; exact quiet_same (HNod.out _)))
  have HW1 : Hid (WayIs (W.drewN nq) P most a n nn sl Bs Bk k ∧ J 0 (W.drewN nq)) := ⟨HW.out.no ((Kept.refl _ _).drewN nq), hJd _ _ _ HJ0.out (Loose.drewN _ _ nq)⟩
  have cs1 : (W.drewN nq).cell? ⟨Bs, 0, none⟩ = some (MI P) := cs0
  have ck2 : (W.drewN nq).cell? ⟨Bk, 0, none⟩ = some (.int .i64 k.1) := ck0
  have ck3 : (W.drewN nq).cell? ⟨Bk, 1, none⟩ = some (.int .i64 k.2) := ck1
  generalize W.drewN nq = W1 at HW1 cs1 ck2 ck3 ⊢
  clear cs0 ck0 ck1 HW HJ0 HArr HNod
  by_cases hn : n < 1
  · have hn' : (n : Int) < 1 := by omega
    gi_wp2
    refine bodyPost_ret (results_none rfl _ _ _) rfl ?_
    obtain rfl : n = 0 := by omega
    exact ⟨⟨_, rfl⟩, .inl HW1.out.2⟩
  have hn' : ¬ (n : Int) < 1 := by omega
  have hn1 : 1 ≤ n := by omega
  obtain ⟨Hh, hHh⟩ : ∃ Hh : Nat, mixV k.1 k.2 = (Hh : Int) := ⟨(mixV k.1 k.2).toNat, by have := (mixV_bd k.1 k.2).1; omega⟩
  have hHb : Hh < 4294967296 := by have := (mixV_bd k.1 k.2).2; omega
  obtain ⟨f0, hf0⟩ : ∃ f0, Hh % n = f0 := ⟨_, rfl⟩
  have hf1 : f0 < n := by rw [← hf0]; exact Nat.mod_lt _ (by omega)
  have HF0 : Hid (fst0 n k = f0) := by show _ = _; unfold fst0; rw [hHh]; simpa using hf0
  have e1 : (Hh : Int).tmod (n : Int) = (f0 : Int) := by rw [Int.tmod_eq_emod_of_nonneg (by omega), ← Int.natCast_emod, hf0]
  have e2 : (Hh : Int) % (n : Int) = (f0 : Int) := by rw [← Int.natCast_emod, hf0]
  have HHa : Hid (∀ W, Calls Try.prog 33 #[MP P, AV k.1 k.2] W fun e w' => e = .returned (.int .u32 (Hh : Int)) ∧ Below W.heap.size W w') := fun W => by rw [← hHh]; exact Hash_any P _ _ W
  clear hHh hf0
  gi_wp2_with fail
  refine ⟨trivial, fun h => (by cases h), ?_⟩
  gi_at_call 33
  refine (callsIn_wide.2 (HHa.out _)).mono ?_
  rintro e W2 ⟨rfl, hb2⟩
  have HJ2 : Hid (J 0 W2) := hJd _ _ _ HW1.out.2 (Loose.of_below hb2)
  clear hb2 HW1 cs1 ck2 ck3 HHa
  gi_wp2
  gi_loopw [23] (fun c wr => ∃ j : Nat, j ≤ n ∧ c = .int .i64 j ∧ Hid (J j wr)) (fun c _ => n - (intOf c).toNat)
  case atStart => exact ⟨0, Nat.zero_le _, rfl, HJ2.out⟩
  case round =>
    obtain ⟨j, hj, rfl, HJj⟩ := hrel
    by_cases hlt : j < n
    · have k2 : (j : Int) < (n : Int) := by omega
      obtain ⟨m, hm⟩ : ∃ m, (f0 + j) % n = m := ⟨_, rfl⟩
      have hm1 : m < n := by rw [← hm]; exact Nat.mod_lt _ (by omega)
      have e3 : ((f0 : Int) + (j : Int)).tmod (n : Int) = (m : Int) := by
        rw [Int.tmod_eq_emod_of_nonneg (by omega), ← Int.natCast_add, ← Int.natCast_emod, hm]
      have HY : Hid (YieldAt Fence.wide (d - 1) Try.prog l #[.int .i64 ((a : Int) + 2 * (m : Int))] wr fun e W' => Still W.heap.size wr W' ∧ ((e = .returned (.bool true) ∧ J (j + 1) W') ∨ (e = .returned (.bool false) ∧ Jx (j + 1) W'))) := by
        refine hY j _ _ HJj.out ?_ hlt
        unfold wayN
        rw [HF0.out, hm]
        simp
      clear hm
      obtain ⟨fn, tmps, as', bo, hy, hR⟩ := HY.out
      gi_wp2
      refine ⟨fun h => (by cases h), ?_⟩
      refine hR.mono ?_
      rintro e W3 ⟨-, (⟨rfl, hJ3⟩ | ⟨rfl, hJx3⟩)⟩
      · clear hy hR
        gi_wp2
        go_roundw
        case rel => exact ⟨j + 1, by omega, by go_num, hJ3⟩
        case measure => simp [intOf]; omega
      · gi_wp2
        refine bodyPost_ret (results_none rfl _ _ _) rfl ?_
        exact ⟨⟨_, rfl⟩, .inr ⟨j + 1, by omega, hJx3⟩⟩
    · have he : j = n := by omega
      subst he
      gi_wp2
      go_end0
      exact ⟨⟨_, rfl⟩, .inl HJj.out⟩
end Go.Proofs.Ythefmfjlinpepaa
