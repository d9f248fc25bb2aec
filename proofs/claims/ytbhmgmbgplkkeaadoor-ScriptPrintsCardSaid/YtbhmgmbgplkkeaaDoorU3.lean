/- Ints as digits; a point's line; the builder. -/
import Derived.Test.YtbhmgmbgplkkeaaDoorU2
import Derived.Test.YtbhmgmbgplkkeaaDoorK0
import Derived.Test.YtbhmgmbgplkkeaaDoorM5
import Derived.Lib.AppendIntMem
namespace Go.Proofs.YtbhmgmbgplkkeaaDoor
open Go.RowKit
set_option linter.unusedSimpArgs false
set_option linter.unusedVariables false

theorem TenIs.no {w w' : World} (h : TenIs w) (hk : Kept No w w') : TenIs w' := by
  unfold TenIs Lib.TabIs World.var? at h ⊢
  cases hg : Tryd.prog.globalNamed (laidB[2]'(by decide)).1 with
  | none => rw [hg] at h; cases h
  | some g =>
    rw [hg] at h
    simp only [Option.bind_some] at h ⊢
    cases hb : w.heap[g]? with
    | none => rw [hb] at h; cases h
    | some o => rw [hk.heap hb id, ← hb]; exact h
theorem Itoa_any (n : Int) (h0 : -9223372036854775808 ≤ n) (h1 : n ≤ 9223372036854775807) (w : World) (ht : TenIs w) :
    Calls Tryd.prog 28 #[.int .i64 n] w fun e w' => e = .returned (.string (mk (Lib.itoa n))) ∧ Kept No w w' := by
  refine Calls.mono (Any.strconv_Itoa Tryd.laysM171 n h0 h1 w ht) ?_
  rintro e w' ⟨rfl, k, os, rfl⟩
  exact ⟨rfl, Kept.of_below (Lib.below_grow _ w (Nat.le_refl _) k os)⟩

theorem itoa_size {n : Int} (h0 : 0 ≤ n) (h1 : n ≤ 999999999) : (Lib.itoa n).length ≤ 20 := by
  obtain ⟨m, rfl, e⟩ := itoa_pos h0
  rw [e, Lib.decDigits_length]
  have := nDigits_le 8 m (by omega)
  omega
theorem mk_cat (a b : List UInt8) : (mk a ++ mk b) = mk (a ++ b) := by
  apply bl_inj; simp [bl, mk]

set_option maxRecDepth 20000 in
set_option maxHeartbeats 4000000 in
theorem pointLine_any (p : V) (k : Nat) (hf : fitsP p = true) (hk : k ≤ 1000000) (w : World) (hr : RowsIs w) (ht : TenIs w) :
    Calls Tryd.prog 30 #[AV p, .int .i64 k] w fun e w' => e = .returned (.string (mk (lineT p k))) ∧ Kept No w w' := by
  have HRo := fun X (hX : Kept No w X) => rowOfKind_any p.1 X (hr.no hX)
  have HI : Hid (∀ X, Kept No w X → ∀ n : Int, -9223372036854775808 ≤ n → n ≤ 9223372036854775807 → Calls Tryd.prog 28 #[.int .i64 n] X fun e w' => e = .returned (.string (mk (Lib.itoa n))) ∧ Kept No X w') := fun X hX n h0 h1 => Itoa_any n h0 h1 X (ht.no hX)
  unfold fitsP at hf
  unfold lineT
  obtain ⟨p1, p2⟩ := p
  dsimp only at HRo hf ⊢
  cases hrk : rowK p1 with
  | none => rw [hrk] at hf; cases hf
  | some r =>
    obtain ⟨rk, wd, nm, mo⟩ := r
    rw [hrk] at hf HRo
    have hmem := (rowK_mem hrk).1
    have hmo : mo ≤ 999999999 ∧ wd.length ≤ 7 := by
      have := rows_all _ hmem
      exact ⟨this.2.2.2.2.2.2.2.2.1, this.2.2.2.2.2.1⟩
    simp only [Bool.and_eq_true, decide_eq_true_eq] at hf
    have HRr : Hid (∀ X, Kept No w X → Calls Tryd.prog 44 #[.int .i64 p1] X fun e w' => e = .returned (.tuple #[.agg #[.int .i64 rk, .string (mk wd), .bool nm, .int .i64 mo], .bool true]) ∧ Kept No X w') := HRo
    have hg : ((some (Row.mk rk wd nm mo)).getD lineT.r0') = Row.mk rk wd nm mo := rfl
    rw [hg]
    dsimp only
    obtain ⟨W, HW⟩ : ∃ W, Hid (W = w.alloc (.cells #[.int .i64 p1, .int .i64 p2] 45)) := ⟨_, rfl⟩
    have HA : Hid (Kept No w W) := by show Kept _ _ _; rw [HW.out]; exact (Kept.refl No w).alloc _
    obtain ⟨R, HR⟩ : ∃ R, Hid (w.heap.size = R) := ⟨_, rfl⟩
    have HB : Hid (W.heap[R]? = some (.cells #[.int .i64 p1, .int .i64 p2] 45 (0, 0))) := by show _ = _; rw [HW.out, ← HR.out]; exact World.alloc_heap_new w _
    have b0 : W.cell? ⟨R, 0, none⟩ = some (.int .i64 p1) := by rw [cell_of HB.out]; rfl
    clear HRo hrk hmem hg hr ht
    have HI1 : Hid (∀ X, Kept No w X → Calls Tryd.prog 28 #[.int .i64 p2] X fun e w' => e = .returned (.string (mk (Lib.itoa p2))) ∧ Kept No X w') := fun X hX => HI.out X hX p2 (by omega) (by omega)
    have HI2 : Hid (∀ X, Kept No w X → Calls Tryd.prog 28 #[.int .i64 (k : Int)] X fun e w' => e = .returned (.string (mk (Lib.itoa (k : Int)))) ∧ Kept No X w') := fun X hX => HI.out X hX k (by omega) (by omega)
    obtain ⟨WD, HWD⟩ : ∃ WD, Hid (mk wd = WD) := ⟨_, rfl⟩
    obtain ⟨A, HAe⟩ : ∃ A, Hid (mk (Lib.itoa p2) = A) := ⟨_, rfl⟩
    obtain ⟨N, HNe⟩ : ∃ N, Hid (mk (Lib.itoa (k : Int)) = N) := ⟨_, rfl⟩
    have sW : WD.size ≤ 7 := by rw [← HWD.out, mk_size]; exact hmo.2
    have sA : A.size ≤ 20 := by rw [← HAe.out, mk_size]; exact itoa_size hf.1 (by omega)
    have sN : N.size ≤ 20 := by rw [← HNe.out, mk_size]; exact itoa_size (by omega) (by omega)
    rw [HAe.out] at HI1
    rw [HNe.out] at HI2
    rw [HWD.out] at HRr
    clear HI hf
    by_cases hk1 : 1 < k
    · have ik : (1 : Int) < (k : Int) := by omega
      rw [if_pos hk1]
      cases nm with
      | true =>
        go_enter Tryd.func30, Tryd.ntmps30
        go_wp2_with (first | rw [← HW.out, HR.out])
        refine Calls.mono (HRr.out _ HA.out) ?_
        rintro e w1 ⟨rfl, hk1⟩
        have HB1 : Hid (w1.heap[R]? = some (.cells #[.int .i64 p1, .int .i64 p2] 45 (0, 0))) := hk1.heap HB.out id
        have c1 : w1.cell? ⟨R, 1, none⟩ = some (.int .i64 p2) := by rw [cell_of HB1.out]; rfl
        have hl1 : R < w1.heap.size := hp_lt HB1.out
        have HK1 : Hid (∀ o, Kept No w (w1.alloc o)) := fun o => (HA.out.trans hk1).alloc o
        clear hk1 b0
        go_wp2_with fail
        refine Calls.mono (HI1.out _ (HK1.out _)) ?_
        rintro e w2 ⟨rfl, hk2⟩
        have HK2 : Hid (Kept No w w2) := (HK1.out _).trans hk2
        clear hk2 c1 hl1
        go_wp2_with fail
        refine Calls.mono (HI2.out _ HK2.out) ?_
        rintro e w3 ⟨rfl, hk3⟩
        have HK3 : Hid (Kept No w w3) := HK2.out.trans hk3
        clear hk3
        go_wp2_with fail
        go_ret
        exact ⟨congrArg Ending.returned (congrArg Value.string (bl_inj (by simp [bl, mk, ← HWD.out, ← HAe.out, ← HNe.out]))), HK3.out⟩
      | false =>
        go_enter Tryd.func30, Tryd.ntmps30
        go_wp2_with (first | rw [← HW.out, HR.out])
        refine Calls.mono (HRr.out _ HA.out) ?_
        rintro e w1 ⟨rfl, hk1⟩
        have HB1 : Hid (w1.heap[R]? = some (.cells #[.int .i64 p1, .int .i64 p2] 45 (0, 0))) := hk1.heap HB.out id
        have c1 : w1.cell? ⟨R, 1, none⟩ = some (.int .i64 p2) := by rw [cell_of HB1.out]; rfl
        have hl1 : R < w1.heap.size := hp_lt HB1.out
        have HK1 : Hid (∀ o, Kept No w (w1.alloc o)) := fun o => (HA.out.trans hk1).alloc o
        clear hk1 b0
        go_wp2_with fail
        refine Calls.mono (HI2.out _ (HK1.out _)) ?_
        rintro e w3 ⟨rfl, hk3⟩
        have HK3 : Hid (Kept No w w3) := (HK1.out _).trans hk3
        clear hk3
        go_wp2_with fail
        go_ret
        exact ⟨congrArg Ending.returned (congrArg Value.string (bl_inj (by simp [bl, mk, ← HWD.out, ← HAe.out, ← HNe.out]))), HK3.out⟩
    · have ik : ¬ (1 : Int) < (k : Int) := by omega
      rw [if_neg hk1]
      cases nm with
      | true =>
        go_enter Tryd.func30, Tryd.ntmps30
        go_wp2_with (first | rw [← HW.out, HR.out])
        refine Calls.mono (HRr.out _ HA.out) ?_
        rintro e w1 ⟨rfl, hk1⟩
        have HB1 : Hid (w1.heap[R]? = some (.cells #[.int .i64 p1, .int .i64 p2] 45 (0, 0))) := hk1.heap HB.out id
        have c1 : w1.cell? ⟨R, 1, none⟩ = some (.int .i64 p2) := by rw [cell_of HB1.out]; rfl
        have hl1 : R < w1.heap.size := hp_lt HB1.out
        have HK1 : Hid (∀ o, Kept No w (w1.alloc o)) := fun o => (HA.out.trans hk1).alloc o
        clear hk1 b0
        go_wp2_with fail
        refine Calls.mono (HI1.out _ (HK1.out _)) ?_
        rintro e w2 ⟨rfl, hk2⟩
        have HK2 : Hid (Kept No w w2) := (HK1.out _).trans hk2
        clear hk2 c1 hl1
        go_wp2_with fail
        go_ret
        exact ⟨congrArg Ending.returned (congrArg Value.string (bl_inj (by simp [bl, mk, ← HWD.out, ← HAe.out, ← HNe.out]))), HK2.out⟩
      | false =>
        go_enter Tryd.func30, Tryd.ntmps30
        go_wp2_with (first | rw [← HW.out, HR.out])
        refine Calls.mono (HRr.out _ HA.out) ?_
        rintro e w1 ⟨rfl, hk1⟩
        have HB1 : Hid (w1.heap[R]? = some (.cells #[.int .i64 p1, .int .i64 p2] 45 (0, 0))) := hk1.heap HB.out id
        have c1 : w1.cell? ⟨R, 1, none⟩ = some (.int .i64 p2) := by rw [cell_of HB1.out]; rfl
        have hl1 : R < w1.heap.size := hp_lt HB1.out
        have HK1 : Hid (∀ o, Kept No w (w1.alloc o)) := fun o => (HA.out.trans hk1).alloc o
        clear hk1 b0
        go_wp2_with fail
        go_ret
        exact ⟨congrArg Ending.returned (congrArg Value.string (bl_inj (by simp [bl, mk, ← HWD.out, ← HAe.out, ← HNe.out]))), (HK1.out _)⟩
end Go.Proofs.YtbhmgmbgplkkeaaDoor
