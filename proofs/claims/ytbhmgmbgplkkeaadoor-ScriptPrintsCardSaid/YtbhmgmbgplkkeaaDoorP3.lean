/- The table of kinds in memory; rows by word and by kind. -/
import Derived.Test.YtbhmgmbgplkkeaaDoorP2
import Derived.Deep.MidRow
namespace Go.Proofs.YtbhmgmbgplkkeaaDoor
open Go.RowKit
set_option linter.unusedSimpArgs false
set_option linter.unusedVariables false

/-- A row's cells. -/
def rowC (r : Row) : List Value := [.int .i64 r.kind, .string (mk r.word), .bool r.num, .int .i64 r.most]
abbrev rowV (r : Row) : Value := .agg (rowC r).toArray
def tabV : List Value := rowsL.flatMap rowC
def r0 : Row := ⟨0, [], false, 0⟩
/-- .. as they lie in memory. -/
def RowsIs (w : World) : Prop := w.rangeAt 0 0 tabV
theorem RowsIs.no {w w' : World} (h : RowsIs w) (hk : Kept No w w') : RowsIs w' := fun j v hv => cell_kept (h j v hv) hk
theorem index90 (j : Nat) (hj : j < 6) (w : World) : (Instr.index 90 (.agg tabV.toArray) (.int .i64 (j : Int))).run Tryd.prog w = .ok (rowV (rowsL.getD j r0)) w := by
  match j, hj with
  | 0, _ => simp [Instr.index, go_sem, tabV, rowsL, rowC]
  | 1, _ => simp [Instr.index, go_sem, tabV, rowsL, rowC]
  | 2, _ => simp [Instr.index, go_sem, tabV, rowsL, rowC]
  | 3, _ => simp [Instr.index, go_sem, tabV, rowsL, rowC]
  | 4, _ => simp [Instr.index, go_sem, tabV, rowsL, rowC]
  | 5, _ => simp [Instr.index, go_sem, tabV, rowsL, rowC]
theorem cell_alloc_old (w : World) (o : Obj) (b k : Nat) (h : b < w.heap.size) : (w.alloc o).cell? ⟨b, k, none⟩ = w.cell? ⟨b, k, none⟩ := World.cell?_of_block (Below.heap_alloc w o b h)
theorem size_set (w : World) (a : Addr) (v : Value) : (w.setCell a v).heap.size = w.heap.size := by simp [World.setCell]
theorem rows_drop (j : Nat) (hj : j < 6) : rowsL.drop j = rowsL.getD j r0 :: rowsL.drop (j + 1) := by
  match j, hj with
  | 0, _ => rfl
  | 1, _ => rfl
  | 2, _ => rfl
  | 3, _ => rfl
  | 4, _ => rfl
  | 5, _ => rfl
theorem bytes_eq (l : List UInt8) (s : ByteArray) : (l == s.toList) = (l == bl s) := by
  rw [ByteArray.toList_eq]

set_option maxRecDepth 20000 in
set_option maxHeartbeats 2000000 in
theorem rowOfWord_any (s : ByteArray) (hs : s.size ≤ 100000) (w : World) (hr : RowsIs w) :
    Calls Tryd.prog 79 #[.string s] w fun e w' => e = .returned (.tuple #[rowV ((rowW (bl s)).getD r0), .bool (rowW (bl s)).isSome]) ∧ Kept No w w' := by
  obtain ⟨W, HW⟩ : ∃ W, Hid (W = w.alloc (.cells #[.int .i64 0, .string ⟨#[]⟩, .bool false, .int .i64 0] 79)) := ⟨_, rfl⟩
  have HRI : Hid (∀ o, RowsIs (w.alloc o)) := fun o => hr.no ((Kept.refl No w).alloc o)
  have HK : Hid (Kept No w W) := by show Kept _ _ _; rw [HW.out]; exact (Kept.refl No w).alloc _
  have HB : Hid (W.heap[w.heap.size]? = some (.cells #[.int .i64 0, .string ⟨#[]⟩, .bool false, .int .i64 0] 79 (0, 0))) := by show _ = _; rw [HW.out]; exact World.alloc_heap_new w _
  obtain ⟨R, HR⟩ : ∃ R, Hid (w.heap.size = R) := ⟨_, rfl⟩
  obtain ⟨A, HA⟩ : ∃ A, Hid (tabV.toArray = A) := ⟨_, rfl⟩
  have HIx : Hid (∀ j : Nat, j < 6 → ∀ w, (Instr.index 90 (.agg A) (.int .i64 (j : Int))).run Tryd.prog w = .ok (rowV (rowsL.getD j r0)) w) := by rw [← HA.out]; exact index90
  obtain ⟨X, HX⟩ : ∃ X, Hid ((rowsL.drop 0).find? (fun r => r.word == bl s) = X) := ⟨_, rfl⟩
  have hX : rowW (bl s) = X := HX.out
  rw [hX]
  clear hr hX
  have HRs : Hid (w.heap.size ≤ R) := by rw [HR.out]; exact Nat.le_refl _
  go_enter Tryd.func79, Tryd.ntmps79
  go_wp2_with (refine wpList_load_mid rfl 90 _ rfl 0 0 rfl tabV _ (HRI.out _) Tryd.underlying90 rfl (by kernel_rfl) ?_)
  rw [← HW.out, HA.out, HR.out]
  have HB2 : Hid (W.heap[R]? = some (.cells #[.int .i64 0, .string ⟨#[]⟩, .bool false, .int .i64 0] 79 (0, 0))) := by show _ = _; rw [← HR.out]; exact HB.out
  clear HB HW HA
  go_wp2_with fail
  go_loopw [5, 7] (fun v5 i wr => ∃ j : Nat, j ≤ 6 ∧ i = .int .i64 j ∧ Hid ((rowsL.drop j).find? (fun r => r.word == bl s) = X ∧ Kept No W wr)) (fun _ i _ => 6 - (intOf i).toNat)
  case atStart => exact ⟨0, by omega, rfl, HX.out, Kept.refl _ _⟩
  case round =>
    clear HX
    obtain ⟨j, hj, rfl, HJ⟩ := hrel
    have HBr : Hid (wr.heap[R]? = some (.cells #[.int .i64 0, .string ⟨#[]⟩, .bool false, .int .i64 0] 79 (0, 0))) := HJ.out.2.heap HB2.out id
    have z0 : wr.cell? ⟨R, 0, none⟩ = some (.int .i64 0) := by rw [cell_of HBr.out]; rfl
    have z1 : wr.cell? ⟨R, 1, none⟩ = some (.string ⟨#[]⟩) := by rw [cell_of HBr.out]; rfl
    have z2 : wr.cell? ⟨R, 2, none⟩ = some (.bool false) := by rw [cell_of HBr.out]; rfl
    have z3 : wr.cell? ⟨R, 3, none⟩ = some (.int .i64 0) := by rw [cell_of HBr.out]; rfl
    have f0 : ∀ o, wr.frozen? ⟨R, o, none⟩ = false := fun o => Lib.frozen_of_heap HBr.out o
    have hRl : R < wr.heap.size := hp_lt HBr.out
    have HSet : Hid (∀ a b c d : Value, ∀ o : Obj, Kept No w (((((wr.setCell ⟨R, 0, none⟩ a).setCell ⟨R, 1, none⟩ b).setCell ⟨R, 2, none⟩ c).setCell ⟨R, 3, none⟩ d).alloc o)) := fun a b c d o => by
      have := HRs.out
      exact ((((((HK.out.trans HJ.out.2).set _ _ _ (.inr this)).set _ _ _ (.inr this)).set _ _ _ (.inr this)).set _ _ _ (.inr this))).alloc o
    by_cases hlt : j < 6
    · have hix := HIx.out j hlt
      have HE := HJ.out.1
      rw [rows_drop j hlt] at HE
      generalize rowsL.getD j r0 = r at hix HE
      obtain ⟨k, wd, nm, mo⟩ := r
      have hix2 : ∀ w, (Instr.index 90 (.agg A) (.int .i64 (j : Int))).run Tryd.prog w = .ok (.agg #[.int .i64 k, .string (mk wd), .bool nm, .int .i64 mo]) w := hix
      clear hix
      rw [List.find?_cons] at HE
      have HE : Hid ((match (wd == bl s) with | true => some (Row.mk k wd nm mo) | false => (rowsL.drop (j + 1)).find? (fun r => r.word == bl s)) = X) := HE
      have hjj : (j : Int) < 6 := by omega
      cases hc : (wd == bl s) with
      | true =>
        rw [hc] at HE
        have hX : X = some (Row.mk k wd nm mo) := HE.out.symm
        subst hX
        have hcm : (wd == s.toList) = _ := (bytes_eq wd s).trans hc
        clear HE hc HJ HIx
        go_wp2_with fail
        refine bodyPost_ret (v := .tuple #[.agg #[.int .i64 k, .string (mk wd), .bool nm, .int .i64 mo], .bool true]) (by simp [results, Tryd.results79, go_sem, cell_alloc_old, size_set, hRl, z0, z1, z2, z3]) rfl ⟨rfl, HSet.out _ _ _ _ _⟩
      | false =>
        rw [hc] at HE
        have hcm : (wd == s.toList) = _ := (bytes_eq wd s).trans hc
        have HJ2 : Hid (∀ o, Kept No W (wr.alloc o)) := fun o => HJ.out.2.alloc o
        clear hc HJ HIx
        go_wp2
        go_roundw
        case rel => exact ⟨j + 1, by omega, by go_num, HE.out, HJ2.out _⟩
        case measure => simp [intOf] <;> omega
    · have HKr : Hid (Kept No W wr) := HJ.out.2
      obtain rfl : j = 6 := by omega
      have hX : X = none := by rw [← HJ.out.1]; rfl
      subst hX
      clear HJ HIx
      go_wp2_with fail
      refine bodyPost_ret (v := .tuple #[.agg #[.int .i64 0, .string ⟨#[]⟩, .bool false, .int .i64 0], .bool false]) (by simp [results, Tryd.results79, go_sem, z0, z1, z2, z3]) rfl ⟨rfl, ?_⟩
      have := HRs.out
      exact (((((HK.out.trans HKr.out)).set _ _ _ (.inr this)).set _ _ _ (.inr this)).set _ _ _ (.inr this)).set _ _ _ (.inr this)

set_option maxRecDepth 20000 in
set_option maxHeartbeats 2000000 in
theorem rowOfKind_any (n : Int) (w : World) (hr : RowsIs w) :
    Calls Tryd.prog 44 #[.int .i64 n] w fun e w' => e = .returned (.tuple #[rowV ((rowK n).getD r0), .bool (rowK n).isSome]) ∧ Kept No w w' := by
  obtain ⟨W, HW⟩ : ∃ W, Hid (W = w.alloc (.cells #[.int .i64 0, .string ⟨#[]⟩, .bool false, .int .i64 0] 79)) := ⟨_, rfl⟩
  have HRI : Hid (∀ o, RowsIs (w.alloc o)) := fun o => hr.no ((Kept.refl No w).alloc o)
  have HK : Hid (Kept No w W) := by show Kept _ _ _; rw [HW.out]; exact (Kept.refl No w).alloc _
  have HB : Hid (W.heap[w.heap.size]? = some (.cells #[.int .i64 0, .string ⟨#[]⟩, .bool false, .int .i64 0] 79 (0, 0))) := by show _ = _; rw [HW.out]; exact World.alloc_heap_new w _
  obtain ⟨R, HR⟩ : ∃ R, Hid (w.heap.size = R) := ⟨_, rfl⟩
  obtain ⟨A, HA⟩ : ∃ A, Hid (tabV.toArray = A) := ⟨_, rfl⟩
  have HIx : Hid (∀ j : Nat, j < 6 → ∀ w, (Instr.index 90 (.agg A) (.int .i64 (j : Int))).run Tryd.prog w = .ok (rowV (rowsL.getD j r0)) w) := by rw [← HA.out]; exact index90
  obtain ⟨X, HX⟩ : ∃ X, Hid ((rowsL.drop 0).find? (fun r => r.kind == n) = X) := ⟨_, rfl⟩
  have hX : rowK n = X := HX.out
  rw [hX]
  clear hr hX
  have HRs : Hid (w.heap.size ≤ R) := by rw [HR.out]; exact Nat.le_refl _
  go_enter Tryd.func44, Tryd.ntmps44
  go_wp2_with (refine wpList_load_mid rfl 90 _ rfl 0 0 rfl tabV _ (HRI.out _) Tryd.underlying90 rfl (by kernel_rfl) ?_)
  rw [← HW.out, HA.out, HR.out]
  have HB2 : Hid (W.heap[R]? = some (.cells #[.int .i64 0, .string ⟨#[]⟩, .bool false, .int .i64 0] 79 (0, 0))) := by show _ = _; rw [← HR.out]; exact HB.out
  clear HB HW HA
  go_wp2_with fail
  go_loopw [5, 7] (fun v5 i wr => ∃ j : Nat, j ≤ 6 ∧ i = .int .i64 j ∧ Hid ((rowsL.drop j).find? (fun r => r.kind == n) = X ∧ Kept No W wr)) (fun _ i _ => 6 - (intOf i).toNat)
  case atStart => exact ⟨0, by omega, rfl, HX.out, Kept.refl _ _⟩
  case round =>
    clear HX
    obtain ⟨j, hj, rfl, HJ⟩ := hrel
    have HBr : Hid (wr.heap[R]? = some (.cells #[.int .i64 0, .string ⟨#[]⟩, .bool false, .int .i64 0] 79 (0, 0))) := HJ.out.2.heap HB2.out id
    have z0 : wr.cell? ⟨R, 0, none⟩ = some (.int .i64 0) := by rw [cell_of HBr.out]; rfl
    have z1 : wr.cell? ⟨R, 1, none⟩ = some (.string ⟨#[]⟩) := by rw [cell_of HBr.out]; rfl
    have z2 : wr.cell? ⟨R, 2, none⟩ = some (.bool false) := by rw [cell_of HBr.out]; rfl
    have z3 : wr.cell? ⟨R, 3, none⟩ = some (.int .i64 0) := by rw [cell_of HBr.out]; rfl
    have f0 : ∀ o, wr.frozen? ⟨R, o, none⟩ = false := fun o => Lib.frozen_of_heap HBr.out o
    have hRl : R < wr.heap.size := hp_lt HBr.out
    have HSet : Hid (∀ a b c d : Value, ∀ o : Obj, Kept No w (((((wr.setCell ⟨R, 0, none⟩ a).setCell ⟨R, 1, none⟩ b).setCell ⟨R, 2, none⟩ c).setCell ⟨R, 3, none⟩ d).alloc o)) := fun a b c d o => by
      have := HRs.out
      exact ((((((HK.out.trans HJ.out.2).set _ _ _ (.inr this)).set _ _ _ (.inr this)).set _ _ _ (.inr this)).set _ _ _ (.inr this))).alloc o
    by_cases hlt : j < 6
    · have hix := HIx.out j hlt
      have HE := HJ.out.1
      rw [rows_drop j hlt] at HE
      generalize rowsL.getD j r0 = r at hix HE
      obtain ⟨k, wd, nm, mo⟩ := r
      have hix2 : ∀ w, (Instr.index 90 (.agg A) (.int .i64 (j : Int))).run Tryd.prog w = .ok (.agg #[.int .i64 k, .string (mk wd), .bool nm, .int .i64 mo]) w := hix
      clear hix
      rw [List.find?_cons] at HE
      have HE : Hid ((match (k == n) with | true => some (Row.mk k wd nm mo) | false => (rowsL.drop (j + 1)).find? (fun r => r.kind == n)) = X) := HE
      have hjj : (j : Int) < 6 := by omega
      cases hc : (k == n) with
      | true =>
        rw [hc] at HE
        have hX : X = some (Row.mk k wd nm mo) := HE.out.symm
        subst hX
        have hcm : (k == n) = _ := hc
        clear HE hc HJ HIx
        go_wp2_with fail
        refine bodyPost_ret (v := .tuple #[.agg #[.int .i64 k, .string (mk wd), .bool nm, .int .i64 mo], .bool true]) (by simp [results, Tryd.results44, go_sem, cell_alloc_old, size_set, hRl, z0, z1, z2, z3]) rfl ⟨rfl, HSet.out _ _ _ _ _⟩
      | false =>
        rw [hc] at HE
        have hcm : (k == n) = _ := hc
        have HJ2 : Hid (∀ o, Kept No W (wr.alloc o)) := fun o => HJ.out.2.alloc o
        clear hc HJ HIx
        go_wp2
        go_roundw
        case rel => exact ⟨j + 1, by omega, by go_num, HE.out, HJ2.out _⟩
        case measure => simp [intOf] <;> omega
    · have HKr : Hid (Kept No W wr) := HJ.out.2
      obtain rfl : j = 6 := by omega
      have hX : X = none := by rw [← HJ.out.1]; rfl
      subst hX
      clear HJ HIx
      go_wp2_with fail
      refine bodyPost_ret (v := .tuple #[.agg #[.int .i64 0, .string ⟨#[]⟩, .bool false, .int .i64 0], .bool false]) (by simp [results, Tryd.results44, go_sem, z0, z1, z2, z3]) rfl ⟨rfl, ?_⟩
      have := HRs.out
      exact (((((HK.out.trans HKr.out)).set _ _ _ (.inr this)).set _ _ _ (.inr this)).set _ _ _ (.inr this)).set _ _ _ (.inr this)
end Go.Proofs.YtbhmgmbgplkkeaaDoor
