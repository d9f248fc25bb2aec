/- The point that a line without an x tells. -/
import Derived.Test.YtbhmgmbgplkkeaaDoorP3
namespace Go.Proofs.YtbhmgmbgplkkeaaDoor
open Go.RowKit
set_option linter.unusedSimpArgs false
set_option linter.unusedVariables false

def ptN : Option Row → Option V
  | some r => if r.num = true then none else some (r.kind, 0)
  | none => none
def ptY (d : List UInt8) : Option Row → Option V
  | some r => if r.num = true then numR r d else none
  | none => none
theorem ptP_N (l : List UInt8) (h : cutO [32] l = none) : ptP l = ptN (rowW l) := by
  unfold ptP
  simp only [h]
  cases rowW l <;> rfl
theorem ptP_Y (l w d : List UInt8) (h : cutO [32] l = some (w, d)) : ptP l = ptY d (rowW w) := by
  unfold ptP
  simp only [h]
  cases rowW w with
  | none => rfl
  | some r => show _ = (if r.num = true then numR r d else none); unfold numR; rfl
theorem rowV_mk (k : Int) (wd : List UInt8) (nm : Bool) (mo : Int) : rowV ⟨k, wd, nm, mo⟩ = .agg #[.int .i64 k, .string (mk wd), .bool nm, .int .i64 mo] := rfl
theorem rowV_r0 : rowV ((none : Option Row).getD r0) = .agg #[.int .i64 0, .string ⟨#[]⟩, .bool false, .int .i64 0] := rfl
theorem rowV_some (k : Int) (wd : List UInt8) (nm : Bool) (mo : Int) : rowV ((some (Row.mk k wd nm mo)).getD r0) = .agg #[.int .i64 k, .string (mk wd), .bool nm, .int .i64 mo] := rfl

set_option maxRecDepth 20000 in
set_option maxHeartbeats 4000000 in
theorem pointOf_none (s : ByteArray) (hs : s.size ≤ 100000) (w : World) (hm : MaxIs w) (hr : RowsIs w) (hcut : cutO [32] (bl s) = none) :
    Calls Tryd.prog 73 #[.string s] w fun e w' => e = .returned (.tuple #[AV ((ptP (bl s)).getD (0, 0)), .bool (ptP (bl s)).isSome]) ∧ Kept No w w' := by
  obtain ⟨W, HW⟩ : ∃ W, Hid (W = w.alloc (.cells #[.int .i64 0, .int .i64 0] 45)) := ⟨_, rfl⟩
  have HK : Hid (Kept No w W) := by show Kept _ _ _; rw [HW.out]; exact (Kept.refl No w).alloc _
  obtain ⟨R, HR⟩ : ∃ R, Hid (w.heap.size = R) := ⟨_, rfl⟩
  have HB2 : Hid (W.heap[R]? = some (.cells #[.int .i64 0, .int .i64 0] 45 (0, 0))) := by show _ = _; rw [HW.out, ← HR.out]; exact World.alloc_heap_new w _
  have HRs : Hid (w.heap.size ≤ R) := by rw [HR.out]; exact Nat.le_refl _
  have HCt : Hid _ := Cut_any s ⟨#[32]⟩ (by omega) (by decide) W (hm.no HK.out)
  rw [show bl (⟨#[32]⟩ : ByteArray) = [32] from rfl, hcut, show cA (bl s) none = s from mk_bl s] at HCt
  have HW2 : Hid (∀ X, Kept No w X → Calls Tryd.prog 79 #[.string s] X fun e w' => e = .returned (.tuple #[rowV ((rowW (bl s)).getD r0), .bool (rowW (bl s)).isSome]) ∧ Kept No X w') := fun X hX => rowOfWord_any s hs X (hr.no hX)
  rw [ptP_N _ hcut]
  clear hm hr hcut
  generalize rowW (bl s) = X at HW2
  go_enter Tryd.func73, Tryd.ntmps73
  go_wp2_with fail
  rw [← HW.out, HR.out]
  refine Calls.mono HCt.out ?_
  rintro e w1 ⟨rfl, hk1⟩
  have HK1 : Hid (Kept No w w1) := HK.out.trans hk1
  have hkW : Hid (Kept No W w1) := hk1
  clear hk1
  go_wp2_with fail
  refine Calls.mono (HW2.out w1 HK1.out) ?_
  rintro e w2 ⟨rfl, hk2⟩
  have HK2 : Hid (Kept No w w2) := HK1.out.trans hk2
  have HRx : Hid (w2.heap[R]? = some (.cells #[.int .i64 0, .int .i64 0] 45 (0, 0))) := (hkW.out.trans hk2).heap HB2.out id
  have z0 : w2.cell? ⟨R, 0, none⟩ = some (.int .i64 0) := by rw [cell_of HRx.out]; rfl
  have z1 : w2.cell? ⟨R, 1, none⟩ = some (.int .i64 0) := by rw [cell_of HRx.out]; rfl
  have zf : ∀ o, w2.frozen? ⟨R, o, none⟩ = false := fun o => Lib.frozen_of_heap HRx.out o
  have zl : R < w2.heap.size := hp_lt HRx.out
  have HF1 : Hid (∀ a b o, Kept No w (((w2.setCell ⟨R, 0, none⟩ a).setCell ⟨R, 1, none⟩ b).alloc o)) := fun a b o => ((HK2.out.set _ _ _ (.inr HRs.out)).set _ _ _ (.inr HRs.out)).alloc o
  have HF2 : Hid (∀ a b o o', Kept No w ((((w2.setCell ⟨R, 0, none⟩ a).setCell ⟨R, 1, none⟩ b).alloc o).alloc o')) := fun a b o o' => (HF1.out a b o).alloc o'
  clear hk2 hkW HCt HW2
  rcases X with _ | ⟨k, wd, nm, mo⟩
  · rw [rowV_r0]
    go_wp2_with fail
    refine bodyPost_ret (v := .tuple #[.agg #[.int .i64 0, .int .i64 0], .bool false]) (by simp [results, Tryd.results73, go_sem, cell_alloc_old, size_set, zl, z0, z1]) rfl ⟨rfl, HF1.out _ _ _⟩
  · rw [rowV_some]
    cases nm with
    | true =>
      go_wp2_with fail
      refine bodyPost_ret (v := .tuple #[.agg #[.int .i64 0, .int .i64 0], .bool false]) (by simp [results, Tryd.results73, go_sem, cell_alloc_old, size_set, zl, z0, z1]) rfl ⟨rfl, HF1.out _ _ _⟩
    | false =>
      go_wp2_with fail
      refine bodyPost_ret (v := .tuple #[.agg #[.int .i64 k, .int .i64 0], .bool true]) (by simp [results, Tryd.results73, go_sem, cell_alloc_old, size_set, zl, z0, z1]) rfl ⟨rfl, HF2.out _ _ _ _⟩

set_option maxRecDepth 20000 in
set_option maxHeartbeats 4000000 in
theorem pointOf_some (s : ByteArray) (hs : s.size ≤ 100000) (w : World) (hm : MaxIs w) (hr : RowsIs w) (wd0 d : List UInt8) (hcut : cutO [32] (bl s) = some (wd0, d)) :
    Calls Tryd.prog 73 #[.string s] w fun e w' => e = .returned (.tuple #[AV ((ptP (bl s)).getD (0, 0)), .bool (ptP (bl s)).isSome]) ∧ Kept No w w' := by
  obtain ⟨W, HW⟩ : ∃ W, Hid (W = w.alloc (.cells #[.int .i64 0, .int .i64 0] 45)) := ⟨_, rfl⟩
  have HK : Hid (Kept No w W) := by show Kept _ _ _; rw [HW.out]; exact (Kept.refl No w).alloc _
  obtain ⟨R, HR⟩ : ∃ R, Hid (w.heap.size = R) := ⟨_, rfl⟩
  have HB2 : Hid (W.heap[R]? = some (.cells #[.int .i64 0, .int .i64 0] 45 (0, 0))) := by show _ = _; rw [HW.out, ← HR.out]; exact World.alloc_heap_new w _
  have HRs : Hid (w.heap.size ≤ R) := by rw [HR.out]; exact Nat.le_refl _
  have HCt : Hid _ := Cut_any s ⟨#[32]⟩ (by omega) (by decide) W (hm.no HK.out)
  rw [show bl (⟨#[32]⟩ : ByteArray) = [32] from rfl, hcut, show cA (bl s) (some (wd0, d)) = mk wd0 from rfl, show cB (some (wd0, d)) = mk d from rfl] at HCt
  have hlen : (bl s).length = wd0.length + 1 + d.length := by rw [(cut1_some _ _ _ _ hcut).1]; simp; omega
  rw [bl_len] at hlen
  have HW2 : Hid (∀ X, Kept No w X → Calls Tryd.prog 79 #[.string (mk wd0)] X fun e w' => e = .returned (.tuple #[rowV ((rowW wd0).getD r0), .bool (rowW wd0).isSome]) ∧ Kept No X w') := fun X hX => by
    have := rowOfWord_any (mk wd0) (by rw [mk_size]; omega) X (hr.no hX)
    rwa [bl_mk] at this
  have HN : Hid (∀ X, Calls Tryd.prog 52 #[.string (mk d)] X fun e w' => e = .returned (.tuple #[.int .i64 (optI (numP d)), .bool (numP d).isSome]) ∧ Kept No X w') := fun X => by
    have := number_any (mk d) (by rw [mk_size]; omega) X
    rwa [bl_mk] at this
  rw [ptP_Y _ _ _ hcut]
  clear hm hr hcut hlen
  generalize rowW wd0 = X at HW2
  go_enter Tryd.func73, Tryd.ntmps73
  go_wp2_with fail
  rw [← HW.out, HR.out]
  refine Calls.mono HCt.out ?_
  rintro e w1 ⟨rfl, hk1⟩
  have HK1 : Hid (Kept No w w1) := HK.out.trans hk1
  have hkW : Hid (Kept No W w1) := hk1
  clear hk1
  go_wp2_with fail
  refine Calls.mono (HW2.out w1 HK1.out) ?_
  rintro e w2 ⟨rfl, hk2⟩
  have HK2 : Hid (Kept No w w2) := HK1.out.trans hk2
  have hkW2 : Hid (Kept No W w2) := hkW.out.trans hk2
  clear hk2 hkW HCt HW2
  have HRx : Hid (w2.heap[R]? = some (.cells #[.int .i64 0, .int .i64 0] 45 (0, 0))) := hkW2.out.heap HB2.out id
  rcases X with _ | ⟨k, wd, nm, mo⟩
  · have z0 : w2.cell? ⟨R, 0, none⟩ = some (.int .i64 0) := by rw [cell_of HRx.out]; rfl
    have z1 : w2.cell? ⟨R, 1, none⟩ = some (.int .i64 0) := by rw [cell_of HRx.out]; rfl
    have zf : ∀ o, w2.frozen? ⟨R, o, none⟩ = false := fun o => Lib.frozen_of_heap HRx.out o
    have zl : R < w2.heap.size := hp_lt HRx.out
    have HF1 : Hid (∀ a b o, Kept No w (((w2.setCell ⟨R, 0, none⟩ a).setCell ⟨R, 1, none⟩ b).alloc o)) := fun a b o => ((HK2.out.set _ _ _ (.inr HRs.out)).set _ _ _ (.inr HRs.out)).alloc o
    rw [rowV_r0]
    go_wp2_with fail
    refine bodyPost_ret (v := .tuple #[.agg #[.int .i64 0, .int .i64 0], .bool false]) (by simp [results, Tryd.results73, go_sem, cell_alloc_old, size_set, zl, z0, z1]) rfl ⟨rfl, HF1.out _ _ _⟩
  · rw [rowV_some]
    cases nm with
    | false =>
      have z0 : w2.cell? ⟨R, 0, none⟩ = some (.int .i64 0) := by rw [cell_of HRx.out]; rfl
      have z1 : w2.cell? ⟨R, 1, none⟩ = some (.int .i64 0) := by rw [cell_of HRx.out]; rfl
      have zf : ∀ o, w2.frozen? ⟨R, o, none⟩ = false := fun o => Lib.frozen_of_heap HRx.out o
      have zl : R < w2.heap.size := hp_lt HRx.out
      have HF1 : Hid (∀ a b o, Kept No w (((w2.setCell ⟨R, 0, none⟩ a).setCell ⟨R, 1, none⟩ b).alloc o)) := fun a b o => ((HK2.out.set _ _ _ (.inr HRs.out)).set _ _ _ (.inr HRs.out)).alloc o
      go_wp2_with fail
      refine bodyPost_ret (v := .tuple #[.agg #[.int .i64 0, .int .i64 0], .bool false]) (by simp [results, Tryd.results73, go_sem, cell_alloc_old, size_set, zl, z0, z1]) rfl ⟨rfl, HF1.out _ _ _⟩
    | true =>
      obtain ⟨W3, HW3⟩ : ∃ W3, Hid (W3 = (w2.alloc (.cells #[.int .i64 k, .string (mk wd), .bool true, .int .i64 mo] 79)).alloc (.cells #[.int .i64 k, .int .i64 0] 45)) := ⟨_, rfl⟩
      have HK3 : Hid (Kept No w2 W3) := by show Kept _ _ _; rw [HW3.out]; exact ((Kept.refl No w2).alloc _).alloc _
      have HB79 : Hid (W3.heap[w2.heap.size]? = some (.cells #[.int .i64 k, .string (mk wd), .bool true, .int .i64 mo] 79 (0, 0))) := by
        show _ = _
        rw [HW3.out]
        exact (Below.heap_alloc _ _ _ (by simp)).trans (World.alloc_heap_new w2 _)
      have HB45 : Hid (W3.heap[w2.heap.size + 1]? = some (.cells #[.int .i64 k, .int .i64 0] 45 (0, 0))) := by
        show _ = _
        rw [HW3.out]
        have := World.alloc_heap_new (w2.alloc (.cells #[.int .i64 k, .string (mk wd), .bool true, .int .i64 mo] 79)) (.cells #[.int .i64 k, .int .i64 0] 45)
        rwa [World.size_alloc] at this
      have HRl : Hid (R < w2.heap.size) := hp_lt HRx.out
      go_wp2_with fail
      rw [← HW3.out]
      refine Calls.mono (HN.out W3) ?_
      rintro e w4 ⟨rfl, hk4⟩
      have HK4 : Hid (Kept No w w4) := (HK2.out.trans HK3.out).trans hk4
      have HRy : Hid (w4.heap[R]? = some (.cells #[.int .i64 0, .int .i64 0] 45 (0, 0))) := (HK3.out.trans hk4).heap HRx.out id
      have H79 : Hid (w4.heap[w2.heap.size]? = some (.cells #[.int .i64 k, .string (mk wd), .bool true, .int .i64 mo] 79 (0, 0))) := hk4.heap HB79.out id
      have H45 : Hid (w4.heap[w2.heap.size + 1]? = some (.cells #[.int .i64 k, .int .i64 0] 45 (0, 0))) := hk4.heap HB45.out id
      clear hk4 HW3 HN
      have z0 : w4.cell? ⟨R, 0, none⟩ = some (.int .i64 0) := by rw [cell_of HRy.out]; rfl
      have z1 : w4.cell? ⟨R, 1, none⟩ = some (.int .i64 0) := by rw [cell_of HRy.out]; rfl
      have zf : ∀ o, w4.frozen? ⟨R, o, none⟩ = false := fun o => Lib.frozen_of_heap HRy.out o
      have p0 : w4.cell? ⟨w2.heap.size + 1, 0, none⟩ = some (.int .i64 k) := by rw [cell_of H45.out]; rfl
      have p1 : w4.cell? ⟨w2.heap.size + 1, 1, none⟩ = some (.int .i64 0) := by rw [cell_of H45.out]; rfl
      have pf : ∀ o, w4.frozen? ⟨w2.heap.size + 1, o, none⟩ = false := fun o => Lib.frozen_of_heap H45.out o
      have q3 : w4.cell? ⟨w2.heap.size, 3, none⟩ = some (.int .i64 mo) := by rw [cell_of H79.out]; rfl
      have zl : R < w4.heap.size := hp_lt HRy.out
      obtain ⟨B, hB⟩ : ∃ B, B = w2.heap.size := ⟨_, rfl⟩
      rw [← hB] at p0 p1 q3 pf ⊢
      have hne1 : R ≠ B + 1 := by have := HRl.out; omega
      have hne2 : B + 1 ≠ R := by omega
      have hne3 : B ≠ B + 1 := by omega
      have HBs : Hid (w.heap.size ≤ B + 1) := by show _ ≤ _; have := HRs.out; have := HRl.out; omega
      have HF : Hid (∀ x a b, Kept No w (((w4.setCell ⟨B + 1, 1, none⟩ x).setCell ⟨R, 0, none⟩ a).setCell ⟨R, 1, none⟩ b)) := fun x a b => ((HK4.out.set _ _ _ (.inr HBs.out)).set _ _ _ (.inr HRs.out)).set _ _ _ (.inr HRs.out)
      clear hB HRx HRl HB2 HRy H79 H45 HB79 HB45
      cases hnum : numP d with
      | none =>
        have hR : Hid (ptY d (some ⟨k, wd, true, mo⟩) = none) := by show numR _ _ = _; unfold numR; rw [hnum]
        rw [show optI none = 0 from rfl]
        clear hnum
        go_wp2_with fail
        refine bodyPost_ret (v := .tuple #[.agg #[.int .i64 0, .int .i64 0], .bool false]) (by simp [results, Tryd.results73, go_sem, cell_alloc_old, size_set, zl, z0, z1]) rfl ⟨by rw [hR.out]; rfl, HF.out _ _ _⟩
      | some n =>
        have hn9 := numP_lt d n hnum
        rw [show optI (some n) = (n : Int) from rfl]
        by_cases hmo : mo < (n : Int)
        · have hR : Hid (ptY d (some ⟨k, wd, true, mo⟩) = none) := by show numR _ _ = _; unfold numR; rw [hnum]; exact if_pos hmo
          clear hnum
          go_wp2_with fail
          refine bodyPost_ret (v := .tuple #[.agg #[.int .i64 0, .int .i64 0], .bool false]) (by simp [results, Tryd.results73, go_sem, cell_alloc_old, size_set, zl, z0, z1]) rfl ⟨by rw [hR.out]; rfl, HF.out _ _ _⟩
        · have hR : Hid (ptY d (some ⟨k, wd, true, mo⟩) = some (k, (n : Int))) := by show numR _ _ = _; unfold numR; rw [hnum]; exact if_neg hmo
          clear hnum
          go_wp2_with fail
          refine bodyPost_ret (v := .tuple #[.agg #[.int .i64 k, .int .i64 (n : Int)], .bool true]) (by simp [results, Tryd.results73, go_sem, cell_alloc_old, size_set, zl, z0, z1]) rfl ⟨by rw [hR.out]; rfl, HF.out _ _ _⟩
theorem pointOf_any (s : ByteArray) (hs : s.size ≤ 100000) (w : World) (hm : MaxIs w) (hr : RowsIs w) :
    Calls Tryd.prog 73 #[.string s] w fun e w' => e = .returned (.tuple #[AV ((ptP (bl s)).getD (0, 0)), .bool (ptP (bl s)).isSome]) ∧ Kept No w w' := by
  cases h : cutO [32] (bl s) with
  | none => exact pointOf_none s hs w hm hr h
  | some p => exact pointOf_some s hs w hm hr p.1 p.2 h
end Go.Proofs.YtbhmgmbgplkkeaaDoor
