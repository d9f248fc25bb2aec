/- A point line with a blank, as the document reads it: no kind. -/
import Derived.Test.YtbhmgmbgplkkeaaDoorP6
namespace Go.Proofs.YtbhmgmbgplkkeaaDoor
open Go.RowKit
set_option linter.unusedSimpArgs false
set_option linter.unusedVariables false

set_option maxRecDepth 20000 in
set_option maxHeartbeats 8000000 in
theorem RLine_some_no (s : ByteArray) (hs : s.size ≤ 100000) (w : World) (wd : List UInt8) (rs : ByteArray) (hcut : cutO [32] (bl s) = some (wd, bl rs)) (hwk : wd ≠ [110, 111, 110, 101] ∧ wd ≠ [115, 116, 101, 112] ∧ wd ≠ [121, 111, 117, 110, 103] ∧ wd ≠ [109, 97, 106, 111, 114] ∧ wd ≠ [109, 111, 100, 101] ∧ wd ≠ [99, 111, 109, 112, 97, 99, 116]) :
    Calls Tryd.prog 25 #[.string s] w fun e w' => (∃ v, e = .returned v ∧ LinePost (bl s) v ∧ Kept No w w') := by
  have HRC : Hid (∀ X, Calls Tryd.prog 23 #[.string s, .int .u8 32] X fun e w' => e = .returned (.tuple #[.string (mk wd), .string rs, .bool true]) ∧ Kept No X w') := fun X => by
    have := RCut_any s 32 (by omega) X
    rw [hcut] at this
    rw [show cB (some (wd, bl rs)) = rs from mk_bl rs] at this
    exact this
  have hrl : rs.size ≤ 100000 := by
    have h1 := congrArg List.length (cut1_some _ _ _ _ hcut).1
    rw [bl_len, List.length_append, List.length_cons, bl_len] at h1
    omega
  have HLD : Hid (lineF (bl s) = match rowW wd with | none => none | some r => if r.num = true then (match cutO [32] (bl rs) with | none => (numR r (bl rs)).map fun p => (p, 1) | some (d, rest2) => match numR r d with | some p => (xP rest2).map fun n => (p, n) | none => none) else (xP (bl rs)).map fun n => ((r.kind, 0), n)) := by
    show _ = _
    rw [line_same]; unfold lineD; simp only [hcut]
    cases rowW wd <;> rfl
  clear hcut
  obtain ⟨W, HW⟩ : ∃ W, Hid (W = (w.alloc (.cells #[.int .i64 0, .int .i64 0] 45)).alloc (.cells wordsB 9)) := ⟨_, rfl⟩
  have HK : Hid (Kept No w W) := by show Kept _ _ _; rw [HW.out]; exact ((Kept.refl No w).alloc _).alloc _
  obtain ⟨R, HR⟩ : ∃ R, Hid (w.heap.size = R) := ⟨_, rfl⟩
  have HB2 : Hid (W.heap[R]? = some (.cells #[.int .i64 0, .int .i64 0] 45 (0, 0))) := by show _ = _; rw [HW.out, ← HR.out]; exact (Below.heap_alloc _ _ _ (by simp)).trans (World.alloc_heap_new w _)
  have HB9 : Hid (W.heap[R + 1]? = some (.cells wordsB 9 (0, 0))) := by
    show _ = _
    rw [HW.out, ← HR.out]
    have := World.alloc_heap_new (w.alloc (.cells #[.int .i64 0, .int .i64 0] 45)) (.cells wordsB 9)
    rwa [World.size_alloc] at this
  have HRs : Hid (w.heap.size ≤ R) := by rw [HR.out]; exact Nat.le_refl _
  go_enter Tryd.func25, Tryd.ntmps25
  go_wp2_with fail
  refine Calls.mono (Rwords_any _) ?_
  rintro e w0 ⟨rfl, rfl⟩
  rw [World.size_alloc, HR.out, ← HW.out]
  go_wp2_with fail
  refine Calls.mono (HRC.out W) ?_
  rintro e w1 ⟨rfl, hk1⟩
  have HK1 : Hid (Kept No W w1) := hk1
  clear hk1 HRC
  obtain ⟨wz, hwz⟩ : ∃ wz, wz = w1 := ⟨_, rfl⟩
  subst hwz
  go_wp2_with fail
  go_loopw [6, 7, 8] (fun v6 v7 v8 wr => ∃ j : Nat, j ≤ 6 ∧ v8 = .int .i64 j ∧ v7 = .bool true ∧ v6 = .string rs ∧ Hid ((rowsL.drop j).find? (fun r => r.word == wd) = rowW wd ∧ Kept No W wr)) (fun _ _ v8 _ => 6 - (intOf v8).toNat)
  case atStart => exact ⟨0, by omega, rfl, rfl, rfl, rfl, HK1.out⟩
  case round =>
    clear HK1
    obtain ⟨j, hj, rfl, rfl, rfl, HJ⟩ := hrel
    have HRx : Hid (wr.heap[R]? = some (.cells #[.int .i64 0, .int .i64 0] 45 (0, 0))) := HJ.out.2.heap HB2.out id
    have H9x : Hid (wr.heap[R + 1]? = some (.cells wordsB 9 (0, 0))) := HJ.out.2.heap HB9.out id
    have HKr : Hid (Kept No w wr) := HK.out.trans HJ.out.2
    have hcases : j = 0 ∨ j = 1 ∨ j = 2 ∨ j = 3 ∨ j = 4 ∨ j = 5 ∨ j = 6 := by omega
    rcases hcases with rfl | rfl | rfl | rfl | rfl | rfl | rfl
    · have c9 : wr.cell? ⟨R + 1, 0, none⟩ = some (.string ⟨#[110, 111, 110, 101]⟩) := by rw [cell_of H9x.out]; rfl
      have hw : wd ≠ [110, 111, 110, 101] := hwk.1
      have hcm1 : (([110, 111, 110, 101] : List UInt8) == wd) = false := by rw [beq_eq_false_iff_ne]; exact fun e => hw e.symm
      have HJ2 : Hid ((rowsL.drop 1).find? (fun r => r.word == wd) = rowW wd ∧ Kept No W wr) := by
        refine ⟨?_, HJ.out.2⟩
        rw [← HJ.out.1, rows_drop 0 (by decide), List.find?_cons]
        have : ((rowsL.getD 0 r0).word == wd) = false := hcm1
        rw [this]
      clear HJ hw HLD hwk
      go_wp2
      go_roundw
      case rel => exact ⟨1, by decide, by first | rfl | go_num, rfl, rfl, HJ2⟩
      case measure => simp [intOf] <;> omega
    · have c9 : wr.cell? ⟨R + 1, 1, none⟩ = some (.string ⟨#[115, 116, 101, 112]⟩) := by rw [cell_of H9x.out]; rfl
      have hw : wd ≠ [115, 116, 101, 112] := hwk.2.1
      have hcm1 : (([115, 116, 101, 112] : List UInt8) == wd) = false := by rw [beq_eq_false_iff_ne]; exact fun e => hw e.symm
      have HJ2 : Hid ((rowsL.drop 2).find? (fun r => r.word == wd) = rowW wd ∧ Kept No W wr) := by
        refine ⟨?_, HJ.out.2⟩
        rw [← HJ.out.1, rows_drop 1 (by decide), List.find?_cons]
        have : ((rowsL.getD 1 r0).word == wd) = false := hcm1
        rw [this]
      clear HJ hw HLD hwk
      go_wp2
      go_roundw
      case rel => exact ⟨2, by decide, by first | rfl | go_num, rfl, rfl, HJ2⟩
      case measure => simp [intOf] <;> omega
    · have c9 : wr.cell? ⟨R + 1, 2, none⟩ = some (.string ⟨#[121, 111, 117, 110, 103]⟩) := by rw [cell_of H9x.out]; rfl
      have hw : wd ≠ [121, 111, 117, 110, 103] := hwk.2.2.1
      have hcm1 : (([121, 111, 117, 110, 103] : List UInt8) == wd) = false := by rw [beq_eq_false_iff_ne]; exact fun e => hw e.symm
      have HJ2 : Hid ((rowsL.drop 3).find? (fun r => r.word == wd) = rowW wd ∧ Kept No W wr) := by
        refine ⟨?_, HJ.out.2⟩
        rw [← HJ.out.1, rows_drop 2 (by decide), List.find?_cons]
        have : ((rowsL.getD 2 r0).word == wd) = false := hcm1
        rw [this]
      clear HJ hw HLD hwk
      go_wp2
      go_roundw
      case rel => exact ⟨3, by decide, by first | rfl | go_num, rfl, rfl, HJ2⟩
      case measure => simp [intOf] <;> omega
    · have c9 : wr.cell? ⟨R + 1, 3, none⟩ = some (.string ⟨#[109, 97, 106, 111, 114]⟩) := by rw [cell_of H9x.out]; rfl
      have hw : wd ≠ [109, 97, 106, 111, 114] := hwk.2.2.2.1
      have hcm1 : (([109, 97, 106, 111, 114] : List UInt8) == wd) = false := by rw [beq_eq_false_iff_ne]; exact fun e => hw e.symm
      have HJ2 : Hid ((rowsL.drop 4).find? (fun r => r.word == wd) = rowW wd ∧ Kept No W wr) := by
        refine ⟨?_, HJ.out.2⟩
        rw [← HJ.out.1, rows_drop 3 (by decide), List.find?_cons]
        have : ((rowsL.getD 3 r0).word == wd) = false := hcm1
        rw [this]
      clear HJ hw HLD hwk
      go_wp2
      go_roundw
      case rel => exact ⟨4, by decide, by first | rfl | go_num, rfl, rfl, HJ2⟩
      case measure => simp [intOf] <;> omega
    · have c9 : wr.cell? ⟨R + 1, 4, none⟩ = some (.string ⟨#[109, 111, 100, 101]⟩) := by rw [cell_of H9x.out]; rfl
      have hw : wd ≠ [109, 111, 100, 101] := hwk.2.2.2.2.1
      have hcm1 : (([109, 111, 100, 101] : List UInt8) == wd) = false := by rw [beq_eq_false_iff_ne]; exact fun e => hw e.symm
      have HJ2 : Hid ((rowsL.drop 5).find? (fun r => r.word == wd) = rowW wd ∧ Kept No W wr) := by
        refine ⟨?_, HJ.out.2⟩
        rw [← HJ.out.1, rows_drop 4 (by decide), List.find?_cons]
        have : ((rowsL.getD 4 r0).word == wd) = false := hcm1
        rw [this]
      clear HJ hw HLD hwk
      go_wp2
      go_roundw
      case rel => exact ⟨5, by decide, by first | rfl | go_num, rfl, rfl, HJ2⟩
      case measure => simp [intOf] <;> omega
    · have c9 : wr.cell? ⟨R + 1, 5, none⟩ = some (.string ⟨#[99, 111, 109, 112, 97, 99, 116]⟩) := by rw [cell_of H9x.out]; rfl
      have hw : wd ≠ [99, 111, 109, 112, 97, 99, 116] := hwk.2.2.2.2.2
      have hcm1 : (([99, 111, 109, 112, 97, 99, 116] : List UInt8) == wd) = false := by rw [beq_eq_false_iff_ne]; exact fun e => hw e.symm
      have HJ2 : Hid ((rowsL.drop 6).find? (fun r => r.word == wd) = rowW wd ∧ Kept No W wr) := by
        refine ⟨?_, HJ.out.2⟩
        rw [← HJ.out.1, rows_drop 5 (by decide), List.find?_cons]
        have : ((rowsL.getD 5 r0).word == wd) = false := hcm1
        rw [this]
      clear HJ hw HLD hwk
      go_wp2
      go_roundw
      case rel => exact ⟨6, by decide, by first | rfl | go_num, rfl, rfl, HJ2⟩
      case measure => simp [intOf] <;> omega
    · have hrw : rowW wd = none := by rw [← HJ.out.1]; rfl
      have HL := HLD
      rw [hrw] at HL
      replace HL : Hid (lineF (bl s) = none) := HL.out
      clear hrw HLD HJ H9x
      have z0 : wr.cell? ⟨R, 0, none⟩ = some (.int .i64 0) := by rw [cell_of HRx.out]; rfl
      have z1 : wr.cell? ⟨R, 1, none⟩ = some (.int .i64 0) := by rw [cell_of HRx.out]; rfl
      have zf : ∀ o, wr.frozen? ⟨R, o, none⟩ = false := fun o => Lib.frozen_of_heap HRx.out o
      have zl : R < wr.heap.size := hp_lt HRx.out
      have HF : Hid (∀ a b, Kept No w ((wr.setCell ⟨R, 0, none⟩ a).setCell ⟨R, 1, none⟩ b)) := fun a b => (HKr.out.set _ _ _ (.inr HRs.out)).set _ _ _ (.inr HRs.out)
      go_wp2_with fail
      refine bodyPost_ret (v := .tuple #[.agg #[.int .i64 (0), .int .i64 (0)], .int .i64 (0)]) (by simp [results, Tryd.results25, go_sem, cell_alloc_old, size_set, zl, z0, z1]) rfl ⟨_, rfl, LinePost.no _ _ HL.out, HF.out _ _⟩
end Go.Proofs.YtbhmgmbgplkkeaaDoor
