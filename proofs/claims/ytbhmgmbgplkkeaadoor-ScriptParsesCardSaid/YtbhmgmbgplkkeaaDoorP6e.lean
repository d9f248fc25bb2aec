/- A point line with a blank, as the document reads it: kind 1. -/
import Derived.Test.YtbhmgmbgplkkeaaDoorP6
namespace Go.Proofs.YtbhmgmbgplkkeaaDoor
open Go.RowKit
set_option linter.unusedSimpArgs false
set_option linter.unusedVariables false

set_option maxRecDepth 20000 in
set_option maxHeartbeats 8000000 in
theorem RLine_some_1 (s : ByteArray) (hs : s.size ≤ 100000) (w : World) (wd : List UInt8) (rs : ByteArray) (hcut : cutO [32] (bl s) = some (wd, bl rs)) (hwk : wd = [115, 116, 101, 112]) :
    Calls Tryd.prog 25 #[.string s] w fun e w' => (∃ v, e = .returned v ∧ LinePost (bl s) v ∧ Kept No w w') := by
  have HRC : Hid (∀ X, Calls Tryd.prog 23 #[.string s, .int .u8 32] X fun e w' => e = .returned (.tuple #[.string (mk wd), .string rs, .bool true]) ∧ Kept No X w') := fun X => by
    have := RCut_any s 32 (by omega) X
    rw [hcut] at this
    rw [show cB (some (wd, bl rs)) = rs from mk_bl rs] at this
    exact this
  have hrl : rs.size ≤ 100000 := by
    have h1 := congrArg List.length (cut1_some _ _ _ _ hcut).1
    rw [bl_len, List.length_append, List.length_cons, bl_len] at h1
    omega
  have HLD : Hid (lineF (bl s) = match rowW wd with | none => none | some r => if r.num = true then (match cutO [32] (bl rs) with | none => (numR r (bl rs)).map fun p => (p, 1) | some (d, rest2) => match numR r d with | some p => (xP rest2).map fun n => (p, n) | none => none) else (xP (bl rs)).map fun n => ((r.kind, 0), n)) := by
    show _ = _
    rw [line_same]; unfold lineD; simp only [hcut]
    cases rowW wd <;> rfl
  clear hcut
  obtain ⟨W, HW⟩ : ∃ W, Hid (W = (w.alloc (.cells #[.int .i64 0, .int .i64 0] 45)).alloc (.cells wordsB 9)) := ⟨_, rfl⟩
  have HK : Hid (Kept No w W) := by show Kept _ _ _; rw [HW.out]; exact ((Kept.refl No w).alloc _).alloc _
  obtain ⟨R, HR⟩ : ∃ R, Hid (w.heap.size = R) := ⟨_, rfl⟩
  have HB2 : Hid (W.heap[R]? = some (.cells #[.int .i64 0, .int .i64 0] 45 (0, 0))) := by show _ = _; rw [HW.out, ← HR.out]; exact (Below.heap_alloc _ _ _ (by simp)).trans (World.alloc_heap_new w _)
  have HB9 : Hid (W.heap[R + 1]? = some (.cells wordsB 9 (0, 0))) := by
    show _ = _
    rw [HW.out, ← HR.out]
    have := World.alloc_heap_new (w.alloc (.cells #[.int .i64 0, .int .i64 0] 45)) (.cells wordsB 9)
    rwa [World.size_alloc] at this
  have HRs : Hid (w.heap.size ≤ R) := by rw [HR.out]; exact Nat.le_refl _
  go_enter Tryd.func25, Tryd.ntmps25
  go_wp2_with fail
  refine Calls.mono (Rwords_any _) ?_
  rintro e w0 ⟨rfl, rfl⟩
  rw [World.size_alloc, HR.out, ← HW.out]
  go_wp2_with fail
  refine Calls.mono (HRC.out W) ?_
  rintro e w1 ⟨rfl, hk1⟩
  have HK1 : Hid (Kept No W w1) := hk1
  clear hk1 HRC
  obtain ⟨wz, hwz⟩ : ∃ wz, wz = w1 := ⟨_, rfl⟩
  subst hwz
  go_wp2_with fail
  go_loopw [6, 7, 8] (fun v6 v7 v8 wr => ∃ j : Nat, j ≤ 6 ∧ v8 = .int .i64 j ∧ v7 = .bool true ∧ v6 = .string rs ∧ Hid ((rowsL.drop j).find? (fun r => r.word == wd) = rowW wd ∧ Kept No W wr)) (fun _ _ v8 _ => 6 - (intOf v8).toNat)
  case atStart => exact ⟨0, by omega, rfl, rfl, rfl, rfl, HK1.out⟩
  case round =>
    clear HK1
    obtain ⟨j, hj, rfl, rfl, rfl, HJ⟩ := hrel
    have HRx : Hid (wr.heap[R]? = some (.cells #[.int .i64 0, .int .i64 0] 45 (0, 0))) := HJ.out.2.heap HB2.out id
    have H9x : Hid (wr.heap[R + 1]? = some (.cells wordsB 9 (0, 0))) := HJ.out.2.heap HB9.out id
    have HKr : Hid (Kept No w wr) := HK.out.trans HJ.out.2
    have hcases : j = 0 ∨ j = 1 ∨ j = 2 ∨ j = 3 ∨ j = 4 ∨ j = 5 ∨ j = 6 := by omega
    rcases hcases with rfl | rfl | rfl | rfl | rfl | rfl | rfl
    · have c9 : wr.cell? ⟨R + 1, 0, none⟩ = some (.string ⟨#[110, 111, 110, 101]⟩) := by rw [cell_of H9x.out]; rfl
      have hw : wd ≠ [110, 111, 110, 101] := by rw [hwk]; decide
      have hcm1 : (([110, 111, 110, 101] : List UInt8) == wd) = false := by rw [beq_eq_false_iff_ne]; exact fun e => hw e.symm
      have HJ2 : Hid ((rowsL.drop 1).find? (fun r => r.word == wd) = rowW wd ∧ Kept No W wr) := by
        refine ⟨?_, HJ.out.2⟩
        rw [← HJ.out.1, rows_drop 0 (by decide), List.find?_cons]
        have : ((rowsL.getD 0 r0).word == wd) = false := hcm1
        rw [this]
      clear HJ hw HLD hwk
      go_wp2
      go_roundw
      case rel => exact ⟨1, by decide, by first | rfl | go_num, rfl, rfl, HJ2⟩
      case measure => simp [intOf] <;> omega
    · have c9 : wr.cell? ⟨R + 1, 1, none⟩ = some (.string ⟨#[115, 116, 101, 112]⟩) := by rw [cell_of H9x.out]; rfl
      have hw : wd = [115, 116, 101, 112] := hwk
      · have hcm1 : (([115, 116, 101, 112] : List UInt8) == wd) = true := by rw [hw]; decide
        have hrw : rowW wd = some ⟨1, [115, 116, 101, 112], true, 999999999⟩ := by rw [hw]; rfl
        have HL := HLD
        rw [hrw] at HL
        clear hw hrw HLD HJ
        obtain ⟨W5, HW5⟩ : ∃ W5, Hid (W5 = wr.alloc (.cells #[.int .i64 1, .int .i64 0] 45)) := ⟨_, rfl⟩
        have HK5 : Hid (Kept No wr W5) := by show Kept _ _ _; rw [HW5.out]; exact (Kept.refl No wr).alloc _
        have HB5 : Hid (W5.heap[wr.heap.size]? = some (.cells #[.int .i64 1, .int .i64 0] 45 (0, 0))) := by show _ = _; rw [HW5.out]; exact World.alloc_heap_new wr _
        have HR5 : Hid (W5.heap[R]? = some (.cells #[.int .i64 0, .int .i64 0] 45 (0, 0))) := HK5.out.heap HRx.out id
        have HKw : Hid (Kept No w W5) := HKr.out.trans HK5.out
        obtain ⟨B, hB⟩ : ∃ B, B = wr.heap.size := ⟨_, rfl⟩
        have HBl : Hid (R < B ∧ w.heap.size ≤ B) := ⟨by rw [hB]; exact hp_lt HRx.out, by rw [hB]; exact HKr.out.size⟩
        rw [← hB] at HB5
        replace HL : Hid (lineF (bl s) = match cutO [32] (bl rs) with | none => (numR ⟨1, [115, 116, 101, 112], true, 999999999⟩ (bl rs)).map fun p => (p, 1) | some (d, rest2) => match numR ⟨1, [115, 116, 101, 112], true, 999999999⟩ d with | some p => (xP rest2).map fun n => (p, n) | none => none) := HL.out
        have HC2 : Hid (∀ X, Calls Tryd.prog 23 #[.string rs, .int .u8 32] X fun e w' => e = .returned (.tuple #[.string (cA (bl rs) (cutO [32] (bl rs))), .string (cB (cutO [32] (bl rs))), .bool (cutO [32] (bl rs)).isSome]) ∧ Kept No X w') := fun X => RCut_any rs 32 (by omega) X
        have hRB : R ≠ B := by have := HBl.out.1; omega
        have hBR : B ≠ R := by have := HBl.out.1; omega
        clear HW H9x HB2 HB9 HRx
        cases hc2 : cutO [32] (bl rs) with
        | none =>
          rw [hc2] at HC2 HL
          replace HL : Hid (lineF (bl s) = (numR ⟨1, [115, 116, 101, 112], true, 999999999⟩ (bl rs)).map fun p => (p, 1)) := HL.out
          rw [show cA (bl rs) none = rs from mk_bl rs] at HC2
          replace HC2 : Hid (∀ X, Calls Tryd.prog 23 #[.string rs, .int .u8 32] X fun e w' => e = .returned (.tuple #[.string rs, .string (mk []), .bool false]) ∧ Kept No X w') := HC2.out
          have HN1 : Hid (∀ X, Calls Tryd.prog 38 #[.string rs] X fun e w' => e = .returned (.int .i64 (optM (numP (bl rs)))) ∧ X = w') := fun X => RNumber_any rs (by omega) X
          clear hc2
          go_wp2_with fail
          rw [← HW5.out, ← hB]
          refine Calls.mono (HC2.out W5) ?_
          rintro e w6 ⟨rfl, hk6⟩
          have HKw6 : Hid (Kept No w w6) := HKw.out.trans hk6
          have HR6 : Hid (w6.heap[R]? = some (.cells #[.int .i64 0, .int .i64 0] 45 (0, 0))) := hk6.heap HR5.out id
          have HB6 : Hid (w6.heap[B]? = some (.cells #[.int .i64 1, .int .i64 0] 45 (0, 0))) := hk6.heap HB5.out id
          clear hk6 HC2 hB HW5
          have z0 : w6.cell? ⟨R, 0, none⟩ = some (.int .i64 0) := by rw [cell_of HR6.out]; rfl
          have z1 : w6.cell? ⟨R, 1, none⟩ = some (.int .i64 0) := by rw [cell_of HR6.out]; rfl
          have zf : ∀ o, w6.frozen? ⟨R, o, none⟩ = false := fun o => Lib.frozen_of_heap HR6.out o
          have zl : R < w6.heap.size := hp_lt HR6.out
          have p0 : w6.cell? ⟨B, 0, none⟩ = some (.int .i64 1) := by rw [cell_of HB6.out]; rfl
          have p1 : w6.cell? ⟨B, 1, none⟩ = some (.int .i64 0) := by rw [cell_of HB6.out]; rfl
          have pf : ∀ o, w6.frozen? ⟨B, o, none⟩ = false := fun o => Lib.frozen_of_heap HB6.out o
          have pl : B < w6.heap.size := hp_lt HB6.out
          have HF : Hid (∀ N a b, Kept No w (((w6.setCell ⟨B, 1, none⟩ N).setCell ⟨R, 0, none⟩ a).setCell ⟨R, 1, none⟩ b)) := fun N a b => ((HKw6.out.set _ _ _ (.inr HBl.out.2)).set _ _ _ (.inr HRs.out)).set _ _ _ (.inr HRs.out)
          have KX : Hid (∀ N, Kept No w (w6.setCell ⟨B, 1, none⟩ N)) := fun N => HKw6.out.set _ _ _ (.inr HBl.out.2)
          have RX : Hid (∀ N, (w6.setCell ⟨B, 1, none⟩ N).heap[R]? = some (.cells #[.int .i64 0, .int .i64 0] 45 (0, 0))) := fun N => (Below.heap_setCell w6 _ N R (by have := HBl.out.1; show R ≠ B; omega)).trans HR6.out
          clear HB6
          cases hnd : numP (bl rs) with
          | none =>
            have hR : numR ⟨1, [115, 116, 101, 112], true, 999999999⟩ (bl rs) = none := by unfold numR; rw [hnd]
            rw [hR] at HL
            replace HL : Hid (lineF (bl s) = none) := HL.out
            rw [hnd] at HN1
            replace HN1 : Hid (∀ X, Calls Tryd.prog 38 #[.string rs] X fun e w' => e = .returned (.int .i64 (-1)) ∧ X = w') := HN1.out
            clear hnd hR
            go_wp2_with (go_at_call 38; refine Calls.mono (HN1.out _) ?_; rintro e w' ⟨rfl, rfl⟩)
            refine bodyPost_ret (v := .tuple #[.agg #[.int .i64 (1), .int .i64 (-1)], .int .i64 (0)]) (by simp [results, Tryd.results25, go_sem, cell_alloc_old, size_set, zl, z0, z1]) rfl ⟨_, rfl, LinePost.no _ _ HL.out, HF.out _ _ _⟩
          | some N =>
            have hN9 := numP_lt (bl rs) N hnd
            rw [hnd] at HN1
            replace HN1 : Hid (∀ X, Calls Tryd.prog 38 #[.string rs] X fun e w' => e = .returned (.int .i64 (N : Int)) ∧ X = w') := HN1.out
            have hR : numR ⟨1, [115, 116, 101, 112], true, 999999999⟩ (bl rs) = some (1, (N : Int)) := by unfold numR; rw [hnd]; exact if_neg (by show ¬ (999999999 : Int) < (N : Int); omega)
            rw [hR] at HL
            clear hnd hR
            replace HL : Hid (lineF (bl s) = some ((1, (N : Int)), 1)) := HL.out
            go_wp2_with (go_at_call 38; refine Calls.mono (HN1.out _) ?_; rintro e w' ⟨rfl, rfl⟩)
            refine bodyPost_ret (v := .tuple #[.agg #[.int .i64 (1), .int .i64 (N)], .int .i64 (1)]) (by simp [results, Tryd.results25, go_sem, cell_alloc_old, size_set, zl, z0, z1]) rfl ⟨_, rfl, LinePost.ok HL.out, HF.out _ _ _⟩
        | some q =>
          obtain ⟨d, rest2⟩ := q
          obtain ⟨r2, rfl⟩ : ∃ r2 : ByteArray, rest2 = bl r2 := ⟨mk rest2, (bl_mk _).symm⟩
          rw [hc2, show cB (some (d, bl r2)) = r2 from mk_bl r2] at HC2
          rw [hc2] at HL
          replace HL : Hid (lineF (bl s) = match numR ⟨1, [115, 116, 101, 112], true, 999999999⟩ d with | some p => (xP (bl r2)).map fun n => (p, n) | none => none) := HL.out
          replace HC2 : Hid (∀ X, Calls Tryd.prog 23 #[.string rs, .int .u8 32] X fun e w' => e = .returned (.tuple #[.string (mk d), .string r2, .bool true]) ∧ Kept No X w') := HC2.out
          have hrl2 : d.length ≤ 100000 ∧ r2.size ≤ 100000 := by
            have h1 := congrArg List.length (cut1_some _ _ _ _ hc2).1
            rw [bl_len, List.length_append, List.length_cons, bl_len] at h1
            omega
          have HN1 : Hid (∀ X, Calls Tryd.prog 38 #[.string (mk d)] X fun e w' => e = .returned (.int .i64 (optM (numP d))) ∧ X = w') := fun X => by
            have := RNumber_any (mk d) (by rw [mk_size]; omega) X
            rwa [bl_mk] at this
          clear hc2
          go_wp2_with fail
          rw [← HW5.out, ← hB]
          refine Calls.mono (HC2.out W5) ?_
          rintro e w6 ⟨rfl, hk6⟩
          have HKw6 : Hid (Kept No w w6) := HKw.out.trans hk6
          have HR6 : Hid (w6.heap[R]? = some (.cells #[.int .i64 0, .int .i64 0] 45 (0, 0))) := hk6.heap HR5.out id
          have HB6 : Hid (w6.heap[B]? = some (.cells #[.int .i64 1, .int .i64 0] 45 (0, 0))) := hk6.heap HB5.out id
          clear hk6 HC2 hB HW5
          have z0 : w6.cell? ⟨R, 0, none⟩ = some (.int .i64 0) := by rw [cell_of HR6.out]; rfl
          have z1 : w6.cell? ⟨R, 1, none⟩ = some (.int .i64 0) := by rw [cell_of HR6.out]; rfl
          have zf : ∀ o, w6.frozen? ⟨R, o, none⟩ = false := fun o => Lib.frozen_of_heap HR6.out o
          have zl : R < w6.heap.size := hp_lt HR6.out
          have p0 : w6.cell? ⟨B, 0, none⟩ = some (.int .i64 1) := by rw [cell_of HB6.out]; rfl
          have p1 : w6.cell? ⟨B, 1, none⟩ = some (.int .i64 0) := by rw [cell_of HB6.out]; rfl
          have pf : ∀ o, w6.frozen? ⟨B, o, none⟩ = false := fun o => Lib.frozen_of_heap HB6.out o
          have pl : B < w6.heap.size := hp_lt HB6.out
          have HF : Hid (∀ N a b, Kept No w (((w6.setCell ⟨B, 1, none⟩ N).setCell ⟨R, 0, none⟩ a).setCell ⟨R, 1, none⟩ b)) := fun N a b => ((HKw6.out.set _ _ _ (.inr HBl.out.2)).set _ _ _ (.inr HRs.out)).set _ _ _ (.inr HRs.out)
          have KX : Hid (∀ N, Kept No w (w6.setCell ⟨B, 1, none⟩ N)) := fun N => HKw6.out.set _ _ _ (.inr HBl.out.2)
          have RX : Hid (∀ N, (w6.setCell ⟨B, 1, none⟩ N).heap[R]? = some (.cells #[.int .i64 0, .int .i64 0] 45 (0, 0))) := fun N => (Below.heap_setCell w6 _ N R (by have := HBl.out.1; show R ≠ B; omega)).trans HR6.out
          clear HB6
          cases hnd : numP d with
          | none =>
            have hR : numR ⟨1, [115, 116, 101, 112], true, 999999999⟩ d = none := by unfold numR; rw [hnd]
            rw [hR] at HL
            replace HL : Hid (lineF (bl s) = none) := HL.out
            rw [hnd] at HN1
            replace HN1 : Hid (∀ X, Calls Tryd.prog 38 #[.string (mk d)] X fun e w' => e = .returned (.int .i64 (-1)) ∧ X = w') := HN1.out
            clear hnd hR
            go_wp2_with (go_at_call 38; refine Calls.mono (HN1.out _) ?_; rintro e w' ⟨rfl, rfl⟩)
            refine bodyPost_ret (v := .tuple #[.agg #[.int .i64 (1), .int .i64 (-1)], .int .i64 (0)]) (by simp [results, Tryd.results25, go_sem, cell_alloc_old, size_set, zl, z0, z1]) rfl ⟨_, rfl, LinePost.no _ _ HL.out, HF.out _ _ _⟩
          | some N =>
            have hN9 := numP_lt d N hnd
            rw [hnd] at HN1
            replace HN1 : Hid (∀ X, Calls Tryd.prog 38 #[.string (mk d)] X fun e w' => e = .returned (.int .i64 (N : Int)) ∧ X = w') := HN1.out
            have hR : numR ⟨1, [115, 116, 101, 112], true, 999999999⟩ d = some (1, (N : Int)) := by unfold numR; rw [hnd]; exact if_neg (by show ¬ (999999999 : Int) < (N : Int); omega)
            rw [hR] at HL
            clear hnd hR
            replace HL : Hid (lineF (bl s) = (xP (bl r2)).map fun n => ((1, (N : Int)), n)) := HL.out
            have HRl : Hid (r2.size ≤ 100000) := hrl2.2
            by_cases hx2 : r2.size < 2
            · have hno : Hid (lineF (bl s) = none) := by show _ = _; rw [HL.out, xP_bad _ (by rw [bl_len]; exact hx2)]; rfl
              have i2 : (r2.size : Int) < 2 := by omega
              clear HL
              go_wp2_with (go_at_call 38; refine Calls.mono (HN1.out _) ?_; rintro e w' ⟨rfl, rfl⟩)
              refine bodyPost_ret (v := .tuple #[.agg #[.int .i64 (1), .int .i64 ((N : Int))], .int .i64 (0)]) (by simp [results, Tryd.results25, go_sem, cell_alloc_old, size_set, zl, z0, z1]) rfl ⟨_, rfl, LinePost.no _ _ hno.out, HF.out _ _ _⟩
            have i2 : decide ((r2.size : Int) < 2) = false := by rw [decide_eq_false_iff_not]; omega
            have hz0 : 0 < r2.size := by omega
            have hz1 : 1 ≤ r2.size := by omega
            have hz2 : (1 : Int) ≤ (r2.size : Int) := by omega
            have hd0 := bl_drop r2 hz0
            rw [List.drop_zero] at hd0
            have hfr : r2.extract 1 r2.size = mk ((bl r2).drop 1) := mk_from r2 1
            have hml : ((bl r2).drop 1).length ≤ r2.size := by rw [List.length_drop, bl_len]; omega
            rw [hd0] at HL
            replace HL : Hid (lineF (bl s) = (xP (r2[0] :: (bl r2).drop 1)).map fun n => ((1, (N : Int)), n)) := HL.out
            generalize (bl r2).drop 1 = m at HL hfr hml
            clear hd0 hx2
            by_cases hc : r2[0].toNat = 120
            case neg =>
              have hno : Hid (lineF (bl s) = none) := by
                show _ = _
                rw [HL.out, xP_no _ _ (fun e => hc (by rw [e]; rfl))]; rfl
              have ic : ((r2[0].toNat : Int) == 120) = false := by rw [beq_eq_false_iff_ne]; omega
              clear HL
              go_wp2_with (go_at_call 38; refine Calls.mono (HN1.out _) ?_; rintro e w' ⟨rfl, rfl⟩)
              refine bodyPost_ret (v := .tuple #[.agg #[.int .i64 (1), .int .i64 ((N : Int))], .int .i64 (0)]) (by simp [results, Tryd.results25, go_sem, cell_alloc_old, size_set, zl, z0, z1]) rfl ⟨_, rfl, LinePost.no _ _ hno.out, HF.out _ _ _⟩
            have ic : (r2[0].toNat : Int) = 120 := by omega
            have HL2 : Hid (lineF (bl s) = match numP m with | some n => if n < 2 then none else some ((1, (N : Int)), n) | none => none) := by
              show _ = _
              rw [HL.out, xP_yes _ _ (UInt8.toNat_inj.1 (by rw [hc]; rfl))]
              cases numP m with
              | none => rfl
              | some n => simp only []; split <;> rfl
            have HN : Hid (∀ X, Calls Tryd.prog 38 #[.string (mk m)] X fun e w' => e = .returned (.int .i64 (optM (numP m))) ∧ X = w') := fun X => by
              have := RNumber_any (mk m) (by rw [mk_size]; have := HRl.out; omega) X
              rwa [bl_mk] at this
            clear HL
            cases hnum : numP m with
            | none =>
              rw [hnum] at HL2 HN
              have HN : Hid (∀ X, Calls Tryd.prog 38 #[.string (mk m)] X fun e w' => e = .returned (.int .i64 (-1)) ∧ X = w') := HN.out
              have hno : Hid (lineF (bl s) = none) := HL2.out
              clear hnum HL2
              go_wp2_with fail
              refine Calls.mono (HN1.out _) ?_
              rintro e w8 ⟨rfl, rfl⟩
              go_wp2_with fail
              refine Calls.mono (HN.out _) ?_
              rintro e w9 ⟨rfl, rfl⟩
              go_wp2_with fail
              refine bodyPost_ret (v := .tuple #[.agg #[.int .i64 (1), .int .i64 ((N : Int))], .int .i64 (0)]) (by simp [results, Tryd.results25, go_sem, cell_alloc_old, size_set, zl, z0, z1]) rfl ⟨_, rfl, LinePost.no _ _ hno.out, HF.out _ _ _⟩
            | some n =>
              have hn9 := numP_lt m n hnum
              rw [hnum] at HL2 HN
              have HN : Hid (∀ X, Calls Tryd.prog 38 #[.string (mk m)] X fun e w' => e = .returned (.int .i64 (n : Int)) ∧ X = w') := HN.out
              clear hnum
              by_cases hn2 : n < 2
              · have hno : Hid (lineF (bl s) = none) := by show _ = _; rw [HL2.out]; exact if_pos hn2
                have in2 : (n : Int) < 2 := by omega
                clear HL2
                go_wp2_with fail
                refine Calls.mono (HN1.out _) ?_
                rintro e w8 ⟨rfl, rfl⟩
                go_wp2_with fail
                refine Calls.mono (HN.out _) ?_
                rintro e w9 ⟨rfl, rfl⟩
                go_wp2_with fail
                refine bodyPost_ret (v := .tuple #[.agg #[.int .i64 (1), .int .i64 ((N : Int))], .int .i64 (0)]) (by simp [results, Tryd.results25, go_sem, cell_alloc_old, size_set, zl, z0, z1]) rfl ⟨_, rfl, LinePost.no _ _ hno.out, HF.out _ _ _⟩
              · have hyes : Hid (lineF (bl s) = some ((1, (N : Int)), n)) := by show _ = _; rw [HL2.out]; exact if_neg hn2
                have in2 : ¬ (n : Int) < 2 := by omega
                clear HL2
                go_wp2_with fail
                refine Calls.mono (HN1.out _) ?_
                rintro e w8 ⟨rfl, rfl⟩
                go_wp2_with fail
                refine Calls.mono (HN.out _) ?_
                rintro e w9 ⟨rfl, rfl⟩
                go_wp2_with fail
                refine region_quiet_tail 4 mixed2 (by kernel_rfl) ?_
                simp only [List.take_succ_cons, List.take_zero, List.drop_succ_cons, List.drop_zero]
                go_big_quiet_step (fail)
                go_big_quiet_step (fail)
                go_big_quiet_step (fail)
                go_big_quiet_step (exact quiet_same (HN.out _))
                refine wpQuiet_nil ?_
                rintro w7 ⟨nq, hw7⟩
                have HK7 : Hid (Kept No w w7) := by show Kept _ _ _; rw [hw7]; exact (KX.out _).drewN nq
                have HR7 : Hid (w7.heap[R]? = some (.cells #[.int .i64 0, .int .i64 0] 45 (0, 0))) := by show _ = _; rw [hw7]; exact (RX.out _)
                clear hw7 z0 z1 zf zl
                have z0 : w7.cell? ⟨R, 0, none⟩ = some (.int .i64 0) := by rw [cell_of HR7.out]; rfl
                have z1 : w7.cell? ⟨R, 1, none⟩ = some (.int .i64 0) := by rw [cell_of HR7.out]; rfl
                have zf : ∀ o, w7.frozen? ⟨R, o, none⟩ = false := fun o => Lib.frozen_of_heap HR7.out o
                have zl : R < w7.heap.size := hp_lt HR7.out
                have HF7 : Hid (∀ a b, Kept No w ((w7.setCell ⟨R, 0, none⟩ a).setCell ⟨R, 1, none⟩ b)) := fun a b => (HK7.out.set _ _ _ (.inr HRs.out)).set _ _ _ (.inr HRs.out)
                go_wp2_with fail
                refine bodyPost_ret (v := .tuple #[.agg #[.int .i64 (1), .int .i64 ((N : Int))], .int .i64 (n)]) (by simp [results, Tryd.results25, go_sem, cell_alloc_old, size_set, zl, z0, z1]) rfl ⟨_, rfl, LinePost.ok hyes.out, HF7.out _ _⟩
    · exfalso
      have := HJ.out.1
      rw [hwk] at this
      cases (show (none : Option Row) = some _ from this)
    · exfalso
      have := HJ.out.1
      rw [hwk] at this
      cases (show (none : Option Row) = some _ from this)
    · exfalso
      have := HJ.out.1
      rw [hwk] at this
      cases (show (none : Option Row) = some _ from this)
    · exfalso
      have := HJ.out.1
      rw [hwk] at this
      cases (show (none : Option Row) = some _ from this)
    · exfalso
      have := HJ.out.1
      rw [hwk] at this
      cases (show (none : Option Row) = some _ from this)
end Go.Proofs.YtbhmgmbgplkkeaaDoor
