/- ScriptCuts. -/
import Derived.Test.YtbhmgmbgplkkeaaDoorU7
namespace Go.Proofs.YtbhmgmbgplkkeaaDoor
open Go.RowKit
set_option linter.unusedSimpArgs false
set_option linter.unusedVariables false

theorem i64_bd {a : Int} (h : (Lit.int .i64 a).wf = true) : -9223372036854775808 ≤ a ∧ a ≤ 9223372036854775807 := by
  simp only [Lit.wf, IntKind.min, IntKind.max, IntKind.signed, IntKind.bits, Bool.and_eq_true, decide_eq_true_eq, if_true] at h
  omega
theorem tmod_abs (a : Int) (m : Nat) : -(m : Int) ≤ a.tmod ((m : Int) + 1) ∧ a.tmod ((m : Int) + 1) ≤ (m : Int) := by
  have h1 := Int.tmod_lt_of_pos a (show (0 : Int) < (m : Int) + 1 by omega)
  have h2 := Int.tmod_lt_of_pos (-a) (show (0 : Int) < (m : Int) + 1 by omega)
  rw [Int.neg_tmod] at h2
  omega

set_option maxRecDepth 20000 in
set_option maxHeartbeats 4000000 in
theorem ScriptCuts_any {z n : Int} {pv : Value} {src : ByteArray} {L : List V} {w : World} (hL : RdV w pv L) (hn : L.length ≤ 140737488355328) (hsrc : src.size ≤ 140737488355328) (cut : Int) (hcut : (Lit.int .i64 cut).wf = true) (hm : MaxIs w) (hr : RowsIs w) (ht : TenIs w) :
    Calls Tryd.prog 7 #[SC z n pv src, .int .i64 cut] w fun e w' => e = .returned (.bool true) ∧ Kept No w w' := by
  have hc0 : -9223372036854775808 ≤ cut ∧ cut ≤ 9223372036854775807 := i64_bd hcut
  have HL0 : Hid (RdV w pv L) := hL
  obtain ⟨ao, cap, rfl, hcap, hC⟩ := hL
  obtain ⟨W, HW⟩ : ∃ W, Hid (W = w.alloc (.cells #[.int .i64 z, .int .i64 n, .slice ao L.length cap, .string src] 25)) := ⟨_, rfl⟩
  have HK : Hid (Kept No w W) := by show Kept _ _ _; rw [HW.out]; exact (Kept.refl No w).alloc _
  obtain ⟨R, HR⟩ : ∃ R, Hid (w.heap.size = R) := ⟨_, rfl⟩
  have HB : Hid (W.heap[R]? = some (.cells #[.int .i64 z, .int .i64 n, .slice ao L.length cap, .string src] 25 (0, 0))) := by show _ = _; rw [HW.out, ← HR.out]; exact World.alloc_heap_new w _
  have HX : Hid (∀ X, Kept No W X → X.cell? ⟨R, 0, none⟩ = some (.int .i64 z) ∧ X.cell? ⟨R, 1, none⟩ = some (.int .i64 n) ∧ X.cell? ⟨R, 2, none⟩ = some (.slice ao L.length cap) ∧ X.cell? ⟨R, 3, none⟩ = some (.string src)) := fun X hX => by
    have hb := hX.heap HB.out id
    exact ⟨by rw [cell_of hb]; rfl, by rw [cell_of hb]; rfl, by rw [cell_of hb]; rfl, by rw [cell_of hb]; rfl⟩
  obtain ⟨b0, b1, b2, b3⟩ := HX.out W (Kept.refl _ _)
  have HAw : Hid (∀ X, Kept No w X → Calls Tryd.prog 9 #[] X fun e w' => e = .returned (.bool true) ∧ Kept No X w') := fun X hX => alive_any X (hm.no hX) (hr.no hX)
  have hm := hm.no HK.out
  have hr := hr.no HK.out
  have ht := ht.no HK.out
  have HLW : Hid (RdV W (.slice ao L.length cap) L) := HL0.out.no HK.out
  have HA : Hid (∀ X, Kept No W X → Calls Tryd.prog 9 #[] X fun e w' => e = .returned (.bool true) ∧ Kept No X w') := fun X hX => alive_any X (hm.no hX) (hr.no hX)
  have HV : Hid (∀ X, Calls Tryd.prog 14 #[SC z n (.slice ao L.length cap) src] X fun e w' => e = .returned (.bool (decide (5000 < L.length) || decide (20000 < src.size))) ∧ Kept No X w') := fun X => vast_any L.length X
  clear hC
  by_cases hv : (decide (5000 < L.length) || decide (20000 < src.size)) = true
  · rw [hv] at HV
    clear hm hr ht
    go_enter Tryd.func7, Tryd.ntmps7
    go_wp2_with (first | rw [← HW.out, HR.out])
    refine Calls.mono (HV.out _) ?_
    rintro e w1 ⟨rfl, hk1⟩
    have HK1 : Hid (Kept No W w1) := hk1
    clear hk1
    go_wp2_with fail
    refine Calls.mono (HA.out w1 HK1.out) ?_
    rintro e w2 ⟨rfl, hk2⟩
    have HK2 : Hid (Kept No W w2) := HK1.out.trans hk2
    clear hk2
    go_wp2
    go_ret
    exact ⟨rfl, HK.out.trans HK2.out⟩
  have hv' : (decide (5000 < L.length) || decide (20000 < src.size)) = false := by simpa using hv
  rw [hv'] at HV
  clear hv
  have HPr : Hid (∀ X, Kept No W X → Calls Tryd.prog 15 #[SC z n (.slice ao L.length cap) src] X fun e w' => e = .returned (prV (printF ⟨z, n, L, bl src⟩)) ∧ Kept No X w') := fun X hX => Print_any (HLW.out.no hX) hn hsrc (hr.no hX) (ht.no hX)
  rcases print_fault ⟨z, n, L, bl src⟩ with ⟨h0, hg, hp⟩ | ⟨h0, hp⟩
  · rw [hp] at HPr
    obtain ⟨T, HT⟩ : ∃ T, Hid (mk (textF ⟨z, n, L, bl src⟩) = T) := ⟨_, rfl⟩
    have sT : T.size ≤ 68222 := by rw [← HT.out, mk_size]; exact text_le hg
    have HPr : Hid (∀ X, Kept No W X → Calls Tryd.prog 15 #[SC z n (.slice ao L.length cap) src] X fun e w' => e = .returned (.tuple #[.string T, .int .i64 0]) ∧ Kept No X w') := by rw [← HT.out]; exact HPr
    obtain ⟨D, hD⟩ : ∃ D, cut.tmod ((T.size : Int) + 1) = D := ⟨_, rfl⟩
    have hD2 := tmod_abs cut T.size
    rw [hD] at hD2
    obtain ⟨hD0, hD1⟩ := hD2
    obtain ⟨C, hC⟩ : ∃ C : Nat, (D + (T.size : Int) + 1).tmod ((T.size : Int) + 1) = (C : Int) := by
      have := Int.tmod_nonneg ((T.size : Int) + 1) (show (0 : Int) ≤ D + (T.size : Int) + 1 by omega)
      exact ⟨((D + (T.size : Int) + 1).tmod ((T.size : Int) + 1)).toNat, by omega⟩
    have hCT : C ≤ T.size := by
      have := tmod_abs (D + (T.size : Int) + 1) T.size
      rw [hC] at this; omega
    have iCT : (C : Int) ≤ (T.size : Int) := by omega
    have hbt : bl (T.extract 0 C) = (textF ⟨z, n, L, bl src⟩).take C := by
      rw [← HT.out]
      show ((mk _).extract 0 C).data.toList = _
      simp [mk, ByteArray.data_extract]
    have hTl : (textF ⟨z, n, L, bl src⟩).length = T.size := by rw [← HT.out, mk_size]
    have hsT : src.size ≤ T.size := by
      have := text_len ⟨z, n, L, bl src⟩
      rw [hTl, bl_len] at this; omega
    have hes : (T.extract 0 C).size ≤ 1000000 := by rw [ByteArray.size_extract]; omega
    have i15 : ¬ (5000 : Int) < (L.length : Int) := by have := hg.len; dsimp only at this; omega
    by_cases hleft : C + src.size < T.size
    · obtain ⟨a, ha⟩ := parse_cut hg C (by rw [hTl]; show C < T.size - (bl src).length; rw [bl_len]; omega)
      have HPt : Hid (∀ X, Kept No W X → Calls Tryd.prog 10 #[.string (T.extract 0 C)] X fun e w' => e = .returned (.tuple #[SC 0 0 (.slice none 0 0) ⟨#[]⟩, .int .i64 (a : Int), .int .i64 ((6 : Nat) : Int)]) ∧ Kept No X w') := fun X hX => parse_no _ hes a 6 (by rw [hbt]; exact ha) X (hm.no hX) (hr.no hX)
      have il : (src.size : Int) - ((T.size : Int) - (C : Int)) < 0 := by omega
      clear hm hr ht hp hg ha hbt hTl
      go_enter Tryd.func7, Tryd.ntmps7
      go_wp2_with (first | rw [← HW.out, HR.out])
      refine Calls.mono (HV.out _) ?_
      rintro e w1 ⟨rfl, hk1⟩
      have HK1 : Hid (Kept No W w1) := hk1
      obtain ⟨b0, b1, b2, b3⟩ := HX.out w1 HK1.out
      clear hk1
      go_wp2_with fail
      refine Calls.mono (HPr.out w1 HK1.out) ?_
      rintro e w2 ⟨rfl, hk2⟩
      have HK2 : Hid (Kept No W w2) := HK1.out.trans hk2
      obtain ⟨b0, b1, b2, b3⟩ := HX.out w2 HK2.out
      clear hk2
      go_wp2_with fail
      refine Calls.mono (no_any _ _) ?_
      rintro e w9 ⟨rfl, rfl⟩
      go_wp2_with fail
      refine Calls.mono (HPt.out w2 HK2.out) ?_
      rintro e w3 ⟨rfl, hk3⟩
      have HK3 : Hid (Kept No W w3) := HK2.out.trans hk3
      obtain ⟨W3, HW3⟩ : ∃ W3, Hid (W3 = w3.alloc (.cells #[.int .i64 0, .int .i64 0, .slice none 0 0, .string ⟨#[]⟩] 25)) := ⟨_, rfl⟩
      have HKW3 : Hid (Kept No W W3) := by show Kept _ _ _; rw [HW3.out]; exact HK3.out.alloc _
      have q3 : ∀ o, (w3.alloc o).cell? ⟨R, 3, none⟩ = some (.string src) := fun o => (HX.out _ (HK3.out.alloc o)).2.2.2
      clear hk3
      go_wp2_with fail
      refine Calls.mono (no_any _ _) ?_
      rintro e w9 ⟨rfl, rfl⟩
      go_wp2_with fail
      rw [← HW3.out]
      refine Calls.mono (Same_nil W3) ?_
      rintro e w4 ⟨rfl, hk4⟩
      have HK4 : Hid (Kept No W w4) := HKW3.out.trans hk4
      clear hk4 q3
      go_wp2_with fail
      refine Calls.mono (HA.out w4 HK4.out) ?_
      rintro e w5 ⟨rfl, hk5⟩
      have HK5 : Hid (Kept No w w5) := HK.out.trans (HK4.out.trans hk5)
      clear hk5
      go_wp2
      go_ret
      exact ⟨rfl, HK5.out⟩
    · obtain ⟨K, hK⟩ : ∃ K, C + src.size = T.size + K := ⟨C + src.size - T.size, by omega⟩
      have il : (src.size : Int) - ((T.size : Int) - (C : Int)) = (K : Int) := by omega
      have iK : (K : Int) ≤ (src.size : Int) := by omega
      have i0 : (0 : Int) ≤ (K : Int) := by omega
      have hbs : bl (src.extract 0 K) = (bl src).take K := by simp [bl, ByteArray.data_extract]
      have hgx : GoodS ⟨z, n, L, (bl src).take K⟩ := ⟨hg.z0, hg.z1, hg.n0, hg.n1, hg.len, hg.fit, by have := hg.src; dsimp only at this ⊢; rw [List.length_take]; omega⟩
      have hpt : parseF (bl (T.extract 0 C)) = .ok ⟨z, n, L, (bl src).take K⟩ := by
        rw [hbt]
        have := text_src ⟨z, n, L, bl src⟩ K
        rw [hTl] at this
        dsimp only at this
        rw [show C = T.size - (bl src).length + K by rw [bl_len]; omega, this]
        exact parse_text hgx
      obtain ⟨S, hS⟩ : ∃ S, src.extract 0 K = S := ⟨_, rfl⟩
      have HPt : Hid (∀ X, Kept No W X → Calls Tryd.prog 10 #[.string (T.extract 0 C)] X fun e w' => (∃ ao c, e = .returned (.tuple #[SC z n (.slice ao L.length c) S, .int .i64 0, .int .i64 0]) ∧ VRow w' X.heap.size (.slice ao L.length c) L) ∧ Kept No X w') := fun X hX => by
        refine Calls.mono (Parse_any (T.extract 0 C) (by omega) X (hm.no hX) (hr.no hX)) ?_
        rintro e w' ⟨hp, hk⟩
        obtain ⟨pv, he, hv, _⟩ := hp.1 _ hpt
        obtain ⟨ao, c, rfl⟩ := hv.form
        rw [show mk (⟨z, n, L, (bl src).take K⟩ : Sc).src = S by rw [← hS]; show mk ((bl src).take K) = _; rw [← hbs]] at he
        exact ⟨⟨ao, c, he, hv⟩, hk⟩
      have hL4 : L.length ≤ 4000 := hg.len
      clear hm hr ht hp hg hgx hpt hbs hbt hTl
      go_enter Tryd.func7, Tryd.ntmps7
      go_wp2_with (first | rw [← HW.out, HR.out])
      refine Calls.mono (HV.out _) ?_
      rintro e w1 ⟨rfl, hk1⟩
      have HK1 : Hid (Kept No W w1) := hk1
      obtain ⟨b0, b1, b2, b3⟩ := HX.out w1 HK1.out
      clear hk1
      go_wp2_with fail
      refine Calls.mono (HPr.out w1 HK1.out) ?_
      rintro e w2 ⟨rfl, hk2⟩
      have HK2 : Hid (Kept No W w2) := HK1.out.trans hk2
      obtain ⟨b0, b1, b2, b3⟩ := HX.out w2 HK2.out
      clear hk2
      go_wp2_with fail
      refine Calls.mono (no_any _ _) ?_
      rintro e w9 ⟨rfl, rfl⟩
      go_wp2_with fail
      refine Calls.mono (HPt.out w2 HK2.out) ?_
      rintro e w3 ⟨⟨xo, xc, rfl, hrd⟩, hk3⟩
      have HVr : Hid (VRow w3 w2.heap.size (.slice xo L.length xc) L) := hrd
      have HK3 : Hid (Kept No W w3) := HK2.out.trans hk3
      have HRl : Hid (R < w2.heap.size ∧ R < w3.heap.size) := ⟨hp_lt (HK2.out.heap HB.out id), hp_lt (HK3.out.heap HB.out id)⟩
      obtain ⟨yb, HYb⟩ : ∃ b, Hid (w3.heap.size = b) := ⟨_, rfl⟩
      obtain ⟨W4, HW4⟩ : ∃ W4, Hid (W4 = (w3.alloc (.cells #[.int .i64 z, .int .i64 n, .slice xo L.length xc, .string S] 25)).setCell ⟨R, 3, none⟩ (.string S)) := ⟨_, rfl⟩
      have HKW4 : Hid (Kept No w W4) := by
        show Kept _ _ _
        rw [HW4.out]
        exact ((HK.out.trans HK3.out).alloc _).set R 3 _ (.inr (by rw [HR.out]; exact Nat.le_refl _))
      have HBx : Hid (W4.heap[R]? = some (.cells #[.int .i64 z, .int .i64 n, .slice ao L.length cap, .string S] 25 (0, 0))) := by
        show _ = _
        rw [HW4.out, hp_set_same ((HK3.out.alloc _).heap HB.out id)]
        rfl
      have HBy : Hid (W4.heap[yb]? = some (.cells #[.int .i64 z, .int .i64 n, .slice xo L.length xc, .string S] 25 (0, 0))) := by
        show _ = _
        rw [HW4.out, ← HYb.out]
        exact hp_set_other (World.alloc_heap_new w3 _) 3 _ (by have := HRl.out.2; omega)
      have HRy : Hid (RdV W4 (.slice xo L.length xc) L) := by
        show RdV _ _ _
        refine (HVr.out.turn (w' := W4) fun k hk => ?_).rd
        obtain ⟨hb1, c, hb2⟩ := HVr.out.block hk
        rw [HW4.out, hp_set, if_neg (by have := HRl.out.1; omega), Below.heap_alloc w3 _ k (hp_lt hb2)]
      have HSm : Hid (Calls Tryd.prog 12 #[SC z n (.slice xo L.length xc) S, SC z n (.slice ao L.length cap) S] W4 fun e w' => e = .returned (.bool true) ∧ Kept No W4 w') := Same_eq HRy.out (HL0.out.no HKW4.out) (by omega)
      have q3 : ∀ o, (w3.alloc o).cell? ⟨R, 3, none⟩ = some (.string src) := fun o => (HX.out _ (HK3.out.alloc o)).2.2.2
      have q3f : ∀ o, (w3.alloc o).frozen? ⟨R, 3, none⟩ = false := fun o => Lib.frozen_of_heap ((HK3.out.alloc o).heap HB.out id) 3
      have x0 : W4.cell? ⟨R, 0, none⟩ = some (.int .i64 z) := by rw [cell_of HBx.out]; rfl
      have x1 : W4.cell? ⟨R, 1, none⟩ = some (.int .i64 n) := by rw [cell_of HBx.out]; rfl
      have x2 : W4.cell? ⟨R, 2, none⟩ = some (.slice ao L.length cap) := by rw [cell_of HBx.out]; rfl
      have x3 : W4.cell? ⟨R, 3, none⟩ = some (.string S) := by rw [cell_of HBx.out]; rfl
      have y0 : W4.cell? ⟨yb, 0, none⟩ = some (.int .i64 z) := by rw [cell_of HBy.out]; rfl
      have y1 : W4.cell? ⟨yb, 1, none⟩ = some (.int .i64 n) := by rw [cell_of HBy.out]; rfl
      have y2 : W4.cell? ⟨yb, 2, none⟩ = some (.slice xo L.length xc) := by rw [cell_of HBy.out]; rfl
      have y3 : W4.cell? ⟨yb, 3, none⟩ = some (.string S) := by rw [cell_of HBy.out]; rfl
      clear hk3 hrd
      go_wp2_with fail
      rw [← HW4.out, HYb.out]
      refine Calls.mono (no_any _ _) ?_
      rintro e w9 ⟨rfl, rfl⟩
      go_wp2_with fail
      refine Calls.mono HSm.out ?_
      rintro e w5 ⟨rfl, hk5⟩
      have HK5 : Hid (Kept No w w5) := HKW4.out.trans hk5
      clear hk5
      go_wp2_with fail
      refine Calls.mono (HAw.out w5 HK5.out) ?_
      rintro e w6 ⟨rfl, hk6⟩
      have HK6 : Hid (Kept No w w6) := HK5.out.trans hk6
      clear hk6
      go_wp2
      go_ret
      exact ⟨rfl, HK6.out⟩
  · rw [hp] at HPr
    generalize faultF ⟨z, n, L, bl src⟩ = F at h0 HPr
    have i0 : ((F : Int) == 0) = false := by rw [beq_eq_false_iff_ne]; omega
    have HPr : Hid (∀ X, Kept No W X → Calls Tryd.prog 15 #[SC z n (.slice ao L.length cap) src] X fun e w' => e = .returned (.tuple #[.string ⟨#[]⟩, .int .i64 (F : Int)]) ∧ Kept No X w') := HPr
    clear hm hr ht hp
    go_enter Tryd.func7, Tryd.ntmps7
    go_wp2_with (first | rw [← HW.out, HR.out])
    refine Calls.mono (HV.out _) ?_
    rintro e w1 ⟨rfl, hk1⟩
    have HK1 : Hid (Kept No W w1) := hk1
    obtain ⟨b0, b1, b2, b3⟩ := HX.out w1 HK1.out
    clear hk1
    go_wp2_with fail
    refine Calls.mono (HPr.out w1 HK1.out) ?_
    rintro e w2 ⟨rfl, hk2⟩
    have HK2 : Hid (Kept No W w2) := HK1.out.trans hk2
    obtain ⟨b0, b1, b2, b3⟩ := HX.out w2 HK2.out
    clear hk2
    go_wp2_with fail
    refine Calls.mono (no_any _ _) ?_
    rintro e w9 ⟨rfl, rfl⟩
    go_wp2_with fail
    refine Calls.mono (HA.out w2 HK2.out) ?_
    rintro e w3 ⟨rfl, hk3⟩
    have HK3 : Hid (Kept No W w3) := HK2.out.trans hk3
    clear hk3
    go_wp2
    go_ret
    exact ⟨rfl, HK.out.trans HK3.out⟩
end Go.Proofs.YtbhmgmbgplkkeaaDoor
