/- ScriptRepeats. -/
import Derived.Test.YtbhmgmbgplkkeaaDoorU8
import Derived.Laws.BytesArg
namespace Go.Proofs.YtbhmgmbgplkkeaaDoor
open Go.RowKit
set_option linter.unusedSimpArgs false
set_option linter.unusedVariables false

/-- The digits of what is left. -/
def decN (m : Nat) : List UInt8 := if m = 0 then [] else Lib.decDigits m
theorem decN_step (m : Nat) (h : 0 < m) : decN m = decN (m / 10) ++ [UInt8.ofNat (48 + m % 10)] := by
  unfold decN
  rw [if_neg (by omega)]
  by_cases h10 : m < 10
  · rw [if_pos (by omega), dec_small h10, Nat.mod_eq_of_lt h10]; rfl
  · rw [if_neg (by omega), dec_big h10]
theorem bl_one (c : Nat) (h : c < 256) : bl (strOfNums [(c : Int)]) = [UInt8.ofNat c] := by
  simp [bl, strOfNums_data]
theorem size_one (c : Int) : (strOfNums [c]).size = 1 := by
  rw [← bl_len]; simp [bl, strOfNums_data]

/-- A point's text, and the text of so many. -/
theorem rep_data (p : V) (hg : GoodS ⟨1, 0, [p], []⟩) (N : Nat) (hN2 : 2 ≤ N) (hN4 : N ≤ 4000) : ∃ ll, ll ≤ 14 ∧ (mk (textF ⟨1, 0, [p], []⟩)).size = 15 + ll + 8 ∧ ∀ S : ByteArray, S.size ≤ 10 → bl S = Lib.decDigits N →
    ((mk (textF ⟨1, 0, [p], []⟩)).extract 0 (15 + ll) ++ ⟨#[32, 120]⟩ ++ S ++ ⟨#[10, 115, 111, 117, 114, 99, 101, 10]⟩).size ≤ 1000000 ∧
    parseF (bl ((mk (textF ⟨1, 0, [p], []⟩)).extract 0 (15 + ll) ++ ⟨#[32, 120]⟩ ++ S ++ ⟨#[10, 115, 111, 117, 114, 99, 101, 10]⟩)) = .ok ⟨1, 0, List.replicate N p, []⟩ := by
  have hfp : fitsP p = true := by have := hg.fit; simpa using this
  have htx : textF ⟨1, 0, [p], []⟩ = headT 1 0 ++ (lineT p 1 ++ (10 :: (srW ++ [10]))) := by
    unfold textF
    dsimp only
    rw [bodyR, if_neg (by simp)]
    simp [bodyR]
  have hhl : (headT 1 0).length = 15 := by decide +kernel
  obtain ⟨ll, hll⟩ : ∃ ll, (lineT p 1).length = ll := ⟨_, rfl⟩
  have hl14 : ll ≤ 14 := by
    obtain ⟨base, _, hb, hT⟩ := line_len hfp
    rw [← hll, hT, if_neg (by omega)]; omega
  obtain ⟨T, hT⟩ : ∃ T, mk (textF ⟨1, 0, [p], []⟩) = T := ⟨_, rfl⟩
  have sT : T.size = 15 + ll + 8 := by
    rw [← hT, mk_size, htx]
    simp only [List.length_append, List.length_cons, List.length_nil, hhl, hll]; omega
  have hblT : bl T = headT 1 0 ++ (lineT p 1 ++ (10 :: (srW ++ [10]))) := by rw [← hT, bl_mk, htx]
  rw [hT]
  have sE : (T.extract 0 (15 + ll)).size = 15 + ll := by rw [ByteArray.size_extract]; omega
  have bE : bl (T.extract 0 (15 + ll)) = headT 1 0 ++ lineT p 1 := by
    have e : bl (T.extract 0 (15 + ll)) = (bl T).take (15 + ll) := by simp [bl, ByteArray.data_extract]
    rw [e, hblT, ← List.append_assoc, List.take_append_of_le_length (by rw [List.length_append]; omega), List.take_of_length_le (by rw [List.length_append]; omega)]
  have hgN : GoodS ⟨1, 0, List.replicate N p, []⟩ := ⟨hg.z0, hg.z1, hg.n0, hg.n1, by rw [List.length_replicate]; exact hN4, by
    rw [List.all_eq_true]; intro q hq; rw [List.eq_of_mem_replicate hq]; exact hfp, hg.src⟩
  refine ⟨ll, hl14, sT, fun S hS hb => ⟨?_, ?_⟩⟩
  · simp only [ByteArray.size_append, sE, sz_mk, List.size_toArray, List.length_cons, List.length_nil]; omega
  · have cat : ∀ a b : ByteArray, bl (a ++ b) = bl a ++ bl b := fun a b => by simp [bl]
    have hbb : bl (T.extract 0 (15 + ll) ++ ⟨#[32, 120]⟩ ++ S ++ ⟨#[10, 115, 111, 117, 114, 99, 101, 10]⟩) = textF ⟨1, 0, List.replicate N p, []⟩ := by
      rw [text_rep _ _ (by omega), itoa_nat, cat, cat, cat, hb, bE]
      simp [bl]
    rw [hbb]; exact parse_text hgN

set_option maxRecDepth 20000 in
set_option maxHeartbeats 400000 in
theorem ScriptRepeats_any (p : V) (n : Int) (hn : (Lit.int .i64 n).wf = true) {w : World} (hm : MaxIs w) (hr : RowsIs w) (ht : TenIs w) :
    Calls Tryd.prog 8 #[AV p, .int .i64 n] w fun e w' => e = .returned (.bool true) ∧ Kept No w w' := by
  have hn0 := i64_bd hn
  obtain ⟨p1, p2⟩ := p
  obtain ⟨W, HW⟩ : ∃ W, Hid (W = w.alloc (.cells #[.int .i64 p1, .int .i64 p2] 45)) := ⟨_, rfl⟩
  have HK : Hid (Kept No w W) := by show Kept _ _ _; rw [HW.out]; exact (Kept.refl No w).alloc _
  obtain ⟨R, HR⟩ : ∃ R, Hid (w.heap.size = R) := ⟨_, rfl⟩
  have HB : Hid (W.heap[R]? = some (.cells #[.int .i64 p1, .int .i64 p2] 45 (0, 0))) := by show _ = _; rw [HW.out, ← HR.out]; exact World.alloc_heap_new w _
  have HX : Hid (∀ X, Kept No W X → X.cell? ⟨R, 0, none⟩ = some (.int .i64 p1) ∧ X.cell? ⟨R, 1, none⟩ = some (.int .i64 p2)) := fun X hX => by
    have hb := hX.heap HB.out id
    exact ⟨by rw [cell_of hb]; rfl, by rw [cell_of hb]; rfl⟩
  have HA : Hid (∀ X, Kept No w X → Calls Tryd.prog 9 #[] X fun e w' => e = .returned (.bool true) ∧ Kept No X w') := fun X hX => alive_any X (hm.no hX) (hr.no hX)
  have HPr : Hid (∀ X, Kept No w X → ∀ b, RdV X (.slice (some ⟨b, 0, none⟩) 1 1) [(p1, p2)] → Calls Tryd.prog 15 #[SC 1 0 (.slice (some ⟨b, 0, none⟩) 1 1) ⟨#[]⟩] X fun e w' => e = .returned (prV (printF ⟨1, 0, [(p1, p2)], []⟩)) ∧ Kept No X w') := fun X hX b hb => Print_any (z := 1) (n := 0) (src := ⟨#[]⟩) hb (by simp) (by decide) (hr.no hX) (ht.no hX)
  obtain ⟨D, hD⟩ : ∃ D, n.tmod 3999 = D := ⟨_, rfl⟩
  have hD2 := tmod_abs n 3998
  rw [show ((3998 : Nat) : Int) + 1 = 3999 from rfl, hD] at hD2
  obtain ⟨hD0, hD1⟩ := hD2
  obtain ⟨N, hN, hN2, hN4⟩ : ∃ N : Nat, (D + 3999).tmod 3999 = (N : Int) - 2 ∧ 2 ≤ N ∧ N ≤ 4000 := by
    have h1 := Int.tmod_nonneg 3999 (show (0 : Int) ≤ D + 3999 by omega)
    have h2 := tmod_abs (D + 3999) 3998
    rw [show ((3998 : Nat) : Int) + 1 = 3999 from rfl] at h2
    exact ⟨((D + 3999).tmod 3999 + 2).toNat, by omega, by omega, by omega⟩
  rcases print_fault ⟨1, 0, [(p1, p2)], []⟩ with ⟨h0, hg, hp⟩ | ⟨h0, hp⟩
  · rw [hp] at HPr
    obtain ⟨T, HT⟩ : ∃ T, Hid (mk (textF ⟨1, 0, [(p1, p2)], []⟩) = T) := ⟨_, rfl⟩
    have HPr : Hid (∀ X, Kept No w X → ∀ b, RdV X (.slice (some ⟨b, 0, none⟩) 1 1) [(p1, p2)] → Calls Tryd.prog 15 #[SC 1 0 (.slice (some ⟨b, 0, none⟩) 1 1) ⟨#[]⟩] X fun e w' => e = .returned (.tuple #[.string T, .int .i64 0]) ∧ Kept No X w') := by rw [← HT.out]; exact HPr
    obtain ⟨ll, hl14, sT, HD⟩ := rep_data (p1, p2) hg N hN2 hN4
    rw [HT.out] at sT HD
    have HPt : Hid (∀ X, Kept No w X → ∀ S : ByteArray, S.size ≤ 10 → bl S = Lib.decDigits N → Calls Tryd.prog 10 #[.string (T.extract 0 (15 + ll) ++ ⟨#[32, 120]⟩ ++ S ++ ⟨#[10, 115, 111, 117, 114, 99, 101, 10]⟩)] X fun e w' => (∃ ao c, e = .returned (.tuple #[SC 1 0 (.slice ao N c) ⟨#[]⟩, .int .i64 0, .int .i64 0]) ∧ RdV w' (.slice ao N c) (List.replicate N (p1, p2))) ∧ Kept No X w') := fun X hX S hS hb => by
      obtain ⟨h1, h2⟩ := HD S hS hb
      have := parse_ok _ h1 ⟨1, 0, List.replicate N (p1, p2), []⟩ h2 X (hm.no hX) (hr.no hX)
      simp only [List.length_replicate] at this
      exact this
    clear HD
    have hdN4 : Hid ((Lib.decDigits N).length ≤ 4) := by show _ ≤ _; rw [Lib.decDigits_length]; exact nDigits_le 3 N (by omega)
    have e1 : (2 : Int) + ((N : Int) - 2) = (N : Int) := by omega
    clear hm hr ht hp
    go_enter Tryd.func8, Tryd.ntmps8
    go_wp2_with (first | rw [← HW.out, HR.out])
    refine Calls.mono (HA.out W HK.out) ?_
    rintro e w1 ⟨rfl, hk1⟩
    have HK1 : Hid (Kept No W w1) := hk1
    obtain ⟨b0, b1⟩ := HX.out w1 HK1.out
    have q0 : ∀ o, (w1.alloc o).cell? ⟨R, 0, none⟩ = some (.int .i64 p1) := fun o => (HX.out _ (HK1.out.alloc o)).1
    have q1 : ∀ o, (w1.alloc o).cell? ⟨R, 1, none⟩ = some (.int .i64 p2) := fun o => (HX.out _ (HK1.out.alloc o)).2
    obtain ⟨W2, HW2⟩ : ∃ W2, Hid (W2 = w1.alloc (.cells #[.int .i64 p1, .int .i64 p2] 45)) := ⟨_, rfl⟩
    obtain ⟨b, Hb⟩ : ∃ b, Hid (w1.heap.size = b) := ⟨_, rfl⟩
    have HKW2 : Hid (Kept No W W2) := by show Kept _ _ _; rw [HW2.out]; exact HK1.out.alloc _
    have HR2 : Hid (RdV W2 (.slice (some ⟨b, 0, none⟩) 1 1) [(p1, p2)]) := by
      have hb : W2.heap[b]? = some (.cells #[.int .i64 p1, .int .i64 p2] 45 (0, 0)) := by rw [HW2.out, ← Hb.out]; exact World.alloc_heap_new w1 _
      refine ⟨_, 1, rfl, Nat.le_refl _, fun j hj => ⟨b, 0, rfl, ?_, ?_⟩⟩
      · obtain rfl : j = 0 := by simpa using hj
        rw [cell_of hb]; rfl
      · obtain rfl : j = 0 := by simpa using hj
        rw [cell_of hb]; rfl
    clear hk1
    go_wp2_with fail
    rw [← HW2.out, Hb.out]
    refine Calls.mono (HPr.out W2 (HK.out.trans HKW2.out) b HR2.out) ?_
    rintro e w2 ⟨rfl, hk2⟩
    have HK2 : Hid (Kept No W w2) := HKW2.out.trans hk2
    clear hk2
    go_wp2_with fail
    refine Calls.mono (no_any _ _) ?_
    rintro e w9 ⟨rfl, rfl⟩
    go_wp2_with fail
    go_loopw [9, 10] (fun v9 v10 wr => ∃ (m : Nat) (S : ByteArray), v9 = .string S ∧ v10 = .int .i64 m ∧ m ≤ N ∧ S.size ≤ 4 ∧ Hid (decN m ++ bl S = Lib.decDigits N ∧ Kept No W wr)) (fun _ v10 _ => (intOf v10).toNat)
    case atStart => exact ⟨N, ⟨#[]⟩, rfl, rfl, Nat.le_refl _, by decide, by unfold decN; rw [if_neg (by omega)]; simp [bl], HK2.out⟩
    case round =>
      obtain ⟨m, S, rfl, rfl, hmN, hS4, HJ⟩ := hrel
      by_cases hm0 : 0 < m
      · have im : (0 : Int) < (m : Int) := by omega
        obtain ⟨c, hc⟩ : ∃ c, m % 10 = c := ⟨_, rfl⟩
        obtain ⟨d, hd⟩ : ∃ d, m / 10 = d := ⟨_, rfl⟩
        have c10 : c < 10 := by omega
        have ic1 : (m : Int) % 10 = (c : Int) := by omega
        have id1 : (m : Int) / 10 = (d : Int) := by omega
        have ic2 : (m : Int).tmod 10 = (c : Int) := by rw [Int.tmod_eq_emod_of_nonneg (by omega)]; exact ic1
        have id2 : (m : Int).tdiv 10 = (d : Int) := by rw [Int.tdiv_eq_ediv_of_nonneg (by omega)]; exact id1
        obtain ⟨k, hk⟩ : ∃ k : Nat, (48 : Int) + (c : Int) = (k : Int) := ⟨48 + c, by omega⟩
        have k256 : (k : Int) < 256 := by omega
        have k0 : (0 : Int) ≤ (k : Int) := by omega
        have hcv := run_convert_bytes_arg (P := Tryd.prog) (wr.alloc (.cells #[.int .u8 (k : Int)] 5)) 46 5 Tryd.underlying46 Tryd.underlying5 wr.heap.size 0 1 1 [(k : Int)] rfl (fun i hi => by
          have : i = 0 := by omega
          subst this
          rw [World.cell?_alloc_at _ _ _ _ rfl]; rfl) 9 Tryd.underlying9
        have so := size_one (k : Int)
        have HN : Hid (decN d ++ bl (strOfNums [(k : Int)] ++ S) = Lib.decDigits N) := by
          show _ = _
          have := HJ.out.1
          rw [decN_step m hm0, hc, hd] at this
          rw [← this]
          have e : bl (strOfNums [(k : Int)]) = [UInt8.ofNat (48 + c)] := by rw [bl_one k (by omega), show k = 48 + c by omega]
          have e2 : bl (strOfNums [(k : Int)] ++ S) = bl (strOfNums [(k : Int)]) ++ bl S := by simp [bl]
          rw [e2, e, List.append_assoc]
        have sN : (strOfNums [(k : Int)] ++ S).size ≤ 4 := by
          have := congrArg List.length HN.out
          rw [List.length_append, bl_len] at this; have := hdN4.out; omega
        have hkr : Hid (Kept No W (wr.alloc (.cells #[.int .u8 (k : Int)] 5))) := HJ.out.2.alloc _
        have hdN : d ≤ N := by omega
        clear HJ hc hd b0 b1 q0 q1 hn0 hD hD0 hD1 hN
        go_wp2_with fail
        go_roundw
        case rel => exact ⟨d, _, rfl, rfl, hdN, sN, HN.out, hkr.out⟩
        case measure => simp [intOf] <;> omega
      · obtain rfl : m = 0 := by omega
        have hbS : Hid (bl S = Lib.decDigits N) := HJ.out.1
        have hkr : Hid (Kept No w wr) := HK.out.trans HJ.out.2
        clear hn0 hD hD0 hD1 b0 b1 q0 q1
        go_wp2_with fail
        refine Calls.mono (HPt.out wr hkr.out S (by omega) hbS.out) ?_
        rintro e w4 ⟨⟨xo, xc, rfl, hrd⟩, hk4⟩
        obtain ⟨W5, HW5⟩ : ∃ W5, Hid (W5 = w4.alloc (.cells #[.int .i64 1, .int .i64 0, .slice xo N xc, .string ⟨#[]⟩] 25)) := ⟨_, rfl⟩
        have HK5 : Hid (Kept No w W5 ∧ Kept No W W5 ∧ RdV W5 (.slice xo N xc) (List.replicate N (p1, p2))) := by
          rw [HW5.out]
          exact ⟨(hkr.out.trans hk4).alloc _, (HJ.out.2.trans hk4).alloc _, hrd.no ((Kept.refl No w4).alloc _)⟩
        obtain ⟨xb, Hxb⟩ : ∃ b, Hid (w4.heap.size = b) := ⟨_, rfl⟩
        have HBx : Hid (W5.heap[xb]? = some (.cells #[.int .i64 1, .int .i64 0, .slice xo N xc, .string ⟨#[]⟩] 25 (0, 0))) := by show _ = _; rw [HW5.out, ← Hxb.out]; exact World.alloc_heap_new w4 _
        have x2 : W5.cell? ⟨xb, 2, none⟩ = some (.slice xo N xc) := by rw [cell_of HBx.out]; rfl
        obtain ⟨ab, aoff, hxo, HC⟩ : ∃ ab aoff, xo = some ⟨ab, aoff, none⟩ ∧ Hid (∀ j, j < N → W5.cell? ⟨ab, aoff + j * 2, none⟩ = some (.int .i64 p1) ∧ W5.cell? ⟨ab, aoff + j * 2 + 1, none⟩ = some (.int .i64 p2)) := by
          obtain ⟨_, _, e1, _, hc⟩ := HK5.out.2.2
          injection e1 with e1 e2 e3
          subst e1 e3
          obtain ⟨ab, aoff, hx, _⟩ := hc 0 (by rw [List.length_replicate]; omega)
          refine ⟨ab, aoff, hx, fun j hj => ?_⟩
          obtain ⟨ab', aoff', hx', h0, h1⟩ := hc j (by rw [List.length_replicate]; exact hj)
          rw [hx] at hx'
          injection hx' with hx'
          injection hx' with e5 e6
          subst e5 e6
          rw [List.getElem_replicate] at h0 h1
          exact ⟨h0, h1⟩
        subst hxo
        clear hk4 hrd HJ
        go_wp2_with fail
        rw [← HW5.out, Hxb.out]
        refine Calls.mono (no_any _ _) ?_
        rintro e w9 ⟨rfl, rfl⟩
        go_wp2_with fail
        go_loopw [86] (fun v86 wr => ∃ j : Nat, j ≤ N ∧ v86 = .int .i64 j ∧ Hid (Kept No W5 wr)) (fun v86 _ => N - (intOf v86).toNat)
        case atStart => exact ⟨0, by omega, rfl, Kept.refl _ _⟩
        case round =>
          clear x2
          obtain ⟨j, hj, rfl, HJ⟩ := hrel
          by_cases hlt : j < N
          · have ij : (j : Int) < (N : Int) := by omega
            obtain ⟨c0, c1⟩ := HC.out j hlt
            have k0 := cell_kept c0 HJ.out
            have k1 := cell_kept c1 HJ.out
            have q0 : ∀ o, (wr.alloc o).cell? ⟨R, 0, none⟩ = some (.int .i64 p1) := fun o => (HX.out _ ((HK5.out.2.1.trans HJ.out).alloc o)).1
            have q1 : ∀ o, (wr.alloc o).cell? ⟨R, 1, none⟩ = some (.int .i64 p2) := fun o => (HX.out _ ((HK5.out.2.1.trans HJ.out).alloc o)).2
            have HJ2 : Hid (∀ o, Kept No W5 (wr.alloc o)) := fun o => HJ.out.alloc o
            clear HJ c0 c1
            go_wp2_with fail
            go_roundw
            case rel => exact ⟨j + 1, by omega, by go_num, HJ2.out _⟩
            case measure => simp [intOf] <;> omega
          · obtain rfl : j = N := by omega
            have HKe : Hid (Kept No w wr) := HK5.out.1.trans HJ.out
            clear HJ
            go_wp2_with fail
            go_ret
            exact ⟨rfl, HKe.out⟩
  · rw [hp] at HPr
    generalize faultF ⟨1, 0, [(p1, p2)], []⟩ = F at h0 HPr
    have i0 : ((F : Int) == 0) = false := by rw [beq_eq_false_iff_ne]; omega
    have HPr : Hid (∀ X, Kept No w X → ∀ b, RdV X (.slice (some ⟨b, 0, none⟩) 1 1) [(p1, p2)] → Calls Tryd.prog 15 #[SC 1 0 (.slice (some ⟨b, 0, none⟩) 1 1) ⟨#[]⟩] X fun e w' => e = .returned (.tuple #[.string ⟨#[]⟩, .int .i64 (F : Int)]) ∧ Kept No X w') := HPr
    clear hm hr ht hp
    go_enter Tryd.func8, Tryd.ntmps8
    go_wp2_with (first | rw [← HW.out, HR.out])
    refine Calls.mono (HA.out W HK.out) ?_
    rintro e w1 ⟨rfl, hk1⟩
    have HK1 : Hid (Kept No W w1) := hk1
    obtain ⟨b0, b1⟩ := HX.out w1 HK1.out
    have q0 : ∀ o, (w1.alloc o).cell? ⟨R, 0, none⟩ = some (.int .i64 p1) := fun o => (HX.out _ (HK1.out.alloc o)).1
    have q1 : ∀ o, (w1.alloc o).cell? ⟨R, 1, none⟩ = some (.int .i64 p2) := fun o => (HX.out _ (HK1.out.alloc o)).2
    obtain ⟨W2, HW2⟩ : ∃ W2, Hid (W2 = w1.alloc (.cells #[.int .i64 p1, .int .i64 p2] 45)) := ⟨_, rfl⟩
    obtain ⟨b, Hb⟩ : ∃ b, Hid (w1.heap.size = b) := ⟨_, rfl⟩
    have HKW2 : Hid (Kept No W W2) := by show Kept _ _ _; rw [HW2.out]; exact HK1.out.alloc _
    have HR2 : Hid (RdV W2 (.slice (some ⟨b, 0, none⟩) 1 1) [(p1, p2)]) := by
      have hb : W2.heap[b]? = some (.cells #[.int .i64 p1, .int .i64 p2] 45 (0, 0)) := by rw [HW2.out, ← Hb.out]; exact World.alloc_heap_new w1 _
      refine ⟨_, 1, rfl, Nat.le_refl _, fun j hj => ⟨b, 0, rfl, ?_, ?_⟩⟩
      · obtain rfl : j = 0 := by simpa using hj
        rw [cell_of hb]; rfl
      · obtain rfl : j = 0 := by simpa using hj
        rw [cell_of hb]; rfl
    clear hk1
    go_wp2_with fail
    rw [← HW2.out, Hb.out]
    refine Calls.mono (HPr.out W2 (HK.out.trans HKW2.out) b HR2.out) ?_
    rintro e w2 ⟨rfl, hk2⟩
    have HK2 : Hid (Kept No w w2) := HK.out.trans (HKW2.out.trans hk2)
    clear hk2
    go_wp2_with fail
    refine Calls.mono (no_any _ _) ?_
    rintro e w9 ⟨rfl, rfl⟩
    go_wp2_with fail
    go_ret
    exact ⟨rfl, HK2.out⟩
end Go.Proofs.YtbhmgmbgplkkeaaDoor
