/- The document's Read, and that both are alike. Out of the numbers' own texts, renumbered. -/
import Derived.Test.YtidokamfppdnaaaGreatDoorN7
namespace Go.Proofs.YtidokamfppdnaaaGreatDoor
open Go.RowKit
set_option linter.unusedSimpArgs false
set_option linter.unusedVariables false
/-- The boxes of a result and of a value behind a callee. -/
theorem rbox2 {w w1 : World} {x y : Value} (hb1 : Below ((w.alloc (.cells #[.int .i64 0, .int .i64 0] 36)).alloc (.cells #[x, y] 36)).heap.size ((w.alloc (.cells #[.int .i64 0, .int .i64 0] 36)).alloc (.cells #[x, y] 36)) w1) :
    w1.cell? ⟨w.heap.size, 0, none⟩ = some (.int .i64 0) ∧ w1.cell? ⟨w.heap.size, 1, none⟩ = some (.int .i64 0) ∧ w1.cell? ⟨w.heap.size + 1, 0, none⟩ = some x ∧ w1.cell? ⟨w.heap.size + 1, 1, none⟩ = some y ∧ w1.frozen? ⟨w.heap.size, 0, none⟩ = false ∧ w1.frozen? ⟨w.heap.size, 1, none⟩ = false ∧ w.heap.size < w1.heap.size ∧ Hid (Below w.heap.size w w1) := by
  have hz := hb1.size
  simp at hz
  refine ⟨cell_later hb1 (alC _ (new0 _ _ _)), cell_later hb1 (alC _ (new1 _ _ _)), ?_, ?_, fro_later hb1 ?_ (by simp; omega), fro_later hb1 ?_ (by simp; omega), by omega, end2 hb1⟩
  · have h := cell_later hb1 (new0 (w.alloc (.cells #[.int .i64 0, .int .i64 0] 36)) x y)
    rwa [show (w.alloc (.cells #[.int .i64 0, .int .i64 0] 36)).heap.size = w.heap.size + 1 by simp] at h
  · have h := cell_later hb1 (new1 (w.alloc (.cells #[.int .i64 0, .int .i64 0] 36)) x y)
    rwa [show (w.alloc (.cells #[.int .i64 0, .int .i64 0] 36)).heap.size = w.heap.size + 1 by simp] at h
  · simp [go_sem]
  · simp [go_sem]
set_option maxHeartbeats 2000000 in
theorem RRead_bits (s : ByteArray) (w : World) (h18 : (s.size : Int) = 18) (hex : ((s.extract 0 2).toList == [48, 102]) = true) :
    Calls Tryz.prog 26 #[.string s] w fun e w' => e = .returned (bitsT (s.extract 2 s.size)) ∧ Below w.heap.size w w' := by
  have hX : (s.extract 2 s.size).size = 16 := by rw [ByteArray.size_extract]; omega
  have CX : Hid (∀ w, Calls Tryz.prog 39 #[.string (s.extract 2 s.size)] w fun e w' => e = .returned (hexR (s.extract 2 s.size)) ∧ w' = w) := fun w => RHex_any _ w hX
  obtain ⟨X, HX⟩ : ∃ X, Hid (X = s.extract 2 s.size) := ⟨_, rfl⟩
  rw [← HX.out] at hX CX ⊢
  cases ha : allB X hexd
  · have HT : Hid (bitsT X = .tuple #[AV 0 0, .int .i64 6]) := by show _ = _; unfold bitsT; rw [if_neg]; rintro ⟨_, h, _⟩; rw [ha] at h; cases h
    have HE : hexR X = .tuple #[.int .u64 0, .bool false] := by unfold hexR; rw [ha]; rfl
    rw [HE] at CX
    clear HE
    go_enter Tryz.func26, Tryz.ntmps26
    go_wp2_with fail
    rw [← HX.out]
    refine (CX.out _).mono ?_
    rintro e w' ⟨rfl, rfl⟩
    go_wp2
    refine bodyPost_ret (v := .tuple #[AV 0 0, .int .i64 6]) (by simp [results, Tryz.results26, go_sem]) rfl ⟨by rw [HT.out], ?_⟩
    exact ((Below.refl _ _).alloc (Nat.le_refl _) _).alloc (by simp) _
  · have HE : hexR X = .tuple #[.int .u64 (hexV X.data.toList), .bool true] := by unfold hexR; rw [ha]; rfl
    rw [HE] at CX
    clear HE
    obtain ⟨V, hV⟩ : ∃ V : Nat, V = hexV X.data.toList := ⟨_, rfl⟩
    have hVl : V < 18446744073709551616 := by
      have h := hexV_lt _ (allB_hex X ha)
      rw [← Lib.size_eq, hX] at h
      rw [hV]; exact h
    obtain ⟨M, hM⟩ : ∃ M : Int, M = wrap64 (V : Int) := ⟨_, rfl⟩
    rw [← hV] at CX
    have hcv : IntKind.i64.wrap (V : Int) = M := by rw [hM]; unfold wrap64; rw [IntKind.wrap_i64]
    cases hi : isNum 3 M
    · have HT : Hid (bitsT X = .tuple #[AV 0 0, .int .i64 6]) := by
        show _ = _; unfold bitsT; rw [if_neg]; rintro ⟨_, _, h⟩; rw [← hV, ← hM, hi] at h; cases h
      have IS : Hid (∀ w, Calls Tryz.prog 40 #[AV 3 M] w fun e w' => e = .returned (.bool false) ∧ Below w.heap.size w w') := fun w => by
        have h := RIs_any 3 M w; rw [hi] at h; exact h
      clear hM hV hi ha
      go_enter Tryz.func26, Tryz.ntmps26
      go_wp2_with fail
      rw [← HX.out]
      refine (CX.out _).mono ?_
      rintro e w' ⟨rfl, rfl⟩
      go_wp2_with fail
      refine (IS.out _).mono ?_
      rintro e w3 ⟨rfl, hb3⟩
      obtain ⟨k5, k6, a5, a6, l5, l6, z1, HB⟩ := rbox2 hb3
      clear hb3
      go_wp2
      refine bodyPost_ret (v := .tuple #[AV 0 0, .int .i64 6]) (by simp [results, Tryz.results26, go_sem, k5, k6]) rfl ⟨by rw [HT.out], ?_⟩
      exact (HB.out.setCell (by simp) _).setCell (by simp) _
    · have HT : Hid (bitsT X = .tuple #[AV 3 M, .int .i64 0]) := by
        show _ = _; unfold bitsT; rw [if_pos ⟨hX, ha, by rw [← hV, ← hM]; exact hi⟩, ← hV, ← hM]
      have IS : Hid (∀ w, Calls Tryz.prog 40 #[AV 3 M] w fun e w' => e = .returned (.bool true) ∧ Below w.heap.size w w') := fun w => by
        have h := RIs_any 3 M w; rw [hi] at h; exact h
      clear hM hV hi ha
      go_enter Tryz.func26, Tryz.ntmps26
      go_wp2_with fail
      rw [← HX.out]
      refine (CX.out _).mono ?_
      rintro e w' ⟨rfl, rfl⟩
      go_wp2_with fail
      refine (IS.out _).mono ?_
      rintro e w3 ⟨rfl, hb3⟩
      obtain ⟨k5, k6, a5, a6, l5, l6, z1, HB⟩ := rbox2 hb3
      clear hb3
      go_wp2
      refine bodyPost_ret (v := .tuple #[AV 3 M, .int .i64 0]) (by simp [results, Tryz.results26, go_sem, k5, k6]) rfl ⟨by rw [HT.out], ?_⟩
      exact (HB.out.setCell (by simp) _).setCell (by simp) _
theorem decV_succ (C : List UInt8) (j : Nat) (h : j < C.length) : decV (C.take (j + 1)) = decV (C.take j) * 10 + (C[j].toNat - 48) := by
  rw [List.take_succ_eq_append_getElem h]; unfold decV decF; rw [List.foldl_append]; rfl
theorem ptL_lo (T : ByteArray) (i k : Nat) (hi : i < T.size) (h : k < i) : decV ((ptL T i).take (k + 1)) = decV ((ptL T i).take k) * 10 + ((T[k]'(by omega)).toNat - 48) := by
  have hl := ptL_len T i hi
  rw [decV_succ _ _ (by omega)]
  have e : (ptL T i)[k]'(by omega) = T[k]'(by omega) := by
    unfold ptL
    rw [List.getElem_append_left (by rw [List.length_take, ← Lib.size_eq]; omega), List.getElem_take]; rfl
  rw [e]
theorem ptL_hi (T : ByteArray) (i k : Nat) (hi : i < k) (h : k < T.size) : decV ((ptL T i).take k) = decV ((ptL T i).take (k - 1)) * 10 + ((T[k]'h).toNat - 48) := by
  have hl := ptL_len T i (by omega)
  have h1 := decV_succ (ptL T i) (k - 1) (by omega)
  have e : (ptL T i)[k - 1]'(by omega) = T[k]'h := by
    unfold ptL
    rw [List.getElem_append_right (by rw [List.length_take, ← Lib.size_eq]; omega), List.getElem_drop]
    have : i + 1 + (k - 1 - (T.data.toList.take i).length) = k := by rw [List.length_take, ← Lib.size_eq]; omega
    simp only [this]; rfl
  rw [e, show k - 1 + 1 = k by omega] at h1
  exact h1
theorem pt_dig (T : ByteArray) (i k : Nat) (h1 : allB (T.extract 0 i) dec = true) (h2 : allB (T.extract (i + 1) T.size) dec = true) (hk : k < T.size) (hne : k ≠ i) : 48 ≤ (T[k]'hk).toNat ∧ (T[k]'hk).toNat ≤ 57 := by
  rcases Nat.lt_or_ge k i with h | h
  · refine allB_mem h1 _ ?_
    rw [ex_lo]
    exact List.mem_take_iff_getElem.2 ⟨k, by rw [← Lib.size_eq]; omega, rfl⟩
  · refine allB_mem h2 _ ?_
    rw [ex_hi]
    refine List.mem_iff_getElem.2 ⟨k - (i + 1), by rw [List.length_drop, ← Lib.size_eq]; omega, ?_⟩
    rw [List.getElem_drop]
    have : i + 1 + (k - (i + 1)) = k := by omega
    simp only [this]; rfl
theorem pt_all (T : ByteArray) (i : Nat) (h1 : allB (T.extract 0 i) dec = true) (h2 : allB (T.extract (i + 1) T.size) dec = true) : ∀ c ∈ ptL T i, c.toNat ≤ 57 := fun c hc => by
  unfold ptL at hc
  rw [List.mem_append] at hc
  rcases hc with hc | hc
  · rw [← ex_lo] at hc; exact (allB_mem h1 c hc).2
  · rw [← ex_hi] at hc; exact (allB_mem h2 c hc).2
theorem nan9 : Fm.nanB (B 9221120237041090561) = true := by decide +kernel
theorem ng_flt (r : Nat) (h : r < 18446744073709551616) : ngN 3 (flt r) = flt (Fm.neg r) := by
  have e0 : ngN 3 (flt r) = flt (Fm.neg (B (flt r))) := by simp [ngN, isNum_flt r h]
  rw [e0]
  cases hn : Fm.nanB r
  · have e : flt r = bi r := by unfold flt; rw [hn, if_neg (by decide)]
    rw [e, B_bi h]
  · have e : flt r = 9221120237041090561 := by unfold flt; rw [hn, if_pos rfl]
    have e2 : flt (Fm.neg (B 9221120237041090561)) = 9221120237041090561 := by unfold flt; rw [Fm.nan_neg (B_lt _), nan9, if_pos rfl]
    have e3 : flt (Fm.neg r) = 9221120237041090561 := by unfold flt; rw [Fm.nan_neg h, hn, if_pos rfl]
    rw [e, e2, e3]
/-- How many digits were read, of the digits about the point. -/
def ptJ (i k : Nat) : Nat := if k ≤ i then k else k - 1
set_option maxHeartbeats 8000000 in
theorem RRead_pt (s T : ByteArray) (M : Bool) (w : World) (i : Nat) (hs : s.size ≤ 140737488351232) (hT : T.size ≤ 140737488351232) (hn : noBits s) (hm : signed s T M) (ha : allB T dec = false) (hp : Lib.indexByte T.data.toList 46 = i) (hi : i < T.size) (h1 : allB (T.extract 0 i) dec = true) (h2 : allB (T.extract (i + 1) T.size) dec = true) (hz : ¬ (16 : Int) < (T.size : Int)) :
    Calls Tryz.prog 26 #[.string s] w fun e w' => e = .returned (.tuple #[AV 3 (ptM M (decV (ptL T i)) (T.size - (i + 1))), .int .i64 0]) ∧ Below w.heap.size w w' := by
  have AL : Hid (∀ w, Calls Tryz.prog 41 #[.string T] w fun e w' => e = .returned (.bool false) ∧ w' = w) := fun w => by
    have h := RAll_any T w hT; rw [ha] at h; exact h
  have PT : Hid (∀ w, Calls Tryz.prog 43 #[.string T] w fun e w' => e = .returned (.int .i64 (i : Int)) ∧ w' = w) := fun w => by
    have h := RPoint_any T w hT; rw [hp] at h; exact h
  have A1 : Hid (∀ w, Calls Tryz.prog 41 #[.string (T.extract 0 i)] w fun e w' => e = .returned (.bool true) ∧ w' = w) := fun w => by
    have h := RAll_any (T.extract 0 i) w (ex_size _ _ _ hT); rw [h1] at h; exact h
  have A2 : Hid (∀ w, Calls Tryz.prog 41 #[.string (T.extract (i + 1) T.size)] w fun e w' => e = .returned (.bool true) ∧ w' = w) := fun w => by
    have h := RAll_any (T.extract (i + 1) T.size) w (ex_size _ _ _ hT); rw [h2] at h; exact h
  have HD : Hid (∀ k (hk : k < T.size), k ≠ i → 48 ≤ (T[k]'hk).toNat ∧ (T[k]'hk).toNat ≤ 57) := fun k hk hne => pt_dig T i k h1 h2 hk hne
  have HA : Hid (∀ c ∈ ptL T i, c.toNat ≤ 57) := pt_all T i h1 h2
  have HLn : Hid ((ptL T i).length + 1 = T.size) := ptL_len T i hi
  clear ha hp h1 h2
  rcases hn with h18 | ⟨h18, hex⟩ <;> rcases hm with ⟨rfl, rfl, h0⟩ | ⟨rfl, rfl, h0, hx⟩ | ⟨rfl, HT, h0, hx⟩ <;> try (exfalso; omega)
  all_goals
   (go_enter Tryz.func26, Tryz.ntmps26
    go_wp2_with fail
    try rw [← HT.out]
    refine (AL.out _).mono ?_
    rintro e w' ⟨rfl, rfl⟩
    go_wp2_with fail
    try rw [← HT.out]
    refine (PT.out _).mono ?_
    rintro e w' ⟨rfl, rfl⟩
    go_wp2_with fail
    refine (A1.out _).mono ?_
    rintro e w' ⟨rfl, rfl⟩
    go_wp2_with fail
    refine (A2.out _).mono ?_
    rintro e w' ⟨rfl, rfl⟩
    go_wp2_with fail
    go_loop [10, 11] (fun n u => ∃ k V : Nat, k ≤ T.size ∧ u = .int .i64 k ∧ n = .int .i64 V ∧ V < 1000000000000000 ∧ Hid (V = decV ((ptL T i).take (ptJ i k)))) (fun _ u => T.size - (intOf u).toNat)
    case atStart => exact ⟨0, 0, Nat.zero_le _, rfl, rfl, by omega, by show _ = _; rw [show ptJ i 0 = 0 by simp [ptJ]]; rfl⟩
    case round =>
      obtain ⟨k, V, hk, rfl, rfl, hV, hh⟩ := hrel
      by_cases hlt : k < T.size
      · by_cases hki : k = i
        · have hki' : (k : Int) = (i : Int) := by omega
          have HJ : Hid (ptJ i (k + 1) = ptJ i k) := by show _ = _; unfold ptJ; rw [if_neg (by omega), if_pos (by omega)]; omega
          clear hki
          go_wp2
          go_round
          case rel => exact ⟨k + 1, V, by omega, by go_num, rfl, hV, by show _ = _; rw [HJ.out]; exact hh.out⟩
          case measure => simp [intOf]; omega
        · have hki' : ¬ (k : Int) = (i : Int) := by omega
          obtain ⟨d1, d2⟩ := HD.out k hlt hki
          obtain ⟨c, hc⟩ : ∃ c : Nat, c + 48 = (T[k]'hlt).toNat := ⟨(T[k]'hlt).toNat - 48, by omega⟩
          have hc9 : c ≤ 9 := by omega
          have hci : ((T[k]'hlt).toNat : Int) = (c : Int) + 48 := by omega
          have HS : Hid (V * 10 + c = decV ((ptL T i).take (ptJ i (k + 1)))) := by
            show _ = _
            have hc' : (T[k]'hlt).toNat - 48 = c := by omega
            rcases Nat.lt_or_ge k i with h | h
            · have e := ptL_lo T i k hi h
              have j1 : ptJ i (k + 1) = k + 1 := by unfold ptJ; rw [if_pos (by omega)]
              have j0 : ptJ i k = k := by unfold ptJ; rw [if_pos (by omega)]
              rw [j1, e, hc', hh.out, j0]
            · have e := ptL_hi T i k (by omega) hlt
              have j1 : ptJ i (k + 1) = k := by unfold ptJ; rw [if_neg (by omega)]; omega
              have j0 : ptJ i k = k - 1 := by unfold ptJ; rw [if_neg (by omega)]
              rw [j1, e, hc', hh.out, j0]
          have hb : V * 10 + c < 1000000000000000 := by
            rw [HS.out]
            refine decV_lt _ (fun x hx => HA.out x (List.mem_of_mem_take hx)) 15 ?_
            have := HLn.out
            rw [List.length_take]; omega
          clear d1 d2 hc hki
          go_wp2
          go_round
          case rel => exact ⟨k + 1, V * 10 + c, by omega, by go_num, by go_num, hb, HS.out⟩
          case measure => simp [intOf]; omega
      · have he : k = T.size := by omega
        subst he
        have HV : Hid (decV (ptL T i) = V) := by
          show _ = _
          have j0 : ptJ i T.size = T.size - 1 := by unfold ptJ; rw [if_neg (by omega)]
          rw [hh.out, j0, List.take_of_length_le (by have := HLn.out; omega)]
        clear hh hk hlt HD HA HLn
        go_wp2_with fail
        go_loop [12, 13] (fun n u => ∃ j : Nat, i + 1 + j ≤ T.size ∧ u = .int .i64 ((i : Int) + 1 + j) ∧ ∃ P : Nat, n = .int .i64 P ∧ P ≤ 1000000000000000 ∧ Hid (P = 10 ^ j)) (fun _ u => T.size - (intOf u).toNat)
        case atStart => exact ⟨0, by omega, by go_num, 1, rfl, by omega, rfl⟩
        case round =>
          obtain ⟨j, hj, rfl, P, rfl, hP, hh⟩ := hrel
          by_cases hlt : i + 1 + j < T.size
          · have hlt' : (i : Int) + 1 + j < (T.size : Int) := by omega
            have HP : Hid (P * 10 = 10 ^ (j + 1)) := by show _ = _; rw [hh.out, Nat.pow_succ]
            have hb : P * 10 ≤ 1000000000000000 := by
              rw [HP.out]; exact Nat.pow_le_pow_right (n := 10) (by decide) (show j + 1 ≤ 15 by omega)
            clear hlt
            go_wp2
            go_round
            case rel => exact ⟨j + 1, by omega, by go_num, P * 10, by go_num, hb, HP.out⟩
            case measure => simp [intOf]; omega
          · have hlt' : ¬ (i : Int) + 1 + j < (T.size : Int) := by omega
            have he : T.size - (i + 1) = j := by omega
            obtain ⟨r, w2, hr, hv, hrl, hb2⟩ := quo_any (Fm.ofInt (V : Int)) (Fm.ofInt (P : Int)) (w.alloc (.cells #[.int .i64 0, .int .i64 0] 36))
            have hr' : (binOp .quo 71 (.float .f64 (floatOfInt .f64 (V : Int))) (.float .f64 (floatOfInt .f64 (P : Int)))).run Tryz.prog (w.alloc (.cells #[.int .i64 0, .int .i64 0] 36)) = .ok (.float .f64 r) w2 := hr
            have HF : Hid (ptN (decV (ptL T i)) (T.size - (i + 1)) = flt r) := by
              show _ = _; unfold ptN pw; rw [HV.out, he, hv, hh.out]
            have HG : Hid (ngN 3 (flt r) = flt (Fm.neg r)) := ng_flt r hrl
            have hneg : ∀ w, (Op.unary .neg (.float .f64 r)).run Tryz.prog w = .ok (.float .f64 (Fm.neg r)) w := fun _ => rfl
            obtain ⟨k5, k6, l5, l6, z1, HB⟩ := rbox hb2
            clear hv hr hb2 hh hj he
            go_wp2_with fail
            refine (RFloat_any _ _).mono ?_
            rintro e w3 ⟨rfl, hb3⟩
            have k5 := cell_later hb3 k5
            have k6 := cell_later hb3 k6
            have l5 := fro_later hb3 l5 z1
            have l6 := fro_later hb3 l6 z1
            have HB := chainB HB hb3
            clear hb3 hneg hr'
            go_wp2
            first
            | (refine bodyPost_ret (v := .tuple #[AV 3 (flt (Fm.neg r)), .int .i64 0]) (by simp [results, Tryz.results26, go_sem, k5, k6]) rfl ⟨by rw [← HG.out, ← HF.out]; rfl, ?_⟩
               exact (HB.out.setCell (by simp) _).setCell (by simp) _)
            | (refine bodyPost_ret (v := .tuple #[AV 3 (flt r), .int .i64 0]) (by simp [results, Tryz.results26, go_sem, k5, k6]) rfl ⟨by rw [← HF.out]; rfl, ?_⟩
               exact (HB.out.setCell (by simp) _).setCell (by simp) _))
theorem get0 (s : ByteArray) (h : 0 < s.size) : s.data.toList[0]'(by rw [← Lib.size_eq]; exact h) = s[0] := rfl
theorem signed_of (s : ByteArray) : signed s (unsg s) (Lib.hasPrefix s.data.toList dash.data.toList) := by
  rcases dash_cases s with ⟨h, hl, he⟩ | ⟨h, he⟩
  · right; right
    have h0 : 0 < s.size := by rw [Lib.size_eq, hl]; simp
    refine ⟨h, he, h0, ?_⟩
    have e : s[0] = 45 := by rw [← get0 s h0]; simp [hl]
    rw [e]; rfl
  · rcases Nat.eq_zero_or_pos s.size with h0 | h0
    · exact Or.inl ⟨h, he, h0⟩
    · refine Or.inr (Or.inl ⟨h, he, h0, ?_⟩)
      intro hc
      have e : s[0] = 45 := by apply UInt8.toNat_inj.1; show s[0].toNat = 45; omega
      rw [← get0 s h0] at e
      unfold Lib.hasPrefix at h
      cases hl : s.data.toList with
      | nil => rw [Lib.size_eq, hl] at h0; simp at h0
      | cons c r =>
        simp only [hl, List.getElem_cons_zero] at e
        rw [hl, e] at h
        cases h
theorem pre_eq (s : ByteArray) : ((s.extract 0 2).toList == [48, 102]) = Lib.hasPrefix s.data.toList zf.data.toList := by
  rw [ByteArray.toList_eq, ex_lo]
  have hz : zf.data.toList = [48, 102] := rfl
  unfold Lib.hasPrefix
  rw [hz]
  rcases s.data.toList with _ | ⟨a, _ | ⟨b, r⟩⟩
  · rfl
  · simp [List.isPrefixOf]
  · rw [Bool.eq_iff_iff]
    simp [List.isPrefixOf]
    constructor
    · rintro ⟨rfl, rfl⟩; exact ⟨rfl, rfl⟩
    · rintro ⟨h1, h2⟩; exact ⟨h1.symm, h2.symm⟩
theorem noBits_of (s : ByteArray) (h : Lib.hasPrefix s.data.toList zf.data.toList = false) : noBits s := by
  by_cases h18 : (s.size : Int) = 18
  · exact Or.inr ⟨h18, by rw [pre_eq]; exact h⟩
  · exact Or.inl h18
/-- Both give t m and the error x. -/
def Same (s : ByteArray) : Prop := ∃ t m x : Int,
  (∀ w, ErrIs w → Calls Tryz.prog 34 #[.string s] w fun e w' => e = .returned (.tuple #[AV t m, .int .i64 x]) ∧ Below w.heap.size w w') ∧
  (∀ w, Calls Tryz.prog 26 #[.string s] w fun e w' => e = .returned (.tuple #[AV t m, .int .i64 x]) ∧ Below w.heap.size w w')
theorem ix_two (r : List UInt8) : Lib.indexByte (48 :: 102 :: r) 46 = -1 ∨ 2 ≤ Lib.indexByte (48 :: 102 :: r) 46 := by
  have h0 : ∀ l : List UInt8, -1 ≤ Lib.indexByte l 46 := by
    intro l
    induction l with
    | nil => decide
    | cons b l ih => unfold Lib.indexByte; split; · omega
                     · split <;> omega
  have e1 : Lib.indexByte (102 :: r) 46 = if Lib.indexByte r 46 == -1 then -1 else Lib.indexByte r 46 + 1 := by
    conv => lhs; unfold Lib.indexByte
    rw [if_neg (by decide)]
  have e2 : Lib.indexByte (48 :: 102 :: r) 46 = if Lib.indexByte (102 :: r) 46 == -1 then -1 else Lib.indexByte (102 :: r) 46 + 1 := by
    conv => lhs; unfold Lib.indexByte
    rw [if_neg (by decide)]
  have hr := h0 r
  by_cases h : Lib.indexByte r 46 = -1
  · left; rw [e2, e1, h]; rfl
  · right
    have hb : (Lib.indexByte r 46 == -1) = false := by simpa using h
    rw [hb, if_neg Bool.false_ne_true] at e1
    have hb2 : (Lib.indexByte r 46 + 1 == -1) = false := by rw [beq_eq_false_iff_ne]; omega
    rw [e1, hb2, if_neg Bool.false_ne_true] at e2
    omega
theorem same_bits (s : ByteArray) (hz : s.size ≤ 140737488351232) (h : Lib.hasPrefix s.data.toList zf.data.toList = true) : Same s := by
  have hs : s.size ≤ maxLen := Nat.le_trans hz (by decide)
  have hzf : zf.data.toList = [48, 102] := rfl
  have ho : offm s = s.extract 2 s.size := by
    apply Go.WideShapes.bytes_inj
    rw [ex_hi]
    unfold offm Lib.trimPrefix
    rw [h, if_pos rfl, hzf]; rfl
  obtain ⟨r, hr⟩ : ∃ r, s.data.toList = 48 :: 102 :: r := by
    unfold Lib.hasPrefix at h
    rw [hzf] at h
    obtain ⟨r, hr⟩ := List.isPrefixOf_iff_prefix.1 h
    exact ⟨r, hr.symm⟩
  by_cases h18 : (s.size : Int) = 18
  · obtain ⟨t, m, x, hb⟩ := bitsT_form (offm s)
    refine ⟨t, m, x, fun w _ => Read_bits s t m x w hs h hb, fun w => ?_⟩
    rw [← hb, ho]
    exact RRead_bits s w h18 (by rw [pre_eq]; exact h)
  · have hb : bitsT (offm s) = .tuple #[AV 0 0, .int .i64 6] := by
      unfold bitsT
      rw [if_neg]
      rintro ⟨h16, _⟩
      rw [ho, ByteArray.size_extract] at h16
      omega
    have h0 : 0 < s.size := by rw [Lib.size_eq, hr]; simp
    have hsg : signed s s false := by
      refine Or.inr (Or.inl ⟨rfl, rfl, h0, ?_⟩)
      have e : s[0] = 48 := by rw [← get0 s h0]; simp [hr]
      rw [e]; decide
    have h102 : ∀ A : ByteArray, (102 : UInt8) ∈ A.data.toList → allB A dec = false := fun A hA => by
      cases ha : allB A dec
      · rfl
      · exact absurd (allB_mem ha _ hA).2 (by decide)
    have ha : allB s dec = false := h102 s (by rw [hr]; simp)
    refine ⟨0, 0, 6, fun w _ => Read_bits s 0 0 6 w hs h hb, fun w => ?_⟩
    rcases pt_cases s with ⟨hp, _, _⟩ | ⟨i, hp, hi, _, _, _, _⟩
    · exact RRead_bad1 s s false w hz hz (Or.inl h18) hsg ha hp
    · refine RRead_bad2 s s false w i hz hz (Or.inl h18) hsg ha hp hi (h102 _ ?_)
      rw [ex_lo, hr]
      have h2 := ix_two r
      rw [← hr, hp] at h2
      have h2' : 2 ≤ i := by omega
      obtain ⟨j, rfl⟩ : ∃ j, i = j + 2 := ⟨i - 2, by omega⟩
      simp
theorem wholeT_form (T : ByteArray) (M : Bool) : ∃ t m x : Int, wholeT T M = .tuple #[AV t m, .int .i64 x] := by
  unfold wholeT; split
  · exact ⟨_, _, _, rfl⟩
  · split
    · exact ⟨_, _, _, rfl⟩
    · exact ⟨_, _, _, rfl⟩
theorem same_rest (s : ByteArray) (hz : s.size ≤ 140737488351232) (h : Lib.hasPrefix s.data.toList zf.data.toList = false) : Same s := by
  have hs : s.size ≤ maxLen := Nat.le_trans hz (by decide)
  have hT : (unsg s).size ≤ 140737488351232 := Nat.le_trans (unsg_size s) hz
  have hnb := noBits_of s h
  have hsg := signed_of s
  cases hb : bad s
  · rcases pt_cases (unsg s) with ⟨hp, q1, q2⟩ | ⟨i, hp, hi, q1, q2, q3, q4⟩
    · have ha : allB (unsg s) dec = true := by
        unfold bad ahd pnt at hb
        rw [q1, q2] at hb
        simpa using hb
      have hm := allB_mem ha
      have hne := allB_ne ha
      obtain ⟨t, m, x, hw⟩ := wholeT_form (unsg s) (Lib.hasPrefix s.data.toList dash.data.toList)
      refine ⟨t, m, x, fun w he => ?_, fun w => RRead_whole s (unsg s) _ t m x w hz hT hnb hsg ha hw⟩
      have P : (∃ v, Lib.parseIntB 64 s.data.toList = .ok v ∧ wholeT (unsg s) (Lib.hasPrefix s.data.toList dash.data.toList) = .tuple #[AV 2 v, .int .i64 0]) ∨
          (Lib.parseIntB 64 s.data.toList = .range ∧ wholeT (unsg s) (Lib.hasPrefix s.data.toList dash.data.toList) = .tuple #[AV 0 0, .int .i64 7]) := by
        rcases dash_cases s with ⟨d1, d2, _⟩ | ⟨d1, d2⟩
        · rw [d1, d2, pI_neg _ hm hne]
          unfold wholeT
          generalize decV (unsg s).data.toList = V
          by_cases h1 : V < 9223372036854775808
          · left; rw [if_pos (by omega), if_pos h1]; exact ⟨_, rfl, rfl⟩
          · by_cases h2 : V = 9223372036854775808
            · left; rw [if_pos (by omega), if_neg h1, if_pos ⟨h2, rfl⟩, h2]; exact ⟨_, rfl, rfl⟩
            · right; rw [if_neg (by omega), if_neg h1, if_neg (by omega)]; exact ⟨rfl, rfl⟩
        · rw [d1]
          rw [d2] at hm hne ⊢
          rw [pI_pos _ hm hne]
          unfold wholeT
          generalize decV s.data.toList = V
          by_cases h1 : V < 9223372036854775808
          · left; rw [if_pos h1, if_pos h1]; exact ⟨_, rfl, rfl⟩
          · right; rw [if_neg h1, if_neg h1, if_neg (by simp)]; exact ⟨rfl, rfl⟩
      rw [← hw]
      rcases P with ⟨v, p1, p2⟩ | ⟨p1, p2⟩
      · rw [p2]; exact Read_int s v w hs (by omega) h hb q1 p1
      · rw [p2]; exact Read_intR s w hs (by omega) h hb q1 p1 he
    · have a1 : allB ((unsg s).extract 0 i) dec = true := by
        unfold bad ahd at hb; rw [q2] at hb; simp at hb; exact hb.1
      have a2 : allB ((unsg s).extract (i + 1) (unsg s).size) dec = true := by
        unfold bad ahd bhd pnt at hb; rw [q1, q2, q3] at hb; simp at hb; exact hb.2
      have z1 : (ahd s).size = i := by unfold ahd; rw [q2, ByteArray.size_extract]; omega
      have z2 : (bhd s).size = (unsg s).size - (i + 1) := by unfold bhd; rw [q3, ByteArray.size_extract]; omega
      by_cases hl : 15 < (ahd s).size + (bhd s).size
      · refine ⟨0, 0, 7, fun w _ => Read_ptR s w hs hz h hb q1 hl, fun w => RRead_range s (unsg s) _ w i hz hT hnb hsg q4 hp hi a1 a2 (by omega)⟩
      · have hd : (ahd s ++ bhd s).data.toList = ptL (unsg s) i := by
          rw [ByteArray.data_append, Array.toList_append]
          unfold ahd bhd
          rw [q2, q3, ex_lo, ex_hi]; rfl
        have hv : Lib.parseIntB 64 (ahd s ++ bhd s).data.toList = .ok (decV (ptL (unsg s) i) : Int) := by
          rw [hd]
          have hm : ∀ c ∈ ptL (unsg s) i, 48 ≤ c.toNat ∧ c.toNat ≤ 57 := fun c hc => by
            unfold ptL at hc
            rw [List.mem_append, ← ex_lo, ← ex_hi] at hc
            rcases hc with hc | hc
            · exact allB_mem a1 c hc
            · exact allB_mem a2 c hc
          have hn : ptL (unsg s) i ≠ [] := by
            unfold ptL
            have := allB_ne a1
            rw [ex_lo] at this
            simp [this]
          have hlt := decV_lt (ptL (unsg s) i) (fun c hc => (hm c hc).2) 15 (by have := ptL_len (unsg s) i hi; omega)
          rw [pI_pos _ hm hn, if_pos (by have : 10 ^ 15 = 1000000000000000 := by decide
                                         omega)]
        refine ⟨3, ptM (Lib.hasPrefix s.data.toList dash.data.toList) (decV (ptL (unsg s) i)) ((unsg s).size - (i + 1)), 0, fun w _ => ?_, fun w => RRead_pt s (unsg s) _ w i hz hT hnb hsg q4 hp hi a1 a2 (by omega)⟩
        rw [← z2]
        cases hd' : Lib.hasPrefix s.data.toList dash.data.toList
        · exact Read_pt s _ w hs h hb q1 (by omega) hv hd'
        · exact Read_ptM s _ w hs h hb q1 (by omega) hv hd'
  · refine ⟨0, 0, 6, fun w _ => Read_bad s w hs h hb, fun w => ?_⟩
    rcases pt_cases (unsg s) with ⟨hp, q1, q2⟩ | ⟨i, hp, hi, q1, q2, q3, q4⟩
    · refine RRead_bad1 s (unsg s) _ w hz hT hnb hsg ?_ hp
      unfold bad ahd pnt at hb
      rw [q1, q2] at hb
      simpa using hb
    · cases a1 : allB ((unsg s).extract 0 i) dec
      · exact RRead_bad2 s (unsg s) _ w i hz hT hnb hsg q4 hp hi a1
      · refine RRead_bad3 s (unsg s) _ w i hz hT hnb hsg q4 hp hi a1 ?_
        unfold bad ahd bhd pnt at hb
        rw [q1, q2, q3, a1] at hb
        simpa using hb
theorem same_all (s : ByteArray) (hz : s.size ≤ 140737488351232) : Same s := by
  cases h : Lib.hasPrefix s.data.toList zf.data.toList
  · exact same_rest s hz h
  · exact same_bits s hz h
end Go.Proofs.YtidokamfppdnaaaGreatDoor
