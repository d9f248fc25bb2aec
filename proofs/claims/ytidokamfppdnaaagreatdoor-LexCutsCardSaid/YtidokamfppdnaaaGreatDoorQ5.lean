/- The document's token: a number. -/
import Derived.Test.YtidokamfppdnaaaGreatDoorQ4
namespace Go.Proofs.YtidokamfppdnaaaGreatDoor
open Go.RowKit
set_option linter.unusedSimpArgs false
set_option linter.unusedVariables false

theorem numL_step {c : UInt8} (hc : isNm c = true) (l : List UInt8) : numL (c :: l) = 1 + numL l := by
  cases l with
  | nil => simp [numL, hc]
  | cons d r => rw [numL, if_pos hc]
theorem numL_pt {c d : UInt8} {r : List UInt8} (hc : isNm c = false) (h46 : c.toNat = 46) (hd : isDg d = true) : numL (c :: d :: r) = 1 + numL (d :: r) := by
  rw [numL, if_neg (by rw [hc]; decide), if_pos ⟨h46, hd⟩, numL_step (isDg_nm hd)]; omega
theorem numL_end {c : UInt8} {l : List UInt8} (hc : isNm c = false) (h : ¬ c.toNat = 46 ∨ l = [] ∨ ∃ d r, l = d :: r ∧ isDg d = false) : numL (c :: l) = 0 := by
  cases l with
  | nil => simp [numL, hc]
  | cons d r =>
    rw [numL, if_neg (by rw [hc]; decide), if_neg]
    rintro ⟨h1, h2⟩
    rcases h with h | h | ⟨d', r', h, h3⟩
    · exact h h1
    · cases h
    · injection h with e1 e2
      subst e1
      rw [h2] at h3; cases h3
theorem isNm_46 {c : UInt8} (h : c.toNat = 46) : isNm c = false := by
  unfold isNm isLt isDg
  rw [h]; decide
theorem f46_of {c : UInt8} (h : isNm c = true) : ¬ c.toNat = 46 := fun e => by rw [isNm_46 e] at h; cases h

set_option maxRecDepth 20000 in
set_option maxHeartbeats 16000000 in
theorem one_number (s : ByteArray) (k : Nat) (hk : k < s.size) (hs : s.size ≤ 8192) (h1 : isLt s[k] = false) (h2 : isDg s[k] = true) (t v x : Int)
    (hrd : ∀ w, Calls Tryz.prog 26 #[.string (s.extract k (k + numL ((bl s).drop k)))] w fun e w' => e = .returned (.tuple #[AV t v, .int .i64 x]) ∧ Below w.heap.size w w') (w : World) :
    Calls Tryz.prog 13 #[.string s, .int .i64 (k : Int)] w fun r w' => r = .returned (.tuple #[tv ⟨3, s.extract k (k + numL ((bl s).drop k)), t, v, ⟨#[]⟩, k, (k + numL ((bl s).drop k) : Nat)⟩, .int .i64 x]) ∧ Kept No w w' := by
  obtain ⟨E, HE⟩ : ∃ E, Hid (k + numL ((bl s).drop k) = E) := ⟨_, show _ = _ from rfl⟩
  rw [HE.out] at hrd ⊢
  have HRd : Hid (∀ w, Calls Tryz.prog 26 #[.string (s.extract k E)] w fun e w' => e = .returned (.tuple #[AV t v, .int .i64 x]) ∧ Below w.heap.size w w') := hrd
  have HL : Hid (∀ (c : UInt8) w, Calls Tryz.prog 23 #[.int .u8 (c.toNat : Int)] w fun e w' => e = .returned (.bool (isLt c)) ∧ w = w') := fun c w => RLetter_any c w
  have HD : Hid (∀ (c : UInt8) w, Calls Tryz.prog 24 #[.int .u8 (c.toNat : Int)] w fun e w' => e = .returned (.bool (isDg c)) ∧ w = w') := fun c w => RDigit_any c w
  have HL1 : Hid (∀ w, Calls Tryz.prog 23 #[.int .u8 (s[k].toNat : Int)] w fun e w' => e = .returned (.bool false) ∧ w = w') := fun w => by have := RLetter_any s[k] w; rw [h1] at this; exact this
  have HD1 : Hid (∀ w, Calls Tryz.prog 24 #[.int .u8 (s[k].toNat : Int)] w fun e w' => e = .returned (.bool true) ∧ w = w') := fun w => by have := RDigit_any s[k] w; rw [h2] at this; exact this
  have lk : (k : Int) < (s.size : Int) := by omega
  have HBx : Hid (Bx w ((w.alloc (tb t0)).alloc (tb ⟨0, ⟨#[]⟩, 0, 0, ⟨#[]⟩, k, 0⟩)) w.heap.size (w.heap.size + 1) ⟨0, ⟨#[]⟩, 0, 0, ⟨#[]⟩, k, 0⟩) := Bx.made w _
  obtain ⟨W0, HW0⟩ : ∃ W0, Hid ((w.alloc (tb t0)).alloc (tb ⟨0, ⟨#[]⟩, 0, 0, ⟨#[]⟩, k, 0⟩) = W0) := ⟨_, show _ = _ from rfl⟩
  rw [HW0.out] at HBx
  unfold tb t0 at HW0
  dsimp only at HW0
  clear h1 h2 hrd
  go_enter Tryz.func13, Tryz.ntmps13
  go_wp2_with (first | (go_at_call 23; refine Calls.mono (HL1.out _) ?_; rintro e w' ⟨rfl, rfl⟩) | (go_at_call 24; refine Calls.mono (HD1.out _) ?_; rintro e w' ⟨rfl, rfl⟩))
  rw [HW0.out]
  obtain ⟨R, HRR⟩ : ∃ R, Hid (w.heap.size = R) := ⟨_, show _ = _ from rfl⟩
  obtain ⟨T, HTT⟩ : ∃ T, Hid (R + 1 = T) := ⟨_, show _ = _ from rfl⟩
  rw [HRR.out, HTT.out] at HBx
  try rw [HRR.out]
  try rw [HTT.out]
  clear HW0 HL1 HD1
  go_loop [7] (fun i => ∃ m : Nat, k ≤ m ∧ m ≤ s.size ∧ i = .int .i64 m ∧ Hid (m + numL ((bl s).drop m) = E)) (fun i => s.size - (intOf i).toNat)
  case atStart => exact ⟨k, Nat.le_refl _, by omega, rfl, HE.out⟩
  case round =>
    clear HE
    obtain ⟨m, hm1, hm2, rfl, HM⟩ := hrel
    by_cases hml : m < s.size
    · have dm : decide ((m : Int) < (s.size : Int)) = true := decide_eq_true (by omega)
      have lm : (m : Int) < (s.size : Int) := by omega
      have hdm := bl_drop s hml
      have hE := HM.out
      rw [hdm] at hE
      have HLm := HL.out s[m]
      have HDm := HD.out s[m]
      cases hn : isNm s[m] with
      | true =>
        have HM2 : Hid (m + 1 + numL ((bl s).drop (m + 1)) = E) := by
          show _ = _
          rw [← hE, numL_step hn]; omega
        unfold isNm at hn
        cases ha : isLt s[m] with
        | true =>
          rw [ha] at HLm
          clear hE hdm HM hn ha HDm
          go_wp2_with (first | (go_at_call 23; refine Calls.mono (HLm _) ?_; rintro e w' ⟨rfl, rfl⟩))
          exact ⟨⟨m + 1, by omega, by omega, by go_num, HM2.out⟩, by simp [intOf]; omega⟩
        | false =>
          have hb : isDg s[m] = true := by rw [ha] at hn; simpa using hn
          rw [ha] at HLm
          rw [hb] at HDm
          clear hE hdm HM hn ha hb
          go_wp2_with (first | (go_at_call 23; refine Calls.mono (HLm _) ?_; rintro e w' ⟨rfl, rfl⟩) | (go_at_call 24; refine Calls.mono (HDm _) ?_; rintro e w' ⟨rfl, rfl⟩))
          exact ⟨⟨m + 1, by omega, by omega, by go_num, HM2.out⟩, by simp [intOf]; omega⟩
      | false =>
        have hn' := hn
        unfold isNm at hn'
        have ha : isLt s[m] = false := by cases h : isLt s[m] with | true => rw [h] at hn'; cases hn' | false => rfl
        have hb : isDg s[m] = false := by rw [ha] at hn'; simpa using hn'
        rw [ha] at HLm
        rw [hb] at HDm
        clear hn' ha hb
        by_cases h46 : s[m].toNat = 46
        · have f46 : ((s[m].toNat : Int) == 46) = true := eqI _ 46 h46
          by_cases hm1l : m + 1 < s.size
          · have dm1 : decide ((m : Int) + 1 < (s.size : Int)) = true := decide_eq_true (by omega)
            have lm1 : (m : Int) + 1 < (s.size : Int) := by omega
            have hdm1 := bl_drop s hm1l
            have em1 : ((m : Int) + 1).toNat = m + 1 := by omega
            have HDn := HD.out s[m + 1]
            cases hd : isDg s[m + 1] with
            | true =>
              rw [hd] at HDn
              have HM2 : Hid (m + 1 + numL ((bl s).drop (m + 1)) = E) := by
                show _ = _
                rw [← hE, hdm1, numL_pt hn h46 hd]; omega
              clear hE hdm HM hn hdm1 hd h46
              go_wp2_with (first | (go_at_call 23; refine Calls.mono (HLm _) ?_; rintro e w' ⟨rfl, rfl⟩) | (go_at_call 24; first | (refine Calls.mono (HDm _) ?_; rintro e w' ⟨rfl, rfl⟩) | (refine Calls.mono (HDn _) ?_; rintro e w' ⟨rfl, rfl⟩)))
              exact ⟨⟨m + 1, by omega, by omega, by go_num, HM2.out⟩, by simp [intOf]; omega⟩
            | false =>
              rw [hd] at HDn
              have hmE : m = E := by rw [numL_end hn (.inr (.inr ⟨_, _, hdm1, hd⟩))] at hE; omega
              clear hE hdm HM hn hdm1 hd h46
              subst hmE
              have ek : (k : Int) ≤ (m : Int) := by omega
              have em : (m : Int) ≤ (s.size : Int) := by omega
              go_wp2_with (first | (go_at_call 23; refine Calls.mono (HLm _) ?_; rintro e w' ⟨rfl, rfl⟩) | (go_at_call 24; first | (refine Calls.mono (HDm _) ?_; rintro e w' ⟨rfl, rfl⟩) | (refine Calls.mono (HDn _) ?_; rintro e w' ⟨rfl, rfl⟩)) | fail)
              refine Calls.mono (HRd.out _) ?_
              rintro e W5 ⟨rfl, hb5⟩
              have HB5 : Hid (Bx w (W5.alloc (.cells #[.int .i64 t, .int .i64 v] 36)).drew R T ⟨0, ⟨#[]⟩, 0, 0, ⟨#[]⟩, k, 0⟩ ∧ (W5.alloc (.cells #[.int .i64 t, .int .i64 v] 36)).drew.heap[W5.heap.size]? = some (.cells #[.int .i64 t, .int .i64 v] 36 (0, 0)) ∧ W5.heap.size ≠ T) := by
                have hk5 := Kept.of_below hb5
                have hx := HBx.out.no hk5
                refine ⟨hx.no ((Kept.refl No W5).alloc _).drew, World.alloc_heap_new W5 _, ?_⟩
                intro e
                have ht := hx.t
                rw [← e] at ht
                simp [Array.getElem?_eq_none] at ht
              clear hb5 HRd HBx
              unfold AV
              go_wp2_with fail
              refine wp_region_held_drew (S := fun w' => w'.heap[W5.heap.size]? = some (.cells #[.int .i64 t, .int .i64 v] 36 (0, 0))) (by kernel_rfl) HB5.out.2.1 (fun hSS => ?_)
              generalize W5.heap.size = V at HB5 hSS ⊢
              generalize (W5.alloc (.cells #[.int .i64 t, .int .i64 v] 36)).drew = W6 at HB5 hSS ⊢
              have nVT : V ≠ T := HB5.out.2.2
              have HB : Hid _ := HB5.out.1
              clear HB5
              refine wpAnyH_take (i := 0) (v := .string s) rfl (by kernel_rfl) (by kernel_rfl) (by kernel_rfl) (fun _ _ _ h => h) (Or.inl ⟨by rfl, by intro w' hw; go_simp⟩) hSS ?_
              try simp only [Act.put, List.setIfInBounds_toArray, List.set_cons_zero, List.set_cons_succ, List.getElem_toArray, List.getElem_cons_zero, List.getElem_cons_succ]
              refine wpAnyH_take (i := 1) (v := .int .i64 (k : Int)) rfl (by kernel_rfl) (by kernel_rfl) (by kernel_rfl) (fun _ _ _ h => h) (Or.inl ⟨by rfl, by intro w' hw; go_simp⟩) hSS ?_
              try simp only [Act.put, List.setIfInBounds_toArray, List.set_cons_zero, List.set_cons_succ, List.getElem_toArray, List.getElem_cons_zero, List.getElem_cons_succ]
              refine wpAnyH_take (i := 2) (v := .int .i64 (m : Int)) rfl (by kernel_rfl) (by kernel_rfl) (by kernel_rfl) (fun _ _ _ h => h) (Or.inl ⟨by rfl, by intro w' hw; go_simp⟩) hSS ?_
              try simp only [Act.put, List.setIfInBounds_toArray, List.set_cons_zero, List.set_cons_succ, List.getElem_toArray, List.getElem_cons_zero, List.getElem_cons_succ]
              refine wpAnyH_take (i := 3) (v := .string (s.extract k m)) rfl (by kernel_rfl) (by kernel_rfl) (by kernel_rfl) (fun _ _ _ h => h) (Or.inl ⟨by rfl, by intro w' hw; go_simp⟩) hSS ?_
              try simp only [Act.put, List.setIfInBounds_toArray, List.set_cons_zero, List.set_cons_succ, List.getElem_toArray, List.getElem_cons_zero, List.getElem_cons_succ]
              refine wpAnyH_take (i := 4) (v := .int .i64 (m : Int)) rfl (by kernel_rfl) (by kernel_rfl) (by kernel_rfl) (fun _ _ _ h => h) (Or.inl ⟨by rfl, by intro w' hw; go_simp⟩) hSS ?_
              try simp only [Act.put, List.setIfInBounds_toArray, List.set_cons_zero, List.set_cons_succ, List.getElem_toArray, List.getElem_cons_zero, List.getElem_cons_succ]
              refine wpAnyH_take (i := 5) (v := .agg #[.int .i64 t, .int .i64 v]) rfl (by kernel_rfl) (by kernel_rfl) (by kernel_rfl) (fun _ _ _ h => h) (Or.inl ⟨by rfl, by intro w' hw; have q0 := cell_of hw 0; have q1 := cell_of hw 1; simp only [List.getElem?_toArray, List.getElem?_cons_zero, List.getElem?_cons_succ] at q0 q1; go_simp⟩) hSS ?_
              try simp only [Act.put, List.setIfInBounds_toArray, List.set_cons_zero, List.set_cons_succ, List.getElem_toArray, List.getElem_cons_zero, List.getElem_cons_succ]
              refine wpAnyH_take (i := 6) (v := .pointer (some ⟨T, 0, none⟩)) rfl (by kernel_rfl) (by kernel_rfl) (by kernel_rfl) (fun _ _ _ h => h) (Or.inl ⟨by rfl, by intro w' hw; go_simp⟩) hSS ?_
              try simp only [Act.put, List.setIfInBounds_toArray, List.set_cons_zero, List.set_cons_succ, List.getElem_toArray, List.getElem_cons_zero, List.getElem_cons_succ]
              refine wpAnyH_ready (rs := [7]) (by kernel_rfl) (by simp) ?_
              refine AllReadyH.cons rfl (fun K hK => ?_) AllReadyH.nil
              obtain ⟨t3, t4, t5, t6, t7, t8, t9⟩ := tb_cells HB.out.t
              have tf := fun o => tb_frozen HB.out.t o
              dsimp only at t3 t4 t5 t6 t7 t8 t9
              have HB' : Hid _ := HB.out.kind 3
              clear HB
              have HB : Hid _ := HB'.out
              clear HB'
              go_simp
              try go_wp2_with fail
              refine hK.out _ _ (set_other hSS _ _ nVT) (fun hSS => ?_)
              clear hK K t3 t4 t5 t6 t7 t8 t9 tf
              try simp only [Act.put, List.setIfInBounds_toArray, List.set_cons_zero, List.set_cons_succ, List.getElem_toArray, List.getElem_cons_zero, List.getElem_cons_succ]
              refine wpAnyH_take (i := 8) (v := .pointer (some ⟨T, 1, none⟩)) rfl (by kernel_rfl) (by kernel_rfl) (by kernel_rfl) (fun _ _ _ h => h) (Or.inl ⟨by rfl, by intro w' hw; go_simp⟩) hSS ?_
              try simp only [Act.put, List.setIfInBounds_toArray, List.set_cons_zero, List.set_cons_succ, List.getElem_toArray, List.getElem_cons_zero, List.getElem_cons_succ]
              refine wpAnyH_ready (rs := [9]) (by kernel_rfl) (by simp) ?_
              refine AllReadyH.cons rfl (fun K hK => ?_) AllReadyH.nil
              obtain ⟨t3, t4, t5, t6, t7, t8, t9⟩ := tb_cells HB.out.t
              have tf := fun o => tb_frozen HB.out.t o
              dsimp only at t3 t4 t5 t6 t7 t8 t9
              have HB' : Hid _ := HB.out.text (s.extract k m)
              clear HB
              have HB : Hid _ := HB'.out
              clear HB'
              go_simp
              try go_wp2_with fail
              refine hK.out _ _ (set_other hSS _ _ nVT) (fun hSS => ?_)
              clear hK K t3 t4 t5 t6 t7 t8 t9 tf
              try simp only [Act.put, List.setIfInBounds_toArray, List.set_cons_zero, List.set_cons_succ, List.getElem_toArray, List.getElem_cons_zero, List.getElem_cons_succ]
              refine wpAnyH_take (i := 10) (v := .pointer (some ⟨T, 6, none⟩)) rfl (by kernel_rfl) (by kernel_rfl) (by kernel_rfl) (fun _ _ _ h => h) (Or.inl ⟨by rfl, by intro w' hw; go_simp⟩) hSS ?_
              try simp only [Act.put, List.setIfInBounds_toArray, List.set_cons_zero, List.set_cons_succ, List.getElem_toArray, List.getElem_cons_zero, List.getElem_cons_succ]
              refine wpAnyH_ready (rs := [11]) (by kernel_rfl) (by simp) ?_
              refine AllReadyH.cons rfl (fun K hK => ?_) AllReadyH.nil
              obtain ⟨t3, t4, t5, t6, t7, t8, t9⟩ := tb_cells HB.out.t
              have tf := fun o => tb_frozen HB.out.t o
              dsimp only at t3 t4 t5 t6 t7 t8 t9
              have HB' : Hid _ := HB.out.fin (m : Int)
              clear HB
              have HB : Hid _ := HB'.out
              clear HB'
              go_simp
              try go_wp2_with fail
              refine hK.out _ _ (set_other hSS _ _ nVT) (fun hSS => ?_)
              clear hK K t3 t4 t5 t6 t7 t8 t9 tf
              try simp only [Act.put, List.setIfInBounds_toArray, List.set_cons_zero, List.set_cons_succ, List.getElem_toArray, List.getElem_cons_zero, List.getElem_cons_succ]
              refine wpAnyH_take (i := 12) (v := .pointer (some ⟨T, 2, none⟩)) rfl (by kernel_rfl) (by kernel_rfl) (by kernel_rfl) (fun _ _ _ h => h) (Or.inl ⟨by rfl, by intro w' hw; go_simp⟩) hSS ?_
              try simp only [Act.put, List.setIfInBounds_toArray, List.set_cons_zero, List.set_cons_succ, List.getElem_toArray, List.getElem_cons_zero, List.getElem_cons_succ]
              refine wpAnyH_ready (rs := [13]) (by kernel_rfl) (by simp) ?_
              refine AllReadyH.cons rfl (fun K hK => ?_) AllReadyH.nil
              obtain ⟨t3, t4, t5, t6, t7, t8, t9⟩ := tb_cells HB.out.t
              have tf := fun o => tb_frozen HB.out.t o
              dsimp only at t3 t4 t5 t6 t7 t8 t9
              have HB' : Hid _ := (HB.out.vt t).vn v
              clear HB
              have HB : Hid _ := HB'.out
              clear HB'
              go_simp
              try go_wp2_with fail
              refine hK.out _ _ (set_other (set_other hSS _ _ nVT) _ _ nVT) (fun hSS => ?_)
              clear hK K t3 t4 t5 t6 t7 t8 t9 tf
              try simp only [Act.put, List.setIfInBounds_toArray, List.set_cons_zero, List.set_cons_succ, List.getElem_toArray, List.getElem_cons_zero, List.getElem_cons_succ]
              refine wpAnyH_done (by kernel_rfl) ?_ _
              generalize ((((W6.setCell ⟨T, 0, none⟩ (.int .i64 3)).setCell ⟨T, 1, none⟩ (.string (s.extract k m))).setCell ⟨T, 6, none⟩ (.int .i64 (m : Int))).setCell ⟨T, 2, none⟩ (.int .i64 t)).setCell ⟨T, 3, none⟩ (.int .i64 v) = W7 at HB ⊢
              obtain ⟨t3, t4, t5, t6, t7, t8, t9⟩ := tb_cells HB.out.t
              obtain ⟨r3, r4, r5, r6, r7, r8, r9⟩ := tb_cells HB.out.r
              have tf := fun o => tb_frozen HB.out.t o
              have rf := fun o => tb_frozen HB.out.r o
              dsimp only [t0] at t3 t4 t5 t6 t7 t8 t9 r3 r4 r5 r6 r7 r8 r9
              have nRT : R ≠ T := by have := HB.out.lt; omega
              have nTR : T ≠ R := by have := HB.out.lt; omega
              have HKf : Hid (Kept No w W7 ∧ w.heap.size ≤ R) := ⟨HB.out.kept, HB.out.le⟩
              clear HB
              go_wp2_with fail
              refine bodyPost_ret (v := .tuple #[tv ⟨3, s.extract k m, t, v, ⟨#[]⟩, k, (m : Nat)⟩, .int .i64 x]) (by simp [results, Tryz.results13, go_sem, tv, t3, t4, t5, t6, t7, t8, t9, r3, r4, r5, r6, r7, r8, r9, nRT, nTR]) rfl ⟨rfl, ?_⟩
              repeat refine Kept.set ?_ _ _ _ (Or.inr HKf.out.2)
              exact HKf.out.1
          · have dm1 : decide ((m : Int) + 1 < (s.size : Int)) = false := decide_eq_false (by omega)
            have hmE : m = E := by rw [numL_end hn (.inr (.inl (List.drop_eq_nil_of_le (by rw [bl_len]; omega))))] at hE; omega
            clear hE hdm HM hn h46
            subst hmE
            have ek : (k : Int) ≤ (m : Int) := by omega
            have em : (m : Int) ≤ (s.size : Int) := by omega
            go_wp2_with (first | (go_at_call 23; refine Calls.mono (HLm _) ?_; rintro e w' ⟨rfl, rfl⟩) | (go_at_call 24; refine Calls.mono (HDm _) ?_; rintro e w' ⟨rfl, rfl⟩) | fail)
            refine Calls.mono (HRd.out _) ?_
            rintro e W5 ⟨rfl, hb5⟩
            have HB5 : Hid (Bx w (W5.alloc (.cells #[.int .i64 t, .int .i64 v] 36)).drew R T ⟨0, ⟨#[]⟩, 0, 0, ⟨#[]⟩, k, 0⟩ ∧ (W5.alloc (.cells #[.int .i64 t, .int .i64 v] 36)).drew.heap[W5.heap.size]? = some (.cells #[.int .i64 t, .int .i64 v] 36 (0, 0)) ∧ W5.heap.size ≠ T) := by
              have hk5 := Kept.of_below hb5
              have hx := HBx.out.no hk5
              refine ⟨hx.no ((Kept.refl No W5).alloc _).drew, World.alloc_heap_new W5 _, ?_⟩
              intro e
              have ht := hx.t
              rw [← e] at ht
              simp [Array.getElem?_eq_none] at ht
            clear hb5 HRd HBx
            unfold AV
            go_wp2_with fail
            refine wp_region_held_drew (S := fun w' => w'.heap[W5.heap.size]? = some (.cells #[.int .i64 t, .int .i64 v] 36 (0, 0))) (by kernel_rfl) HB5.out.2.1 (fun hSS => ?_)
            generalize W5.heap.size = V at HB5 hSS ⊢
            generalize (W5.alloc (.cells #[.int .i64 t, .int .i64 v] 36)).drew = W6 at HB5 hSS ⊢
            have nVT : V ≠ T := HB5.out.2.2
            have HB : Hid _ := HB5.out.1
            clear HB5
            refine wpAnyH_take (i := 0) (v := .string s) rfl (by kernel_rfl) (by kernel_rfl) (by kernel_rfl) (fun _ _ _ h => h) (Or.inl ⟨by rfl, by intro w' hw; go_simp⟩) hSS ?_
            try simp only [Act.put, List.setIfInBounds_toArray, List.set_cons_zero, List.set_cons_succ, List.getElem_toArray, List.getElem_cons_zero, List.getElem_cons_succ]
            refine wpAnyH_take (i := 1) (v := .int .i64 (k : Int)) rfl (by kernel_rfl) (by kernel_rfl) (by kernel_rfl) (fun _ _ _ h => h) (Or.inl ⟨by rfl, by intro w' hw; go_simp⟩) hSS ?_
            try simp only [Act.put, List.setIfInBounds_toArray, List.set_cons_zero, List.set_cons_succ, List.getElem_toArray, List.getElem_cons_zero, List.getElem_cons_succ]
            refine wpAnyH_take (i := 2) (v := .int .i64 (m : Int)) rfl (by kernel_rfl) (by kernel_rfl) (by kernel_rfl) (fun _ _ _ h => h) (Or.inl ⟨by rfl, by intro w' hw; go_simp⟩) hSS ?_
            try simp only [Act.put, List.setIfInBounds_toArray, List.set_cons_zero, List.set_cons_succ, List.getElem_toArray, List.getElem_cons_zero, List.getElem_cons_succ]
            refine wpAnyH_take (i := 3) (v := .string (s.extract k m)) rfl (by kernel_rfl) (by kernel_rfl) (by kernel_rfl) (fun _ _ _ h => h) (Or.inl ⟨by rfl, by intro w' hw; go_simp⟩) hSS ?_
            try simp only [Act.put, List.setIfInBounds_toArray, List.set_cons_zero, List.set_cons_succ, List.getElem_toArray, List.getElem_cons_zero, List.getElem_cons_succ]
            refine wpAnyH_take (i := 4) (v := .int .i64 (m : Int)) rfl (by kernel_rfl) (by kernel_rfl) (by kernel_rfl) (fun _ _ _ h => h) (Or.inl ⟨by rfl, by intro w' hw; go_simp⟩) hSS ?_
            try simp only [Act.put, List.setIfInBounds_toArray, List.set_cons_zero, List.set_cons_succ, List.getElem_toArray, List.getElem_cons_zero, List.getElem_cons_succ]
            refine wpAnyH_take (i := 5) (v := .agg #[.int .i64 t, .int .i64 v]) rfl (by kernel_rfl) (by kernel_rfl) (by kernel_rfl) (fun _ _ _ h => h) (Or.inl ⟨by rfl, by intro w' hw; have q0 := cell_of hw 0; have q1 := cell_of hw 1; simp only [List.getElem?_toArray, List.getElem?_cons_zero, List.getElem?_cons_succ] at q0 q1; go_simp⟩) hSS ?_
            try simp only [Act.put, List.setIfInBounds_toArray, List.set_cons_zero, List.set_cons_succ, List.getElem_toArray, List.getElem_cons_zero, List.getElem_cons_succ]
            refine wpAnyH_take (i := 6) (v := .pointer (some ⟨T, 0, none⟩)) rfl (by kernel_rfl) (by kernel_rfl) (by kernel_rfl) (fun _ _ _ h => h) (Or.inl ⟨by rfl, by intro w' hw; go_simp⟩) hSS ?_
            try simp only [Act.put, List.setIfInBounds_toArray, List.set_cons_zero, List.set_cons_succ, List.getElem_toArray, List.getElem_cons_zero, List.getElem_cons_succ]
            refine wpAnyH_ready (rs := [7]) (by kernel_rfl) (by simp) ?_
            refine AllReadyH.cons rfl (fun K hK => ?_) AllReadyH.nil
            obtain ⟨t3, t4, t5, t6, t7, t8, t9⟩ := tb_cells HB.out.t
            have tf := fun o => tb_frozen HB.out.t o
            dsimp only at t3 t4 t5 t6 t7 t8 t9
            have HB' : Hid _ := HB.out.kind 3
            clear HB
            have HB : Hid _ := HB'.out
            clear HB'
            go_simp
            try go_wp2_with fail
            refine hK.out _ _ (set_other hSS _ _ nVT) (fun hSS => ?_)
            clear hK K t3 t4 t5 t6 t7 t8 t9 tf
            try simp only [Act.put, List.setIfInBounds_toArray, List.set_cons_zero, List.set_cons_succ, List.getElem_toArray, List.getElem_cons_zero, List.getElem_cons_succ]
            refine wpAnyH_take (i := 8) (v := .pointer (some ⟨T, 1, none⟩)) rfl (by kernel_rfl) (by kernel_rfl) (by kernel_rfl) (fun _ _ _ h => h) (Or.inl ⟨by rfl, by intro w' hw; go_simp⟩) hSS ?_
            try simp only [Act.put, List.setIfInBounds_toArray, List.set_cons_zero, List.set_cons_succ, List.getElem_toArray, List.getElem_cons_zero, List.getElem_cons_succ]
            refine wpAnyH_ready (rs := [9]) (by kernel_rfl) (by simp) ?_
            refine AllReadyH.cons rfl (fun K hK => ?_) AllReadyH.nil
            obtain ⟨t3, t4, t5, t6, t7, t8, t9⟩ := tb_cells HB.out.t
            have tf := fun o => tb_frozen HB.out.t o
            dsimp only at t3 t4 t5 t6 t7 t8 t9
            have HB' : Hid _ := HB.out.text (s.extract k m)
            clear HB
            have HB : Hid _ := HB'.out
            clear HB'
            go_simp
            try go_wp2_with fail
            refine hK.out _ _ (set_other hSS _ _ nVT) (fun hSS => ?_)
            clear hK K t3 t4 t5 t6 t7 t8 t9 tf
            try simp only [Act.put, List.setIfInBounds_toArray, List.set_cons_zero, List.set_cons_succ, List.getElem_toArray, List.getElem_cons_zero, List.getElem_cons_succ]
            refine wpAnyH_take (i := 10) (v := .pointer (some ⟨T, 6, none⟩)) rfl (by kernel_rfl) (by kernel_rfl) (by kernel_rfl) (fun _ _ _ h => h) (Or.inl ⟨by rfl, by intro w' hw; go_simp⟩) hSS ?_
            try simp only [Act.put, List.setIfInBounds_toArray, List.set_cons_zero, List.set_cons_succ, List.getElem_toArray, List.getElem_cons_zero, List.getElem_cons_succ]
            refine wpAnyH_ready (rs := [11]) (by kernel_rfl) (by simp) ?_
            refine AllReadyH.cons rfl (fun K hK => ?_) AllReadyH.nil
            obtain ⟨t3, t4, t5, t6, t7, t8, t9⟩ := tb_cells HB.out.t
            have tf := fun o => tb_frozen HB.out.t o
            dsimp only at t3 t4 t5 t6 t7 t8 t9
            have HB' : Hid _ := HB.out.fin (m : Int)
            clear HB
            have HB : Hid _ := HB'.out
            clear HB'
            go_simp
            try go_wp2_with fail
            refine hK.out _ _ (set_other hSS _ _ nVT) (fun hSS => ?_)
            clear hK K t3 t4 t5 t6 t7 t8 t9 tf
            try simp only [Act.put, List.setIfInBounds_toArray, List.set_cons_zero, List.set_cons_succ, List.getElem_toArray, List.getElem_cons_zero, List.getElem_cons_succ]
            refine wpAnyH_take (i := 12) (v := .pointer (some ⟨T, 2, none⟩)) rfl (by kernel_rfl) (by kernel_rfl) (by kernel_rfl) (fun _ _ _ h => h) (Or.inl ⟨by rfl, by intro w' hw; go_simp⟩) hSS ?_
            try simp only [Act.put, List.setIfInBounds_toArray, List.set_cons_zero, List.set_cons_succ, List.getElem_toArray, List.getElem_cons_zero, List.getElem_cons_succ]
            refine wpAnyH_ready (rs := [13]) (by kernel_rfl) (by simp) ?_
            refine AllReadyH.cons rfl (fun K hK => ?_) AllReadyH.nil
            obtain ⟨t3, t4, t5, t6, t7, t8, t9⟩ := tb_cells HB.out.t
            have tf := fun o => tb_frozen HB.out.t o
            dsimp only at t3 t4 t5 t6 t7 t8 t9
            have HB' : Hid _ := (HB.out.vt t).vn v
            clear HB
            have HB : Hid _ := HB'.out
            clear HB'
            go_simp
            try go_wp2_with fail
            refine hK.out _ _ (set_other (set_other hSS _ _ nVT) _ _ nVT) (fun hSS => ?_)
            clear hK K t3 t4 t5 t6 t7 t8 t9 tf
            try simp only [Act.put, List.setIfInBounds_toArray, List.set_cons_zero, List.set_cons_succ, List.getElem_toArray, List.getElem_cons_zero, List.getElem_cons_succ]
            refine wpAnyH_done (by kernel_rfl) ?_ _
            generalize ((((W6.setCell ⟨T, 0, none⟩ (.int .i64 3)).setCell ⟨T, 1, none⟩ (.string (s.extract k m))).setCell ⟨T, 6, none⟩ (.int .i64 (m : Int))).setCell ⟨T, 2, none⟩ (.int .i64 t)).setCell ⟨T, 3, none⟩ (.int .i64 v) = W7 at HB ⊢
            obtain ⟨t3, t4, t5, t6, t7, t8, t9⟩ := tb_cells HB.out.t
            obtain ⟨r3, r4, r5, r6, r7, r8, r9⟩ := tb_cells HB.out.r
            have tf := fun o => tb_frozen HB.out.t o
            have rf := fun o => tb_frozen HB.out.r o
            dsimp only [t0] at t3 t4 t5 t6 t7 t8 t9 r3 r4 r5 r6 r7 r8 r9
            have nRT : R ≠ T := by have := HB.out.lt; omega
            have nTR : T ≠ R := by have := HB.out.lt; omega
            have HKf : Hid (Kept No w W7 ∧ w.heap.size ≤ R) := ⟨HB.out.kept, HB.out.le⟩
            clear HB
            go_wp2_with fail
            refine bodyPost_ret (v := .tuple #[tv ⟨3, s.extract k m, t, v, ⟨#[]⟩, k, (m : Nat)⟩, .int .i64 x]) (by simp [results, Tryz.results13, go_sem, tv, t3, t4, t5, t6, t7, t8, t9, r3, r4, r5, r6, r7, r8, r9, nRT, nTR]) rfl ⟨rfl, ?_⟩
            repeat refine Kept.set ?_ _ _ _ (Or.inr HKf.out.2)
            exact HKf.out.1
        · have f46 : ((s[m].toNat : Int) == 46) = false := neI _ 46 h46
          have hmE : m = E := by rw [numL_end hn (.inl h46)] at hE; omega
          clear hE hdm HM hn h46
          subst hmE
          have ek : (k : Int) ≤ (m : Int) := by omega
          have em : (m : Int) ≤ (s.size : Int) := by omega
          go_wp2_with (first | (go_at_call 23; refine Calls.mono (HLm _) ?_; rintro e w' ⟨rfl, rfl⟩) | (go_at_call 24; refine Calls.mono (HDm _) ?_; rintro e w' ⟨rfl, rfl⟩) | fail)
          refine Calls.mono (HRd.out _) ?_
          rintro e W5 ⟨rfl, hb5⟩
          have HB5 : Hid (Bx w (W5.alloc (.cells #[.int .i64 t, .int .i64 v] 36)).drew R T ⟨0, ⟨#[]⟩, 0, 0, ⟨#[]⟩, k, 0⟩ ∧ (W5.alloc (.cells #[.int .i64 t, .int .i64 v] 36)).drew.heap[W5.heap.size]? = some (.cells #[.int .i64 t, .int .i64 v] 36 (0, 0)) ∧ W5.heap.size ≠ T) := by
            have hk5 := Kept.of_below hb5
            have hx := HBx.out.no hk5
            refine ⟨hx.no ((Kept.refl No W5).alloc _).drew, World.alloc_heap_new W5 _, ?_⟩
            intro e
            have ht := hx.t
            rw [← e] at ht
            simp [Array.getElem?_eq_none] at ht
          clear hb5 HRd HBx
          unfold AV
          go_wp2_with fail
          refine wp_region_held_drew (S := fun w' => w'.heap[W5.heap.size]? = some (.cells #[.int .i64 t, .int .i64 v] 36 (0, 0))) (by kernel_rfl) HB5.out.2.1 (fun hSS => ?_)
          generalize W5.heap.size = V at HB5 hSS ⊢
          generalize (W5.alloc (.cells #[.int .i64 t, .int .i64 v] 36)).drew = W6 at HB5 hSS ⊢
          have nVT : V ≠ T := HB5.out.2.2
          have HB : Hid _ := HB5.out.1
          clear HB5
          refine wpAnyH_take (i := 0) (v := .string s) rfl (by kernel_rfl) (by kernel_rfl) (by kernel_rfl) (fun _ _ _ h => h) (Or.inl ⟨by rfl, by intro w' hw; go_simp⟩) hSS ?_
          try simp only [Act.put, List.setIfInBounds_toArray, List.set_cons_zero, List.set_cons_succ, List.getElem_toArray, List.getElem_cons_zero, List.getElem_cons_succ]
          refine wpAnyH_take (i := 1) (v := .int .i64 (k : Int)) rfl (by kernel_rfl) (by kernel_rfl) (by kernel_rfl) (fun _ _ _ h => h) (Or.inl ⟨by rfl, by intro w' hw; go_simp⟩) hSS ?_
          try simp only [Act.put, List.setIfInBounds_toArray, List.set_cons_zero, List.set_cons_succ, List.getElem_toArray, List.getElem_cons_zero, List.getElem_cons_succ]
          refine wpAnyH_take (i := 2) (v := .int .i64 (m : Int)) rfl (by kernel_rfl) (by kernel_rfl) (by kernel_rfl) (fun _ _ _ h => h) (Or.inl ⟨by rfl, by intro w' hw; go_simp⟩) hSS ?_
          try simp only [Act.put, List.setIfInBounds_toArray, List.set_cons_zero, List.set_cons_succ, List.getElem_toArray, List.getElem_cons_zero, List.getElem_cons_succ]
          refine wpAnyH_take (i := 3) (v := .string (s.extract k m)) rfl (by kernel_rfl) (by kernel_rfl) (by kernel_rfl) (fun _ _ _ h => h) (Or.inl ⟨by rfl, by intro w' hw; go_simp⟩) hSS ?_
          try simp only [Act.put, List.setIfInBounds_toArray, List.set_cons_zero, List.set_cons_succ, List.getElem_toArray, List.getElem_cons_zero, List.getElem_cons_succ]
          refine wpAnyH_take (i := 4) (v := .int .i64 (m : Int)) rfl (by kernel_rfl) (by kernel_rfl) (by kernel_rfl) (fun _ _ _ h => h) (Or.inl ⟨by rfl, by intro w' hw; go_simp⟩) hSS ?_
          try simp only [Act.put, List.setIfInBounds_toArray, List.set_cons_zero, List.set_cons_succ, List.getElem_toArray, List.getElem_cons_zero, List.getElem_cons_succ]
          refine wpAnyH_take (i := 5) (v := .agg #[.int .i64 t, .int .i64 v]) rfl (by kernel_rfl) (by kernel_rfl) (by kernel_rfl) (fun _ _ _ h => h) (Or.inl ⟨by rfl, by intro w' hw; have q0 := cell_of hw 0; have q1 := cell_of hw 1; simp only [List.getElem?_toArray, List.getElem?_cons_zero, List.getElem?_cons_succ] at q0 q1; go_simp⟩) hSS ?_
          try simp only [Act.put, List.setIfInBounds_toArray, List.set_cons_zero, List.set_cons_succ, List.getElem_toArray, List.getElem_cons_zero, List.getElem_cons_succ]
          refine wpAnyH_take (i := 6) (v := .pointer (some ⟨T, 0, none⟩)) rfl (by kernel_rfl) (by kernel_rfl) (by kernel_rfl) (fun _ _ _ h => h) (Or.inl ⟨by rfl, by intro w' hw; go_simp⟩) hSS ?_
          try simp only [Act.put, List.setIfInBounds_toArray, List.set_cons_zero, List.set_cons_succ, List.getElem_toArray, List.getElem_cons_zero, List.getElem_cons_succ]
          refine wpAnyH_ready (rs := [7]) (by kernel_rfl) (by simp) ?_
          refine AllReadyH.cons rfl (fun K hK => ?_) AllReadyH.nil
          obtain ⟨t3, t4, t5, t6, t7, t8, t9⟩ := tb_cells HB.out.t
          have tf := fun o => tb_frozen HB.out.t o
          dsimp only at t3 t4 t5 t6 t7 t8 t9
          have HB' : Hid _ := HB.out.kind 3
          clear HB
          have HB : Hid _ := HB'.out
          clear HB'
          go_simp
          try go_wp2_with fail
          refine hK.out _ _ (set_other hSS _ _ nVT) (fun hSS => ?_)
          clear hK K t3 t4 t5 t6 t7 t8 t9 tf
          try simp only [Act.put, List.setIfInBounds_toArray, List.set_cons_zero, List.set_cons_succ, List.getElem_toArray, List.getElem_cons_zero, List.getElem_cons_succ]
          refine wpAnyH_take (i := 8) (v := .pointer (some ⟨T, 1, none⟩)) rfl (by kernel_rfl) (by kernel_rfl) (by kernel_rfl) (fun _ _ _ h => h) (Or.inl ⟨by rfl, by intro w' hw; go_simp⟩) hSS ?_
          try simp only [Act.put, List.setIfInBounds_toArray, List.set_cons_zero, List.set_cons_succ, List.getElem_toArray, List.getElem_cons_zero, List.getElem_cons_succ]
          refine wpAnyH_ready (rs := [9]) (by kernel_rfl) (by simp) ?_
          refine AllReadyH.cons rfl (fun K hK => ?_) AllReadyH.nil
          obtain ⟨t3, t4, t5, t6, t7, t8, t9⟩ := tb_cells HB.out.t
          have tf := fun o => tb_frozen HB.out.t o
          dsimp only at t3 t4 t5 t6 t7 t8 t9
          have HB' : Hid _ := HB.out.text (s.extract k m)
          clear HB
          have HB : Hid _ := HB'.out
          clear HB'
          go_simp
          try go_wp2_with fail
          refine hK.out _ _ (set_other hSS _ _ nVT) (fun hSS => ?_)
          clear hK K t3 t4 t5 t6 t7 t8 t9 tf
          try simp only [Act.put, List.setIfInBounds_toArray, List.set_cons_zero, List.set_cons_succ, List.getElem_toArray, List.getElem_cons_zero, List.getElem_cons_succ]
          refine wpAnyH_take (i := 10) (v := .pointer (some ⟨T, 6, none⟩)) rfl (by kernel_rfl) (by kernel_rfl) (by kernel_rfl) (fun _ _ _ h => h) (Or.inl ⟨by rfl, by intro w' hw; go_simp⟩) hSS ?_
          try simp only [Act.put, List.setIfInBounds_toArray, List.set_cons_zero, List.set_cons_succ, List.getElem_toArray, List.getElem_cons_zero, List.getElem_cons_succ]
          refine wpAnyH_ready (rs := [11]) (by kernel_rfl) (by simp) ?_
          refine AllReadyH.cons rfl (fun K hK => ?_) AllReadyH.nil
          obtain ⟨t3, t4, t5, t6, t7, t8, t9⟩ := tb_cells HB.out.t
          have tf := fun o => tb_frozen HB.out.t o
          dsimp only at t3 t4 t5 t6 t7 t8 t9
          have HB' : Hid _ := HB.out.fin (m : Int)
          clear HB
          have HB : Hid _ := HB'.out
          clear HB'
          go_simp
          try go_wp2_with fail
          refine hK.out _ _ (set_other hSS _ _ nVT) (fun hSS => ?_)
          clear hK K t3 t4 t5 t6 t7 t8 t9 tf
          try simp only [Act.put, List.setIfInBounds_toArray, List.set_cons_zero, List.set_cons_succ, List.getElem_toArray, List.getElem_cons_zero, List.getElem_cons_succ]
          refine wpAnyH_take (i := 12) (v := .pointer (some ⟨T, 2, none⟩)) rfl (by kernel_rfl) (by kernel_rfl) (by kernel_rfl) (fun _ _ _ h => h) (Or.inl ⟨by rfl, by intro w' hw; go_simp⟩) hSS ?_
          try simp only [Act.put, List.setIfInBounds_toArray, List.set_cons_zero, List.set_cons_succ, List.getElem_toArray, List.getElem_cons_zero, List.getElem_cons_succ]
          refine wpAnyH_ready (rs := [13]) (by kernel_rfl) (by simp) ?_
          refine AllReadyH.cons rfl (fun K hK => ?_) AllReadyH.nil
          obtain ⟨t3, t4, t5, t6, t7, t8, t9⟩ := tb_cells HB.out.t
          have tf := fun o => tb_frozen HB.out.t o
          dsimp only at t3 t4 t5 t6 t7 t8 t9
          have HB' : Hid _ := (HB.out.vt t).vn v
          clear HB
          have HB : Hid _ := HB'.out
          clear HB'
          go_simp
          try go_wp2_with fail
          refine hK.out _ _ (set_other (set_other hSS _ _ nVT) _ _ nVT) (fun hSS => ?_)
          clear hK K t3 t4 t5 t6 t7 t8 t9 tf
          try simp only [Act.put, List.setIfInBounds_toArray, List.set_cons_zero, List.set_cons_succ, List.getElem_toArray, List.getElem_cons_zero, List.getElem_cons_succ]
          refine wpAnyH_done (by kernel_rfl) ?_ _
          generalize ((((W6.setCell ⟨T, 0, none⟩ (.int .i64 3)).setCell ⟨T, 1, none⟩ (.string (s.extract k m))).setCell ⟨T, 6, none⟩ (.int .i64 (m : Int))).setCell ⟨T, 2, none⟩ (.int .i64 t)).setCell ⟨T, 3, none⟩ (.int .i64 v) = W7 at HB ⊢
          obtain ⟨t3, t4, t5, t6, t7, t8, t9⟩ := tb_cells HB.out.t
          obtain ⟨r3, r4, r5, r6, r7, r8, r9⟩ := tb_cells HB.out.r
          have tf := fun o => tb_frozen HB.out.t o
          have rf := fun o => tb_frozen HB.out.r o
          dsimp only [t0] at t3 t4 t5 t6 t7 t8 t9 r3 r4 r5 r6 r7 r8 r9
          have nRT : R ≠ T := by have := HB.out.lt; omega
          have nTR : T ≠ R := by have := HB.out.lt; omega
          have HKf : Hid (Kept No w W7 ∧ w.heap.size ≤ R) := ⟨HB.out.kept, HB.out.le⟩
          clear HB
          go_wp2_with fail
          refine bodyPost_ret (v := .tuple #[tv ⟨3, s.extract k m, t, v, ⟨#[]⟩, k, (m : Nat)⟩, .int .i64 x]) (by simp [results, Tryz.results13, go_sem, tv, t3, t4, t5, t6, t7, t8, t9, r3, r4, r5, r6, r7, r8, r9, nRT, nTR]) rfl ⟨rfl, ?_⟩
          repeat refine Kept.set ?_ _ _ _ (Or.inr HKf.out.2)
          exact HKf.out.1
    · have dm : decide ((m : Int) < (s.size : Int)) = false := decide_eq_false (by omega)
      have hmE : m = E := by
        have := HM.out
        rw [List.drop_eq_nil_of_le (by rw [bl_len]; omega)] at this
        simp only [numL] at this
        omega
      clear HM
      subst hmE
      have ek : (k : Int) ≤ (m : Int) := by omega
      have em : (m : Int) ≤ (s.size : Int) := by omega
      go_wp2_with fail
      refine Calls.mono (HRd.out _) ?_
      rintro e W5 ⟨rfl, hb5⟩
      have HB5 : Hid (Bx w (W5.alloc (.cells #[.int .i64 t, .int .i64 v] 36)).drew R T ⟨0, ⟨#[]⟩, 0, 0, ⟨#[]⟩, k, 0⟩ ∧ (W5.alloc (.cells #[.int .i64 t, .int .i64 v] 36)).drew.heap[W5.heap.size]? = some (.cells #[.int .i64 t, .int .i64 v] 36 (0, 0)) ∧ W5.heap.size ≠ T) := by
        have hk5 := Kept.of_below hb5
        have hx := HBx.out.no hk5
        refine ⟨hx.no ((Kept.refl No W5).alloc _).drew, World.alloc_heap_new W5 _, ?_⟩
        intro e
        have ht := hx.t
        rw [← e] at ht
        simp [Array.getElem?_eq_none] at ht
      clear hb5 HRd HBx
      unfold AV
      go_wp2_with fail
      refine wp_region_held_drew (S := fun w' => w'.heap[W5.heap.size]? = some (.cells #[.int .i64 t, .int .i64 v] 36 (0, 0))) (by kernel_rfl) HB5.out.2.1 (fun hSS => ?_)
      generalize W5.heap.size = V at HB5 hSS ⊢
      generalize (W5.alloc (.cells #[.int .i64 t, .int .i64 v] 36)).drew = W6 at HB5 hSS ⊢
      have nVT : V ≠ T := HB5.out.2.2
      have HB : Hid _ := HB5.out.1
      clear HB5
      refine wpAnyH_take (i := 0) (v := .string s) rfl (by kernel_rfl) (by kernel_rfl) (by kernel_rfl) (fun _ _ _ h => h) (Or.inl ⟨by rfl, by intro w' hw; go_simp⟩) hSS ?_
      try simp only [Act.put, List.setIfInBounds_toArray, List.set_cons_zero, List.set_cons_succ, List.getElem_toArray, List.getElem_cons_zero, List.getElem_cons_succ]
      refine wpAnyH_take (i := 1) (v := .int .i64 (k : Int)) rfl (by kernel_rfl) (by kernel_rfl) (by kernel_rfl) (fun _ _ _ h => h) (Or.inl ⟨by rfl, by intro w' hw; go_simp⟩) hSS ?_
      try simp only [Act.put, List.setIfInBounds_toArray, List.set_cons_zero, List.set_cons_succ, List.getElem_toArray, List.getElem_cons_zero, List.getElem_cons_succ]
      refine wpAnyH_take (i := 2) (v := .int .i64 (m : Int)) rfl (by kernel_rfl) (by kernel_rfl) (by kernel_rfl) (fun _ _ _ h => h) (Or.inl ⟨by rfl, by intro w' hw; go_simp⟩) hSS ?_
      try simp only [Act.put, List.setIfInBounds_toArray, List.set_cons_zero, List.set_cons_succ, List.getElem_toArray, List.getElem_cons_zero, List.getElem_cons_succ]
      refine wpAnyH_take (i := 3) (v := .string (s.extract k m)) rfl (by kernel_rfl) (by kernel_rfl) (by kernel_rfl) (fun _ _ _ h => h) (Or.inl ⟨by rfl, by intro w' hw; go_simp⟩) hSS ?_
      try simp only [Act.put, List.setIfInBounds_toArray, List.set_cons_zero, List.set_cons_succ, List.getElem_toArray, List.getElem_cons_zero, List.getElem_cons_succ]
      refine wpAnyH_take (i := 4) (v := .int .i64 (m : Int)) rfl (by kernel_rfl) (by kernel_rfl) (by kernel_rfl) (fun _ _ _ h => h) (Or.inl ⟨by rfl, by intro w' hw; go_simp⟩) hSS ?_
      try simp only [Act.put, List.setIfInBounds_toArray, List.set_cons_zero, List.set_cons_succ, List.getElem_toArray, List.getElem_cons_zero, List.getElem_cons_succ]
      refine wpAnyH_take (i := 5) (v := .agg #[.int .i64 t, .int .i64 v]) rfl (by kernel_rfl) (by kernel_rfl) (by kernel_rfl) (fun _ _ _ h => h) (Or.inl ⟨by rfl, by intro w' hw; have q0 := cell_of hw 0; have q1 := cell_of hw 1; simp only [List.getElem?_toArray, List.getElem?_cons_zero, List.getElem?_cons_succ] at q0 q1; go_simp⟩) hSS ?_
      try simp only [Act.put, List.setIfInBounds_toArray, List.set_cons_zero, List.set_cons_succ, List.getElem_toArray, List.getElem_cons_zero, List.getElem_cons_succ]
      refine wpAnyH_take (i := 6) (v := .pointer (some ⟨T, 0, none⟩)) rfl (by kernel_rfl) (by kernel_rfl) (by kernel_rfl) (fun _ _ _ h => h) (Or.inl ⟨by rfl, by intro w' hw; go_simp⟩) hSS ?_
      try simp only [Act.put, List.setIfInBounds_toArray, List.set_cons_zero, List.set_cons_succ, List.getElem_toArray, List.getElem_cons_zero, List.getElem_cons_succ]
      refine wpAnyH_ready (rs := [7]) (by kernel_rfl) (by simp) ?_
      refine AllReadyH.cons rfl (fun K hK => ?_) AllReadyH.nil
      obtain ⟨t3, t4, t5, t6, t7, t8, t9⟩ := tb_cells HB.out.t
      have tf := fun o => tb_frozen HB.out.t o
      dsimp only at t3 t4 t5 t6 t7 t8 t9
      have HB' : Hid _ := HB.out.kind 3
      clear HB
      have HB : Hid _ := HB'.out
      clear HB'
      go_simp
      try go_wp2_with fail
      refine hK.out _ _ (set_other hSS _ _ nVT) (fun hSS => ?_)
      clear hK K t3 t4 t5 t6 t7 t8 t9 tf
      try simp only [Act.put, List.setIfInBounds_toArray, List.set_cons_zero, List.set_cons_succ, List.getElem_toArray, List.getElem_cons_zero, List.getElem_cons_succ]
      refine wpAnyH_take (i := 8) (v := .pointer (some ⟨T, 1, none⟩)) rfl (by kernel_rfl) (by kernel_rfl) (by kernel_rfl) (fun _ _ _ h => h) (Or.inl ⟨by rfl, by intro w' hw; go_simp⟩) hSS ?_
      try simp only [Act.put, List.setIfInBounds_toArray, List.set_cons_zero, List.set_cons_succ, List.getElem_toArray, List.getElem_cons_zero, List.getElem_cons_succ]
      refine wpAnyH_ready (rs := [9]) (by kernel_rfl) (by simp) ?_
      refine AllReadyH.cons rfl (fun K hK => ?_) AllReadyH.nil
      obtain ⟨t3, t4, t5, t6, t7, t8, t9⟩ := tb_cells HB.out.t
      have tf := fun o => tb_frozen HB.out.t o
      dsimp only at t3 t4 t5 t6 t7 t8 t9
      have HB' : Hid _ := HB.out.text (s.extract k m)
      clear HB
      have HB : Hid _ := HB'.out
      clear HB'
      go_simp
      try go_wp2_with fail
      refine hK.out _ _ (set_other hSS _ _ nVT) (fun hSS => ?_)
      clear hK K t3 t4 t5 t6 t7 t8 t9 tf
      try simp only [Act.put, List.setIfInBounds_toArray, List.set_cons_zero, List.set_cons_succ, List.getElem_toArray, List.getElem_cons_zero, List.getElem_cons_succ]
      refine wpAnyH_take (i := 10) (v := .pointer (some ⟨T, 6, none⟩)) rfl (by kernel_rfl) (by kernel_rfl) (by kernel_rfl) (fun _ _ _ h => h) (Or.inl ⟨by rfl, by intro w' hw; go_simp⟩) hSS ?_
      try simp only [Act.put, List.setIfInBounds_toArray, List.set_cons_zero, List.set_cons_succ, List.getElem_toArray, List.getElem_cons_zero, List.getElem_cons_succ]
      refine wpAnyH_ready (rs := [11]) (by kernel_rfl) (by simp) ?_
      refine AllReadyH.cons rfl (fun K hK => ?_) AllReadyH.nil
      obtain ⟨t3, t4, t5, t6, t7, t8, t9⟩ := tb_cells HB.out.t
      have tf := fun o => tb_frozen HB.out.t o
      dsimp only at t3 t4 t5 t6 t7 t8 t9
      have HB' : Hid _ := HB.out.fin (m : Int)
      clear HB
      have HB : Hid _ := HB'.out
      clear HB'
      go_simp
      try go_wp2_with fail
      refine hK.out _ _ (set_other hSS _ _ nVT) (fun hSS => ?_)
      clear hK K t3 t4 t5 t6 t7 t8 t9 tf
      try simp only [Act.put, List.setIfInBounds_toArray, List.set_cons_zero, List.set_cons_succ, List.getElem_toArray, List.getElem_cons_zero, List.getElem_cons_succ]
      refine wpAnyH_take (i := 12) (v := .pointer (some ⟨T, 2, none⟩)) rfl (by kernel_rfl) (by kernel_rfl) (by kernel_rfl) (fun _ _ _ h => h) (Or.inl ⟨by rfl, by intro w' hw; go_simp⟩) hSS ?_
      try simp only [Act.put, List.setIfInBounds_toArray, List.set_cons_zero, List.set_cons_succ, List.getElem_toArray, List.getElem_cons_zero, List.getElem_cons_succ]
      refine wpAnyH_ready (rs := [13]) (by kernel_rfl) (by simp) ?_
      refine AllReadyH.cons rfl (fun K hK => ?_) AllReadyH.nil
      obtain ⟨t3, t4, t5, t6, t7, t8, t9⟩ := tb_cells HB.out.t
      have tf := fun o => tb_frozen HB.out.t o
      dsimp only at t3 t4 t5 t6 t7 t8 t9
      have HB' : Hid _ := (HB.out.vt t).vn v
      clear HB
      have HB : Hid _ := HB'.out
      clear HB'
      go_simp
      try go_wp2_with fail
      refine hK.out _ _ (set_other (set_other hSS _ _ nVT) _ _ nVT) (fun hSS => ?_)
      clear hK K t3 t4 t5 t6 t7 t8 t9 tf
      try simp only [Act.put, List.setIfInBounds_toArray, List.set_cons_zero, List.set_cons_succ, List.getElem_toArray, List.getElem_cons_zero, List.getElem_cons_succ]
      refine wpAnyH_done (by kernel_rfl) ?_ _
      generalize ((((W6.setCell ⟨T, 0, none⟩ (.int .i64 3)).setCell ⟨T, 1, none⟩ (.string (s.extract k m))).setCell ⟨T, 6, none⟩ (.int .i64 (m : Int))).setCell ⟨T, 2, none⟩ (.int .i64 t)).setCell ⟨T, 3, none⟩ (.int .i64 v) = W7 at HB ⊢
      obtain ⟨t3, t4, t5, t6, t7, t8, t9⟩ := tb_cells HB.out.t
      obtain ⟨r3, r4, r5, r6, r7, r8, r9⟩ := tb_cells HB.out.r
      have tf := fun o => tb_frozen HB.out.t o
      have rf := fun o => tb_frozen HB.out.r o
      dsimp only [t0] at t3 t4 t5 t6 t7 t8 t9 r3 r4 r5 r6 r7 r8 r9
      have nRT : R ≠ T := by have := HB.out.lt; omega
      have nTR : T ≠ R := by have := HB.out.lt; omega
      have HKf : Hid (Kept No w W7 ∧ w.heap.size ≤ R) := ⟨HB.out.kept, HB.out.le⟩
      clear HB
      go_wp2_with fail
      refine bodyPost_ret (v := .tuple #[tv ⟨3, s.extract k m, t, v, ⟨#[]⟩, k, (m : Nat)⟩, .int .i64 x]) (by simp [results, Tryz.results13, go_sem, tv, t3, t4, t5, t6, t7, t8, t9, r3, r4, r5, r6, r7, r8, r9, nRT, nTR]) rfl ⟨rfl, ?_⟩
      repeat refine Kept.set ?_ _ _ _ (Or.inr HKf.out.2)
      exact HKf.out.1
end Go.Proofs.YtidokamfppdnaaaGreatDoor
