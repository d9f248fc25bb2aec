/- Joined: D11. -/
import Derived.Test.YthefmfjlinpepaaDb
import Derived.Test.YthefmfjlinpepaaNn
/- The document's Next. -/
namespace Go.Proofs.Ythefmfjlinpepaa
open Go.RowKit Go.Shelf
set_option linter.unusedSimpArgs false
set_option linter.unusedVariables false
attribute [local go_sem] Oper.semAt_some

/-- The entries from the j-th place on. -/
def Tl (a n : Nat) (sl : Sl) (j : Nat) : List Ent := if j = 0 then ents a n sl 0 else ents a n sl (plA a 0 (j - 1) + 1)
theorem Tl_split (a n : Nat) (sl : Sl) (j : Nat) (hj : j ≤ a + n) : ents a n sl 0 = entsTo a sl 0 j ++ Tl a n sl j := by
  unfold Tl
  rcases j with _ | j
  · rw [if_pos rfl]; rfl
  · rw [if_neg (by omega)]
    exact ents_split a n sl j (by omega)
theorem Tl_end (a n : Nat) (sl : Sl) : Tl a n sl (a + n) = [] := by
  have h := Tl_split a n sl (a + n) (Nat.le_refl _)
  have e : ents a n sl 0 = entsTo a sl 0 (a + n) := by unfold ents; rw [plN0]
  rw [e] at h
  exact (List.append_right_eq_self.1 h.symm)
theorem Tl_arr (a n : Nat) (sl : Sl) (j : Nat) (hj : j < a) : fstE (Tl a n sl j) = if (sl (j : Int)).1 = 0 then fstE (Tl a n sl (j + 1)) else ((2, (j : Int) + 1), sl (j : Int)) := by
  have h1 := Tl_split a n sl j (by omega)
  have h2 := Tl_split a n sl (j + 1) (by omega)
  have h3 := entsTo_arr a sl j hj
  rw [h1, h3] at h2
  by_cases h : (sl (j : Int)).1 = 0
  · rw [if_pos h] at h2 ⊢
    rw [List.append_cancel_left h2]
  · rw [if_neg h] at h2 ⊢
    rw [List.append_assoc] at h2
    rw [List.append_cancel_left h2]; rfl
theorem Tl_nod (a n : Nat) (sl : Sl) (hv : Nv a n sl) (m : Nat) (hm : m < n) : fstE (Tl a n sl (a + m)) = if (sl ((a : Int) + 2 * (m : Int) + 1)).1 = 0 then fstE (Tl a n sl (a + m + 1)) else (sl ((a : Int) + 2 * (m : Int)), sl ((a : Int) + 2 * (m : Int) + 1)) := by
  have h1 := Tl_split a n sl (a + m) (by omega)
  have h2 := Tl_split a n sl (a + m + 1) (by omega)
  have h3 := entsTo_nod a n sl hv m hm
  rw [h1, h3] at h2
  by_cases h : (sl ((a : Int) + 2 * (m : Int) + 1)).1 = 0
  · rw [if_pos h] at h2 ⊢
    rw [List.append_cancel_left h2]
  · rw [if_neg h] at h2 ⊢
    rw [List.append_assoc] at h2
    rw [List.append_cancel_left h2]; rfl

theorem next_zero (a n : Nat) (sl : Sl) (x : Int) : nextR a n sl 0 x = (fstE (Tl a n sl 0), 0) := by
  unfold nextR behR Tl; rfl
theorem next_bad (a n : Nat) (sl : Sl) (t x : Int) (h0 : t ≠ 0) (hk : keyB t x = false) : nextR a n sl t x = (((0, 0), (0, 0)), 13) := by
  have h0' : (t == 0) = false := by simpa using h0
  unfold nextR behR; rw [h0', hk]; rfl
theorem next_key (a n : Nat) (sl : Sl) (t x : Int) (h0 : t ≠ 0) (hk : keyB t x = true) : (plcR a n sl (kyP (t, x)) = -1 ∧ nextR a n sl t x = (((0, 0), (0, 0)), 13)) ∨ ∃ i : Nat, i < a + n ∧ plcR a n sl (kyP (t, x)) = (i : Int) ∧ nextR a n sl t x = (fstE (Tl a n sl (i + 1)), 0) := by
  have h0' : (t == 0) = false := by simpa using h0
  have hb : behR a n sl t x = ((findR a n sl (kyP (t, x))).1 + 1, (findR a n sl (kyP (t, x))).2) := by unfold behR; rw [h0', hk]; rfl
  unfold nextR
  rw [hb]
  generalize kyP (t, x) = k
  unfold plcR findR
  cases hi : inArr a k
  · simp only [Bool.false_eq_true, if_false]
    rcases fdR_is a n sl k with ⟨m, hm, e1, e2⟩ | ⟨m, hm, e1, e2⟩ | ⟨e1, e2⟩
    · right
      refine ⟨a + m, by omega, ?_, ?_⟩
      · rw [e2]; simp only; rw [if_neg (by omega)]; omega
      · rw [e1]; simp only
        rw [if_pos trivial]
        have e3 : ((a : Int) + 2 * (m : Int) + 1 + 1).toNat = plA a 0 (a + m) + 1 := by
          rw [plA0, if_neg (by omega)]; omega
        rw [e3]
        unfold Tl
        rw [if_neg (by omega)]; rfl
    · left
      rw [e1, e2]; exact ⟨rfl, rfl⟩
    · left
      rw [e1, e2]; exact ⟨rfl, rfl⟩
  · right
    unfold inArr at hi
    simp only [Bool.and_eq_true, decide_eq_true_eq, beq_iff_eq] at hi
    obtain ⟨_, h1, h2⟩ := hi
    refine ⟨(k.2 - 1).toNat, by omega, ?_, ?_⟩
    · rw [if_pos rfl]; omega
    · simp only [if_true]
      have e3 : (k.2 - 1 + 1).toNat = plA a 0 (k.2 - 1).toNat + 1 := by
        rw [plA0, if_pos (by omega)]; omega
      rw [e3]
      unfold Tl
      rw [if_neg (by omega)]; rfl

set_option maxRecDepth 20000 in
set_option maxHeartbeats 8000000 in
theorem RNext_any {w : World} {Q : Nat} {most : Int} {a n : Nat} {sl : Sl} (h : Rt w Q most a n sl) (hv : Nv a n sl) (t x : Int) (hx : I64 x) :
    Calls Try.prog 37 #[RP Q, HV, AV t x] w fun e w' => e = .returned (.tuple #[iV (nextR a n sl t x).1.1, iV (nextR a n sl t x).1.2, .int .i64 (nextR a n sl t x).2]) ∧ Kept No w w' := by
  have HT : Hid (Rt w Q most a n sl) := h
  have hQ := h.lt
  obtain ⟨ao, lo, ca, cl, h1, h2, h3⟩ := h.ex
  obtain ⟨ha, hn⟩ := h.bd
  have H1 : Hid (∀ W, Kept No w W → W.cell? ⟨Q, 0, none⟩ = some (.slice ao a ca) ∧ W.cell? ⟨Q, 1, none⟩ = some (.slice lo n cl)) := by
    intro W hW
    have e := hW.heap h1 id
    exact ⟨by rw [cell_of e]; rfl, by rw [cell_of e]; rfl⟩
  have H2 : Hid (∀ i : Nat, i < a → ∃ bA, ao = some ⟨bA, 0, none⟩ ∧ ∀ W, Kept No w W → W.cell? ⟨bA, i * 2, none⟩ = some (.int .i64 (sl (i : Int)).1) ∧ W.cell? ⟨bA, i * 2 + 1, none⟩ = some (.int .i64 (sl (i : Int)).2)) := by
    intro i hi
    obtain ⟨bA, rfl, cs, hb, hc⟩ := h2 (by omega)
    refine ⟨bA, rfl, fun W hW => ?_⟩
    have e := hW.heap hb id
    exact ⟨by rw [cell_of e]; exact (hc i hi).1, by rw [cell_of e]; exact (hc i hi).2⟩
  have H3 : Hid (∀ i : Nat, i < n → ∃ bL, lo = some ⟨bL, 0, none⟩ ∧ ∀ W, Kept No w W → (W.cell? ⟨bL, i * 4, none⟩ = some (.int .i64 (sl ((a : Int) + 2 * (i : Int))).1) ∧ W.cell? ⟨bL, i * 4 + 1, none⟩ = some (.int .i64 (sl ((a : Int) + 2 * (i : Int))).2)) ∧ W.cell? ⟨bL, i * 4 + 2, none⟩ = some (.int .i64 (sl ((a : Int) + 2 * (i : Int) + 1)).1) ∧ W.cell? ⟨bL, i * 4 + 3, none⟩ = some (.int .i64 (sl ((a : Int) + 2 * (i : Int) + 1)).2)) := by
    intro i hi
    obtain ⟨bL, rfl, cs, hb, hc⟩ := h3 (by omega)
    refine ⟨bL, rfl, fun W hW => ?_⟩
    have e := hW.heap hb id
    obtain ⟨⟨q1, q2⟩, q3, q4⟩ := hc i hi
    exact ⟨⟨by rw [cell_of e]; exact q1, by rw [cell_of e]; exact q2⟩, by rw [cell_of e]; exact q3, by rw [cell_of e]; exact q4⟩
  have HTa : Hid (∀ j : Nat, j < a → fstE (Tl a n sl j) = if (sl (j : Int)).1 = 0 then fstE (Tl a n sl (j + 1)) else ((2, (j : Int) + 1), sl (j : Int))) := fun j hj => Tl_arr a n sl j hj
  have HTn : Hid (∀ m : Nat, m < n → fstE (Tl a n sl (a + m)) = if (sl ((a : Int) + 2 * (m : Int) + 1)).1 = 0 then fstE (Tl a n sl (a + m + 1)) else (sl ((a : Int) + 2 * (m : Int)), sl ((a : Int) + 2 * (m : Int) + 1))) := fun m hm => Tl_nod a n sl hv m hm
  obtain ⟨W0, HW0⟩ : ∃ W0, Hid (W0 = (((w.alloc (.cells #[.bool false, .slice none 0 0] 70)).alloc (.cells #[.int .i64 t, .int .i64 x] 33)).alloc (.cells #[.int .i64 0, .int .i64 0] 33)).alloc (.cells #[.int .i64 0, .int .i64 0] 33)) := ⟨_, show _ = _ from rfl⟩
  have HK0 : Hid (Kept No w W0) := by rw [HW0.out]; exact ((((Kept.refl _ _).alloc _).alloc _).alloc _).alloc _
  have b0 : W0.heap[w.heap.size]? = some (.cells #[.bool false, .slice none 0 0] 70 (0, 0)) := by rw [HW0.out]; exact heap_old (heap_old (heap_old (heap_new1 w _) _) _) _
  have b1 : W0.heap[w.heap.size + 1]? = some (.cells #[.int .i64 t, .int .i64 x] 33 (0, 0)) := by
    rw [HW0.out]; have := heap_new1 (w.alloc (.cells #[.bool false, .slice none 0 0] 70)) (.cells #[.int .i64 t, .int .i64 x] 33); simp only [World.size_alloc] at this; exact heap_old (heap_old this _) _
  have b2 : W0.heap[w.heap.size + 1 + 1]? = some (.cells #[.int .i64 0, .int .i64 0] 33 (0, 0)) := by
    rw [HW0.out]; have := heap_new1 ((w.alloc (.cells #[.bool false, .slice none 0 0] 70)).alloc (.cells #[.int .i64 t, .int .i64 x] 33)) (.cells #[.int .i64 0, .int .i64 0] 33); simp only [World.size_alloc] at this; exact heap_old this _
  have b3 : W0.heap[w.heap.size + 1 + 1 + 1]? = some (.cells #[.int .i64 0, .int .i64 0] 33 (0, 0)) := by
    rw [HW0.out]; have := heap_new1 (((w.alloc (.cells #[.bool false, .slice none 0 0] 70)).alloc (.cells #[.int .i64 t, .int .i64 x] 33)).alloc (.cells #[.int .i64 0, .int .i64 0] 33)) (.cells #[.int .i64 0, .int .i64 0] 33); simp only [World.size_alloc] at this; exact this
  have HRs : Hid (∀ W, Kept No W0 W → W.cell? ⟨w.heap.size + 1 + 1, 0, none⟩ = some (.int .i64 0) ∧ W.cell? ⟨w.heap.size + 1 + 1, 1, none⟩ = some (.int .i64 0) ∧ W.cell? ⟨w.heap.size + 1 + 1 + 1, 0, none⟩ = some (.int .i64 0) ∧ W.cell? ⟨w.heap.size + 1 + 1 + 1, 1, none⟩ = some (.int .i64 0) ∧ (∀ o, W.frozen? ⟨w.heap.size + 1 + 1, o, none⟩ = false) ∧ (∀ o, W.frozen? ⟨w.heap.size + 1 + 1 + 1, o, none⟩ = false)) := by
    intro W hW
    have d2 := hW.heap b2 id
    have d3 := hW.heap b3 id
    exact ⟨by rw [cell_of d2]; rfl, by rw [cell_of d2]; rfl, by rw [cell_of d3]; rfl, by rw [cell_of d3]; rfl, frozen_of d2, frozen_of d3⟩
  have HBs : Hid (∀ W, Kept No W0 W → W.cell? ⟨w.heap.size, 0, none⟩ = some (.bool false) ∧ W.cell? ⟨w.heap.size, 1, none⟩ = some (.slice none 0 0) ∧ W.cell? ⟨w.heap.size + 1, 0, none⟩ = some (.int .i64 t) ∧ W.cell? ⟨w.heap.size + 1, 1, none⟩ = some (.int .i64 x)) := by
    intro W hW
    have d0 := hW.heap b0 id
    have d1 := hW.heap b1 id
    exact ⟨by rw [cell_of d0]; rfl, by rw [cell_of d0]; rfl, by rw [cell_of d1]; rfl, by rw [cell_of d1]; rfl⟩
  clear h h1 h2 h3 b0 b1 b2 b3 hv
  obtain ⟨q0, q1, q2, q3⟩ := HBs.out W0 (Kept.refl _ _)
  by_cases h0 : t = 0
  · subst h0
    obtain ⟨E, HEe⟩ : ∃ E, Hid (fstE (Tl a n sl 0) = E) := ⟨_, show _ = _ from rfl⟩
    have HNx : Hid (nextR a n sl 0 x = (E, 0)) := by show _ = _; rw [next_zero, HEe.out]
    clear HT hx
    go_enter Try.func37, Try.ntmps37
    go_wp2_with (rw [← HW0.out])
    clear q0 q1 q2 q3 HW0 HBs
    go_loopw [12] (fun i wr => ∃ j : Nat, j ≤ a + n ∧ i = .int .i64 (j : Int) ∧ Hid (Kept No W0 wr) ∧ Hid (fstE (Tl a n sl j) = E)) (fun i _ => a + n - (intOf i).toNat)
    case atStart => exact ⟨0, Nat.zero_le _, rfl, Kept.refl _ _, HEe⟩
    case round =>
      obtain ⟨j, hj, rfl, HK, HTj⟩ := hrel
      have HKw : Hid (Kept No w wr) := HK0.out.trans HK.out
      obtain ⟨c0, c1⟩ := H1.out _ HKw.out
      by_cases hlt : j < a + n
      · have e2 : (j : Int) < (a : Int) + (n : Int) := by omega
        have e0 : (0 : Int) ≤ (j : Int) := by omega
        obtain ⟨V, hV⟩ : ∃ V, V = wr := ⟨_, rfl⟩
        rw [← hV] at HK HKw c0 c1 ⊢
        clear hV
        by_cases hja : j < a
        · obtain ⟨bA, hb, hc⟩ := H2.out j hja
          obtain ⟨g0, g1⟩ := hc _ HKw.out
          have HC : Hid (∀ W, Kept No w W → W.cell? ⟨bA, j * 2, none⟩ = some (.int .i64 (sl (j : Int)).1) ∧ W.cell? ⟨bA, j * 2 + 1, none⟩ = some (.int .i64 (sl (j : Int)).2)) := hc
          subst hb
          have HS := HTa.out j hja
          have HS' : Hid (fstE (Tl a n sl j) = if (sl (j : Int)).1 = 0 then fstE (Tl a n sl (j + 1)) else ((2, (j : Int) + 1), sl (j : Int))) := HS
          clear HS hc
          generalize sl (j : Int) = x at g0 g1 HS' HC
          obtain ⟨x1, x2⟩ := x
          simp only at g0 g1 HS' HC
          have e1 : (j : Int) < (a : Int) := by omega
          by_cases hx : x1 = 0
          · have HS2 : Hid (fstE (Tl a n sl (j + 1)) = E) := by show _ = _; rw [← HTj.out, HS'.out, if_pos hx]
            subst hx
            have HKd : Hid (∀ m, Kept No W0 (V.drewN m)) := fun m => HK.out.drewN m
            clear HS' HTj
            go_wp2_with fail
            go_quiet (fail)
            go_wp2
            go_roundw
            case rel => exact ⟨j + 1, by omega, by go_num, HKd.out _, HS2⟩
            case measure => simp [intOf]; omega
          · have HE : Hid (E = ((2, (j : Int) + 1), (x1, x2))) := by show _ = _; rw [← HTj.out, HS'.out, if_neg hx]
            have hx1 : (x1 == 0) = false := by simpa using hx
            clear HS' HTj hx
            go_wp2_with fail
            go_quiet (fail)
            go_wp2_with fail
            generalize hm3 : World.drewN V _ = V2
            have HK2 : Hid (Kept No W0 V2) := by rw [← hm3]; exact HK.out.drewN _
            clear hm3
            have HKs : Hid (Kept No w V2.drew) := (HK0.out.trans HK2.out).drew
            refine wp_region_held (S := fun w' => Kept No w w') (by kernel_rfl) ?_
            refine wpAnyH_take (i := 0) (v := .int .i64 (j : Int)) rfl (by kernel_rfl) (by kernel_rfl) (by kernel_rfl) (fun _ _ _ h => h) (Or.inl ⟨by kernel_rfl, ?_⟩) HKs.out ?_
            · intro w' _; simp [go_sem]
            try simp only [Act.put, List.setIfInBounds_toArray, List.set_cons_zero, List.set_cons_succ, List.getElem_toArray, List.getElem_cons_zero, List.getElem_cons_succ]
            refine wpAnyH_take (i := 1) (v := .int .i64 ((j : Int) + 1)) rfl (by kernel_rfl) (by kernel_rfl) (by kernel_rfl) (fun _ _ _ h => h) (Or.inl ⟨by kernel_rfl, ?_⟩) HKs.out ?_
            · intro w' _; simp [go_sem]; rw [IntKind.wrap_i64]; omega
            try simp only [Act.put, List.setIfInBounds_toArray, List.set_cons_zero, List.set_cons_succ, List.getElem_toArray, List.getElem_cons_zero, List.getElem_cons_succ]
            refine wpAnyH_take (i := 3) (v := RP Q) rfl (by kernel_rfl) (by kernel_rfl) (by kernel_rfl) (fun _ _ _ h => h) (Or.inl ⟨by kernel_rfl, ?_⟩) HKs.out ?_
            · intro w' _; simp [go_sem]
            try simp only [Act.put, List.setIfInBounds_toArray, List.set_cons_zero, List.set_cons_succ, List.getElem_toArray, List.getElem_cons_zero, List.getElem_cons_succ]
            refine wpAnyH_take (i := 4) (v := RP Q) rfl (by kernel_rfl) (by kernel_rfl) (by kernel_rfl) (fun _ _ _ h => h) (Or.inl ⟨by kernel_rfl, ?_⟩) HKs.out ?_
            · intro w' _; simp [go_sem]
            try simp only [Act.put, List.setIfInBounds_toArray, List.set_cons_zero, List.set_cons_succ, List.getElem_toArray, List.getElem_cons_zero, List.getElem_cons_succ]
            refine wpAnyH_take (i := 5) (v := RP Q) rfl (by kernel_rfl) (by kernel_rfl) (by kernel_rfl) (fun _ _ _ h => h) (Or.inl ⟨by kernel_rfl, ?_⟩) HKs.out ?_
            · intro w' _; simp [go_sem]
            try simp only [Act.put, List.setIfInBounds_toArray, List.set_cons_zero, List.set_cons_succ, List.getElem_toArray, List.getElem_cons_zero, List.getElem_cons_succ]
            refine wpAnyH_take (i := 6) (v := .slice (some ⟨bA, 0, none⟩) a ca) rfl (by kernel_rfl) (by kernel_rfl) (by kernel_rfl) (fun _ _ _ h => h) (Or.inl ⟨by kernel_rfl, ?_⟩) HKs.out ?_
            · intro w' hW; obtain ⟨r0, r1⟩ := H1.out w' hW; simp [go_sem, r0]
            try simp only [Act.put, List.setIfInBounds_toArray, List.set_cons_zero, List.set_cons_succ, List.getElem_toArray, List.getElem_cons_zero, List.getElem_cons_succ]
            refine wpAnyH_take (i := 7) (v := .int .i64 (j : Int)) rfl (by kernel_rfl) (by kernel_rfl) (by kernel_rfl) (fun _ _ _ h => h) (Or.inl ⟨by kernel_rfl, ?_⟩) HKs.out ?_
            · intro w' _; simp [go_sem]
            try simp only [Act.put, List.setIfInBounds_toArray, List.set_cons_zero, List.set_cons_succ, List.getElem_toArray, List.getElem_cons_zero, List.getElem_cons_succ]
            refine wpAnyH_take (i := 8) (v := .pointer (some ⟨bA, j * 2, none⟩)) rfl (by kernel_rfl) (by kernel_rfl) (by kernel_rfl) (fun _ _ _ h => h) (Or.inl ⟨by kernel_rfl, ?_⟩) HKs.out ?_
            · intro w' _; simp [go_sem, e0, e1]
            try simp only [Act.put, List.setIfInBounds_toArray, List.set_cons_zero, List.set_cons_succ, List.getElem_toArray, List.getElem_cons_zero, List.getElem_cons_succ]
            refine wpAnyH_take (i := 9) (v := AV x1 x2) rfl (by kernel_rfl) (by kernel_rfl) (by kernel_rfl) (fun _ _ _ h => h) (Or.inl ⟨by kernel_rfl, ?_⟩) HKs.out ?_
            · intro w' hW; obtain ⟨r0, r1⟩ := HC.out w' hW; simp [go_sem, r0, r1]
            try simp only [Act.put, List.setIfInBounds_toArray, List.set_cons_zero, List.set_cons_succ, List.getElem_toArray, List.getElem_cons_zero, List.getElem_cons_succ]
            refine wpAnyH_ready (rs := [2]) (by kernel_rfl) (by simp) ?_
            refine AllReadyH.cons rfl (fun K hK => ?_) AllReadyH.nil
            go_simp
            refine (RInt_any ((j : Int) + 1) _).mono ?_
            rintro e V3 ⟨rfl, hk3⟩
            refine hK.out _ _ (HKs.out.trans (Kept.of_below hk3)) (fun _ => ?_)
            clear hK
            try simp only [Act.put, List.setIfInBounds_toArray, List.set_cons_zero, List.set_cons_succ, List.getElem_toArray, List.getElem_cons_zero, List.getElem_cons_succ]
            have HK3 : Kept No W0 V3 := HK2.out.drew.trans (Kept.of_below hk3)
            obtain ⟨o1, o2, o3, o4, of, og⟩ := HRs.out V3 HK3
            have HKa : Hid (Kept No w ((V3.setCell ⟨w.heap.size + 1 + 1, 0, none⟩ (.int .i64 2)).setCell ⟨w.heap.size + 1 + 1, 1, none⟩ (.int .i64 ((j : Int) + 1)))) := (((HK0.out.trans HK3).set _ 0 _ (.inr (by omega))).set _ 1 _ (.inr (by omega)))
            have HKE : Hid (Kept No w ((((V3.setCell ⟨w.heap.size + 1 + 1, 0, none⟩ (.int .i64 2)).setCell ⟨w.heap.size + 1 + 1, 1, none⟩ (.int .i64 ((j : Int) + 1))).setCell ⟨w.heap.size + 1 + 1 + 1, 0, none⟩ (.int .i64 x1)).setCell ⟨w.heap.size + 1 + 1 + 1, 1, none⟩ (.int .i64 x2))) := (HKa.out.set _ 0 _ (.inr (by omega))).set _ 1 _ (.inr (by omega))
            clear HK3
            refine wpAnyH_ready (rs := [10]) (by kernel_rfl) (by simp) ?_
            refine AllReadyH.cons rfl (fun K hK => ?_) AllReadyH.nil
            simp [go_sem, o1, o2, o3, o4, of, og]
            refine hK.out _ _ HKa.out (fun _ => ?_)
            clear hK
            try simp only [Act.put, List.setIfInBounds_toArray, List.set_cons_zero, List.set_cons_succ, List.getElem_toArray, List.getElem_cons_zero, List.getElem_cons_succ]
            refine wpAnyH_ready (rs := [11]) (by kernel_rfl) (by simp) ?_
            refine AllReadyH.cons rfl (fun K hK => ?_) AllReadyH.nil
            simp [go_sem, o1, o2, o3, o4, of, og]
            refine hK.out _ _ HKE.out (fun _ => ?_)
            clear hK
            try simp only [Act.put, List.setIfInBounds_toArray, List.set_cons_zero, List.set_cons_succ, List.getElem_toArray, List.getElem_cons_zero, List.getElem_cons_succ]
            refine wpAnyH_take (i := 12) (v := .int .i64 0) rfl (by kernel_rfl) (by kernel_rfl) (by kernel_rfl) (fun _ _ _ h => h) (Or.inl ⟨by kernel_rfl, ?_⟩) HKE.out ?_
            · intro w' _; simp [go_sem]
            try simp only [Act.put, List.setIfInBounds_toArray, List.set_cons_zero, List.set_cons_succ, List.getElem_toArray, List.getElem_cons_zero, List.getElem_cons_succ]
            refine wpAnyH_done (by kernel_rfl) ?_ _
            clear hk3 HC c0 c1 g0 g1
            go_wp2
            exact bodyPost_ret (v := .tuple #[AV 2 ((j : Int) + 1), AV x1 x2, .int .i64 0]) (by simp [results, Try.results37, go_sem, o1, o2, o3, o4]) rfl ⟨by rw [HNx.out, HE.out], HKE.out⟩
        · obtain ⟨m, rfl⟩ : ∃ m, j = a + m := ⟨j - a, by omega⟩
          have hm : m < n := by omega
          obtain ⟨bL, hb, hc⟩ := H3.out m hm
          obtain ⟨⟨g0, g1⟩, g2, g3⟩ := hc _ HKw.out
          subst hb
          have HS := HTn.out m hm
          have HS' : Hid (fstE (Tl a n sl (a + m)) = if (sl ((a : Int) + 2 * (m : Int) + 1)).1 = 0 then fstE (Tl a n sl (a + m + 1)) else (sl ((a : Int) + 2 * (m : Int)), sl ((a : Int) + 2 * (m : Int) + 1))) := HS
          have HC : Hid (∀ W, Kept No w W → (W.cell? ⟨bL, m * 4, none⟩ = some (.int .i64 (sl ((a : Int) + 2 * (m : Int))).1) ∧ W.cell? ⟨bL, m * 4 + 1, none⟩ = some (.int .i64 (sl ((a : Int) + 2 * (m : Int))).2)) ∧ W.cell? ⟨bL, m * 4 + 2, none⟩ = some (.int .i64 (sl ((a : Int) + 2 * (m : Int) + 1)).1) ∧ W.cell? ⟨bL, m * 4 + 3, none⟩ = some (.int .i64 (sl ((a : Int) + 2 * (m : Int) + 1)).2)) := hc
          clear HS hc
          generalize sl ((a : Int) + 2 * (m : Int)) = y at g0 g1 HS' HC
          generalize sl ((a : Int) + 2 * (m : Int) + 1) = x at g2 g3 HS' HC
          obtain ⟨x1, x2⟩ := x
          obtain ⟨y1, y2⟩ := y
          simp only at g0 g1 g2 g3 HS' HC
          have hcast : ((a + m : Nat) : Int) = (a : Int) + (m : Int) := by omega
          rw [hcast]
          rw [hcast] at e0 e2
          have e1 : ¬ (a : Int) + (m : Int) < (a : Int) := by omega
          have e3 : (0 : Int) ≤ (m : Int) := by omega
          have e4 : (m : Int) < (n : Int) := by omega
          have e5 : (a : Int) + (m : Int) - (a : Int) = (m : Int) := by omega
          clear hcast
          by_cases hx : x1 = 0
          · have HS2 : Hid (fstE (Tl a n sl (a + m + 1)) = E) := by show _ = _; rw [← HTj.out, HS'.out, if_pos hx]
            subst hx
            have HKd : Hid (∀ m, Kept No W0 (V.drewN m)) := fun m => HK.out.drewN m
            clear HS' HTj
            go_wp2_with fail
            go_quiet (fail)
            go_wp2_with fail
            go_quiet (fail)
            go_wp2
            go_roundw
            case rel => exact ⟨a + m + 1, by omega, by go_num, HKd.out _, HS2⟩
            case measure => simp [intOf]; omega
          · have HE : Hid (E = ((y1, y2), (x1, x2))) := by show _ = _; rw [← HTj.out, HS'.out, if_neg hx]
            have hx1 : (x1 == 0) = false := by simpa using hx
            clear HS' HTj hx
            go_wp2_with fail
            go_quiet (fail)
            go_wp2_with fail
            go_quiet (fail)
            go_wp2_with fail
            rw [World.drewN_drewN]
            generalize hm3 : World.drewN V _ = V2
            have HK2 : Hid (Kept No W0 V2) := by rw [← hm3]; exact HK.out.drewN _
            clear hm3
            refine wp_region_held (S := fun w' => Kept No w w') (by kernel_rfl) ?_
            show wpAnyH _ _ _ _ _ _ _ _ V2.drew
            generalize hV3 : V2.drew = V3
            have HK3' : Hid (Kept No W0 V3) := by rw [← hV3]; exact HK2.out.drew
            have HKs : Hid (Kept No w V3) := HK0.out.trans HK3'.out
            clear hV3
            refine wpAnyH_take (i := 0) (v := RP Q) rfl (by kernel_rfl) (by kernel_rfl) (by kernel_rfl) (fun _ _ _ h => h) (Or.inl ⟨by kernel_rfl, ?_⟩) HKs.out ?_
            · intro w' _; simp [go_sem]
            try simp only [Act.put, List.setIfInBounds_toArray, List.set_cons_zero, List.set_cons_succ, List.getElem_toArray, List.getElem_cons_zero, List.getElem_cons_succ]
            refine wpAnyH_take (i := 1) (v := RP Q) rfl (by kernel_rfl) (by kernel_rfl) (by kernel_rfl) (fun _ _ _ h => h) (Or.inl ⟨by kernel_rfl, ?_⟩) HKs.out ?_
            · intro w' _; simp [go_sem]
            try simp only [Act.put, List.setIfInBounds_toArray, List.set_cons_zero, List.set_cons_succ, List.getElem_toArray, List.getElem_cons_zero, List.getElem_cons_succ]
            refine wpAnyH_take (i := 2) (v := .pointer (some ⟨Q, 1, none⟩)) rfl (by kernel_rfl) (by kernel_rfl) (by kernel_rfl) (fun _ _ _ h => h) (Or.inl ⟨by kernel_rfl, ?_⟩) HKs.out ?_
            · intro w' _; simp [go_sem]
            try simp only [Act.put, List.setIfInBounds_toArray, List.set_cons_zero, List.set_cons_succ, List.getElem_toArray, List.getElem_cons_zero, List.getElem_cons_succ]
            refine wpAnyH_take (i := 3) (v := .slice (some ⟨bL, 0, none⟩) n cl) rfl (by kernel_rfl) (by kernel_rfl) (by kernel_rfl) (fun _ _ _ h => h) (Or.inl ⟨by kernel_rfl, ?_⟩) HKs.out ?_
            · intro w' hW; obtain ⟨r0, r1⟩ := H1.out w' hW; simp [go_sem, r1]
            try simp only [Act.put, List.setIfInBounds_toArray, List.set_cons_zero, List.set_cons_succ, List.getElem_toArray, List.getElem_cons_zero, List.getElem_cons_succ]
            refine wpAnyH_take (i := 4) (v := .int .i64 ((a : Int) + (m : Int))) rfl (by kernel_rfl) (by kernel_rfl) (by kernel_rfl) (fun _ _ _ h => h) (Or.inl ⟨by kernel_rfl, ?_⟩) HKs.out ?_
            · intro w' _; simp [go_sem]
            try simp only [Act.put, List.setIfInBounds_toArray, List.set_cons_zero, List.set_cons_succ, List.getElem_toArray, List.getElem_cons_zero, List.getElem_cons_succ]
            refine wpAnyH_take (i := 5) (v := RP Q) rfl (by kernel_rfl) (by kernel_rfl) (by kernel_rfl) (fun _ _ _ h => h) (Or.inl ⟨by kernel_rfl, ?_⟩) HKs.out ?_
            · intro w' _; simp [go_sem]
            try simp only [Act.put, List.setIfInBounds_toArray, List.set_cons_zero, List.set_cons_succ, List.getElem_toArray, List.getElem_cons_zero, List.getElem_cons_succ]
            refine wpAnyH_take (i := 6) (v := RP Q) rfl (by kernel_rfl) (by kernel_rfl) (by kernel_rfl) (fun _ _ _ h => h) (Or.inl ⟨by kernel_rfl, ?_⟩) HKs.out ?_
            · intro w' _; simp [go_sem]
            try simp only [Act.put, List.setIfInBounds_toArray, List.set_cons_zero, List.set_cons_succ, List.getElem_toArray, List.getElem_cons_zero, List.getElem_cons_succ]
            refine wpAnyH_take (i := 7) (v := RP Q) rfl (by kernel_rfl) (by kernel_rfl) (by kernel_rfl) (fun _ _ _ h => h) (Or.inl ⟨by kernel_rfl, ?_⟩) HKs.out ?_
            · intro w' _; simp [go_sem]
            try simp only [Act.put, List.setIfInBounds_toArray, List.set_cons_zero, List.set_cons_succ, List.getElem_toArray, List.getElem_cons_zero, List.getElem_cons_succ]
            refine wpAnyH_take (i := 8) (v := .slice ao a ca) rfl (by kernel_rfl) (by kernel_rfl) (by kernel_rfl) (fun _ _ _ h => h) (Or.inl ⟨by kernel_rfl, ?_⟩) HKs.out ?_
            · intro w' hW; obtain ⟨r0, r1⟩ := H1.out w' hW; simp [go_sem, r0]
            try simp only [Act.put, List.setIfInBounds_toArray, List.set_cons_zero, List.set_cons_succ, List.getElem_toArray, List.getElem_cons_zero, List.getElem_cons_succ]
            refine wpAnyH_take (i := 9) (v := .int .i64 (a : Int)) rfl (by kernel_rfl) (by kernel_rfl) (by kernel_rfl) (fun _ _ _ h => h) (Or.inl ⟨by kernel_rfl, ?_⟩) HKs.out ?_
            · intro w' _; simp [go_sem]
            try simp only [Act.put, List.setIfInBounds_toArray, List.set_cons_zero, List.set_cons_succ, List.getElem_toArray, List.getElem_cons_zero, List.getElem_cons_succ]
            refine wpAnyH_take (i := 10) (v := .int .i64 (m : Int)) rfl (by kernel_rfl) (by kernel_rfl) (by kernel_rfl) (fun _ _ _ h => h) (Or.inl ⟨by kernel_rfl, ?_⟩) HKs.out ?_
            · intro w' _; simp [go_sem]; rw [IntKind.wrap_i64]; omega
            try simp only [Act.put, List.setIfInBounds_toArray, List.set_cons_zero, List.set_cons_succ, List.getElem_toArray, List.getElem_cons_zero, List.getElem_cons_succ]
            refine wpAnyH_take (i := 11) (v := .pointer (some ⟨bL, m * 4, none⟩)) rfl (by kernel_rfl) (by kernel_rfl) (by kernel_rfl) (fun _ _ _ h => h) (Or.inl ⟨by kernel_rfl, ?_⟩) HKs.out ?_
            · intro w' _; simp [go_sem, e3, e4]
            try simp only [Act.put, List.setIfInBounds_toArray, List.set_cons_zero, List.set_cons_succ, List.getElem_toArray, List.getElem_cons_zero, List.getElem_cons_succ]
            refine wpAnyH_take (i := 12) (v := .pointer (some ⟨bL, m * 4, none⟩)) rfl (by kernel_rfl) (by kernel_rfl) (by kernel_rfl) (fun _ _ _ h => h) (Or.inl ⟨by kernel_rfl, ?_⟩) HKs.out ?_
            · intro w' _; simp [go_sem]
            try simp only [Act.put, List.setIfInBounds_toArray, List.set_cons_zero, List.set_cons_succ, List.getElem_toArray, List.getElem_cons_zero, List.getElem_cons_succ]
            refine wpAnyH_take (i := 13) (v := AV y1 y2) rfl (by kernel_rfl) (by kernel_rfl) (by kernel_rfl) (fun _ _ _ h => h) (Or.inl ⟨by kernel_rfl, ?_⟩) HKs.out ?_
            · intro w' hW; obtain ⟨⟨r2, r3⟩, r4, r5⟩ := HC.out w' hW; simp [go_sem, r2, r3]
            try simp only [Act.put, List.setIfInBounds_toArray, List.set_cons_zero, List.set_cons_succ, List.getElem_toArray, List.getElem_cons_zero, List.getElem_cons_succ]
            refine wpAnyH_take (i := 14) (v := RP Q) rfl (by kernel_rfl) (by kernel_rfl) (by kernel_rfl) (fun _ _ _ h => h) (Or.inl ⟨by kernel_rfl, ?_⟩) HKs.out ?_
            · intro w' _; simp [go_sem]
            try simp only [Act.put, List.setIfInBounds_toArray, List.set_cons_zero, List.set_cons_succ, List.getElem_toArray, List.getElem_cons_zero, List.getElem_cons_succ]
            refine wpAnyH_take (i := 15) (v := RP Q) rfl (by kernel_rfl) (by kernel_rfl) (by kernel_rfl) (fun _ _ _ h => h) (Or.inl ⟨by kernel_rfl, ?_⟩) HKs.out ?_
            · intro w' _; simp [go_sem]
            try simp only [Act.put, List.setIfInBounds_toArray, List.set_cons_zero, List.set_cons_succ, List.getElem_toArray, List.getElem_cons_zero, List.getElem_cons_succ]
            refine wpAnyH_take (i := 16) (v := .pointer (some ⟨Q, 1, none⟩)) rfl (by kernel_rfl) (by kernel_rfl) (by kernel_rfl) (fun _ _ _ h => h) (Or.inl ⟨by kernel_rfl, ?_⟩) HKs.out ?_
            · intro w' _; simp [go_sem]
            try simp only [Act.put, List.setIfInBounds_toArray, List.set_cons_zero, List.set_cons_succ, List.getElem_toArray, List.getElem_cons_zero, List.getElem_cons_succ]
            refine wpAnyH_take (i := 17) (v := .slice (some ⟨bL, 0, none⟩) n cl) rfl (by kernel_rfl) (by kernel_rfl) (by kernel_rfl) (fun _ _ _ h => h) (Or.inl ⟨by kernel_rfl, ?_⟩) HKs.out ?_
            · intro w' hW; obtain ⟨r0, r1⟩ := H1.out w' hW; simp [go_sem, r1]
            try simp only [Act.put, List.setIfInBounds_toArray, List.set_cons_zero, List.set_cons_succ, List.getElem_toArray, List.getElem_cons_zero, List.getElem_cons_succ]
            refine wpAnyH_take (i := 18) (v := .int .i64 ((a : Int) + (m : Int))) rfl (by kernel_rfl) (by kernel_rfl) (by kernel_rfl) (fun _ _ _ h => h) (Or.inl ⟨by kernel_rfl, ?_⟩) HKs.out ?_
            · intro w' _; simp [go_sem]
            try simp only [Act.put, List.setIfInBounds_toArray, List.set_cons_zero, List.set_cons_succ, List.getElem_toArray, List.getElem_cons_zero, List.getElem_cons_succ]
            refine wpAnyH_take (i := 19) (v := RP Q) rfl (by kernel_rfl) (by kernel_rfl) (by kernel_rfl) (fun _ _ _ h => h) (Or.inl ⟨by kernel_rfl, ?_⟩) HKs.out ?_
            · intro w' _; simp [go_sem]
            try simp only [Act.put, List.setIfInBounds_toArray, List.set_cons_zero, List.set_cons_succ, List.getElem_toArray, List.getElem_cons_zero, List.getElem_cons_succ]
            refine wpAnyH_take (i := 20) (v := RP Q) rfl (by kernel_rfl) (by kernel_rfl) (by kernel_rfl) (fun _ _ _ h => h) (Or.inl ⟨by kernel_rfl, ?_⟩) HKs.out ?_
            · intro w' _; simp [go_sem]
            try simp only [Act.put, List.setIfInBounds_toArray, List.set_cons_zero, List.set_cons_succ, List.getElem_toArray, List.getElem_cons_zero, List.getElem_cons_succ]
            refine wpAnyH_take (i := 21) (v := RP Q) rfl (by kernel_rfl) (by kernel_rfl) (by kernel_rfl) (fun _ _ _ h => h) (Or.inl ⟨by kernel_rfl, ?_⟩) HKs.out ?_
            · intro w' _; simp [go_sem]
            try simp only [Act.put, List.setIfInBounds_toArray, List.set_cons_zero, List.set_cons_succ, List.getElem_toArray, List.getElem_cons_zero, List.getElem_cons_succ]
            refine wpAnyH_take (i := 22) (v := .slice ao a ca) rfl (by kernel_rfl) (by kernel_rfl) (by kernel_rfl) (fun _ _ _ h => h) (Or.inl ⟨by kernel_rfl, ?_⟩) HKs.out ?_
            · intro w' hW; obtain ⟨r0, r1⟩ := H1.out w' hW; simp [go_sem, r0]
            try simp only [Act.put, List.setIfInBounds_toArray, List.set_cons_zero, List.set_cons_succ, List.getElem_toArray, List.getElem_cons_zero, List.getElem_cons_succ]
            refine wpAnyH_take (i := 23) (v := .int .i64 (a : Int)) rfl (by kernel_rfl) (by kernel_rfl) (by kernel_rfl) (fun _ _ _ h => h) (Or.inl ⟨by kernel_rfl, ?_⟩) HKs.out ?_
            · intro w' _; simp [go_sem]
            try simp only [Act.put, List.setIfInBounds_toArray, List.set_cons_zero, List.set_cons_succ, List.getElem_toArray, List.getElem_cons_zero, List.getElem_cons_succ]
            refine wpAnyH_take (i := 24) (v := .int .i64 (m : Int)) rfl (by kernel_rfl) (by kernel_rfl) (by kernel_rfl) (fun _ _ _ h => h) (Or.inl ⟨by kernel_rfl, ?_⟩) HKs.out ?_
            · intro w' _; simp [go_sem]; rw [IntKind.wrap_i64]; omega
            try simp only [Act.put, List.setIfInBounds_toArray, List.set_cons_zero, List.set_cons_succ, List.getElem_toArray, List.getElem_cons_zero, List.getElem_cons_succ]
            refine wpAnyH_take (i := 25) (v := .pointer (some ⟨bL, m * 4, none⟩)) rfl (by kernel_rfl) (by kernel_rfl) (by kernel_rfl) (fun _ _ _ h => h) (Or.inl ⟨by kernel_rfl, ?_⟩) HKs.out ?_
            · intro w' _; simp [go_sem, e3, e4]
            try simp only [Act.put, List.setIfInBounds_toArray, List.set_cons_zero, List.set_cons_succ, List.getElem_toArray, List.getElem_cons_zero, List.getElem_cons_succ]
            refine wpAnyH_take (i := 26) (v := .pointer (some ⟨bL, m * 4 + 2, none⟩)) rfl (by kernel_rfl) (by kernel_rfl) (by kernel_rfl) (fun _ _ _ h => h) (Or.inl ⟨by kernel_rfl, ?_⟩) HKs.out ?_
            · intro w' _; simp [go_sem]
            try simp only [Act.put, List.setIfInBounds_toArray, List.set_cons_zero, List.set_cons_succ, List.getElem_toArray, List.getElem_cons_zero, List.getElem_cons_succ]
            refine wpAnyH_take (i := 27) (v := AV x1 x2) rfl (by kernel_rfl) (by kernel_rfl) (by kernel_rfl) (fun _ _ _ h => h) (Or.inl ⟨by kernel_rfl, ?_⟩) HKs.out ?_
            · intro w' hW; obtain ⟨⟨r2, r3⟩, r4, r5⟩ := HC.out w' hW; simp [go_sem, r4, r5]
            try simp only [Act.put, List.setIfInBounds_toArray, List.set_cons_zero, List.set_cons_succ, List.getElem_toArray, List.getElem_cons_zero, List.getElem_cons_succ]
            have HK3 : Kept No W0 V3 := HK3'.out
            obtain ⟨o1, o2, o3, o4, of, og⟩ := HRs.out V3 HK3
            have HKa : Hid (Kept No w ((V3.setCell ⟨w.heap.size + 1 + 1, 0, none⟩ (.int .i64 y1)).setCell ⟨w.heap.size + 1 + 1, 1, none⟩ (.int .i64 y2))) := (((HK0.out.trans HK3).set _ 0 _ (.inr (by omega))).set _ 1 _ (.inr (by omega)))
            have HKE : Hid (Kept No w ((((V3.setCell ⟨w.heap.size + 1 + 1, 0, none⟩ (.int .i64 y1)).setCell ⟨w.heap.size + 1 + 1, 1, none⟩ (.int .i64 y2)).setCell ⟨w.heap.size + 1 + 1 + 1, 0, none⟩ (.int .i64 x1)).setCell ⟨w.heap.size + 1 + 1 + 1, 1, none⟩ (.int .i64 x2))) := (HKa.out.set _ 0 _ (.inr (by omega))).set _ 1 _ (.inr (by omega))
            clear HK3
            refine wpAnyH_ready (rs := [28]) (by kernel_rfl) (by simp) ?_
            refine AllReadyH.cons rfl (fun K hK => ?_) AllReadyH.nil
            simp [go_sem, o1, o2, o3, o4, of, og]
            refine hK.out _ _ HKa.out (fun _ => ?_)
            clear hK
            try simp only [Act.put, List.setIfInBounds_toArray, List.set_cons_zero, List.set_cons_succ, List.getElem_toArray, List.getElem_cons_zero, List.getElem_cons_succ]
            refine wpAnyH_ready (rs := [29]) (by kernel_rfl) (by simp) ?_
            refine AllReadyH.cons rfl (fun K hK => ?_) AllReadyH.nil
            simp [go_sem, o1, o2, o3, o4, of, og]
            refine hK.out _ _ HKE.out (fun _ => ?_)
            clear hK
            try simp only [Act.put, List.setIfInBounds_toArray, List.set_cons_zero, List.set_cons_succ, List.getElem_toArray, List.getElem_cons_zero, List.getElem_cons_succ]
            refine wpAnyH_take (i := 30) (v := .int .i64 0) rfl (by kernel_rfl) (by kernel_rfl) (by kernel_rfl) (fun _ _ _ h => h) (Or.inl ⟨by kernel_rfl, ?_⟩) HKE.out ?_
            · intro w' _; simp [go_sem]
            try simp only [Act.put, List.setIfInBounds_toArray, List.set_cons_zero, List.set_cons_succ, List.getElem_toArray, List.getElem_cons_zero, List.getElem_cons_succ]
            refine wpAnyH_done (by kernel_rfl) ?_ _
            clear HC c0 c1 g0 g1 g2 g3
            go_wp2
            exact bodyPost_ret (v := .tuple #[AV y1 y2, AV x1 x2, .int .i64 0]) (by simp [results, Try.results37, go_sem, o1, o2, o3, o4]) rfl ⟨by rw [HNx.out, HE.out], HKE.out⟩
      · obtain rfl : j = a + n := by omega
        have HE : Hid (E = ((0, 0), (0, 0))) := by show _ = _; rw [← HTj.out, Tl_end]; rfl
        have hcast : ((a + n : Nat) : Int) = (a : Int) + (n : Int) := by omega
        rw [hcast]
        have e1 : ¬ (a : Int) + (n : Int) < (a : Int) + (n : Int) := by omega
        clear hcast
        have HKd : Hid (∀ m, Kept No W0 (wr.drewN m)) := fun m => HK.out.drewN m
        go_wp2_with fail
        go_quiet (fail)
        generalize hm3 : World.drewN wr _ = V3
        have HK3 : Kept No W0 V3 := by rw [← hm3]; exact HKd.out _
        clear hm3
        obtain ⟨o1, o2, o3, o4, of, og⟩ := HRs.out V3 HK3
        have HKE : Hid (Kept No w ((((V3.setCell ⟨w.heap.size + 1 + 1, 0, none⟩ (.int .i64 0)).setCell ⟨w.heap.size + 1 + 1, 1, none⟩ (.int .i64 0)).setCell ⟨w.heap.size + 1 + 1 + 1, 0, none⟩ (.int .i64 0)).setCell ⟨w.heap.size + 1 + 1 + 1, 1, none⟩ (.int .i64 0))) := ((((HK0.out.trans HK3).set _ 0 _ (.inr (by omega))).set _ 1 _ (.inr (by omega))).set _ 0 _ (.inr (by omega))).set _ 1 _ (.inr (by omega))
        clear HK3 c0 c1
        go_wp2
        exact bodyPost_ret (v := .tuple #[AV 0 0, AV 0 0, .int .i64 0]) (by simp [results, Try.results37, go_sem, o1, o2, o3, o4]) rfl ⟨by rw [HNx.out, HE.out], HKE.out⟩
  · have h0' : (t == 0) = false := by simpa using h0
    obtain ⟨r, HRk⟩ : ∃ r, Hid (rkV t x = r) := ⟨_, show _ = _ from rfl⟩
    have HRK : Hid (Calls Try.prog 17 #[AV t x] W0 fun e w' => e = .returned (.tuple #[iV r, .bool (keyB t x)]) ∧ Below W0.heap.size W0 w') := by rw [← HRk.out]; exact RK_any t x W0
    obtain ⟨r1, r2⟩ := r
    go_enter Try.func37, Try.ntmps37
    go_wp2_with (rw [← HW0.out])
    refine HRK.out.mono ?_
    rintro e W1 ⟨rfl, hk1⟩
    have HK1 : Hid (Kept No W0 W1) := Kept.of_below hk1
    clear hk1 HRK q0 q1 q2 q3 HW0
    obtain ⟨W2, HW2⟩ : ∃ W2, Hid (W2 = W1.alloc (.cells #[.int .i64 r1, .int .i64 r2] 33)) := ⟨_, show _ = _ from rfl⟩
    have HK2 : Hid (Kept No W0 W2) := by rw [HW2.out]; exact HK1.out.alloc _
    have HB2 : Hid (W2.heap[W1.heap.size]? = some (.cells #[.int .i64 r1, .int .i64 r2] 33 (0, 0))) := by rw [HW2.out]; exact heap_new1 W1 _
    obtain ⟨q0, q1, q2, q3⟩ := HBs.out W2 HK2.out
    have q6 : W2.cell? ⟨W1.heap.size, 0, none⟩ = some (.int .i64 r1) := by rw [cell_of HB2.out]; rfl
    have q7 : W2.cell? ⟨W1.heap.size, 1, none⟩ = some (.int .i64 r2) := by rw [cell_of HB2.out]; rfl
    cases hb : keyB t x
    · have HNx : Hid (nextR a n sl t x = (((0, 0), (0, 0)), 13)) := next_bad a n sl t x h0 hb
      obtain ⟨o1, o2, o3, o4, of, og⟩ := HRs.out W2 HK2.out
      have HKE : Hid (Kept No w ((((W2.setCell ⟨w.heap.size + 1 + 1, 0, none⟩ (.int .i64 0)).setCell ⟨w.heap.size + 1 + 1, 1, none⟩ (.int .i64 0)).setCell ⟨w.heap.size + 1 + 1 + 1, 0, none⟩ (.int .i64 0)).setCell ⟨w.heap.size + 1 + 1 + 1, 1, none⟩ (.int .i64 0))) := ((((HK0.out.trans HK2.out).set _ 0 _ (.inr (by omega))).set _ 1 _ (.inr (by omega))).set _ 0 _ (.inr (by omega))).set _ 1 _ (.inr (by omega))
      go_wp2_with (rw [← HW2.out])
      exact bodyPost_ret (v := .tuple #[AV 0 0, AV 0 0, .int .i64 13]) (by simp [results, Try.results37, go_sem, o1, o2, o3, o4]) rfl ⟨by rw [HNx.out], HKE.out⟩
    · have HP : kyP (t, x) = (r1, r2) := by
        have e := HRk.out
        unfold rkV at e
        rw [if_pos hb] at e; exact e
      have hI2 : I64 r2 := by
        have := ky_i64 t x hx
        unfold kyP at HP
        rw [← (Prod.mk.inj HP).2]; exact this
      have hnk := next_key a n sl t x h0 hb
      rw [HP] at hnk
      have HPl := Rplace_any (HT.out.no (HK0.out.trans HK2.out)) r1 r2 hI2
      have HPL : Hid (Calls Try.prog 67 #[RP Q, HV, AV r1 r2] W2 fun e w' => e = .returned (.int .i64 (plcR a n sl (r1, r2))) ∧ Kept No W2 w') := HPl
      clear HP HPl HRk hI2 HT
      generalize plcR a n sl (r1, r2) = pl at hnk HPL
      rcases hnk with ⟨rfl, hnx⟩ | ⟨i, hi, rfl, hnx⟩
      · have HNx : Hid (nextR a n sl t x = (((0, 0), (0, 0)), 13)) := hnx
        clear hnx
        go_wp2_with (rw [← HW2.out])
        refine HPL.out.mono ?_
        rintro e V3 ⟨rfl, hk3⟩
        have HK3 : Hid (Kept No W0 V3) := HK2.out.trans hk3
        clear hk3 HPL q0 q1 q2 q3 q6 q7
        obtain ⟨o1, o2, o3, o4, of, og⟩ := HRs.out V3 HK3.out
        have HKE : Hid (Kept No w ((((V3.setCell ⟨w.heap.size + 1 + 1, 0, none⟩ (.int .i64 0)).setCell ⟨w.heap.size + 1 + 1, 1, none⟩ (.int .i64 0)).setCell ⟨w.heap.size + 1 + 1 + 1, 0, none⟩ (.int .i64 0)).setCell ⟨w.heap.size + 1 + 1 + 1, 1, none⟩ (.int .i64 0))) := ((((HK0.out.trans HK3.out).set _ 0 _ (.inr (by omega))).set _ 1 _ (.inr (by omega))).set _ 0 _ (.inr (by omega))).set _ 1 _ (.inr (by omega))
        go_wp2
        exact bodyPost_ret (v := .tuple #[AV 0 0, AV 0 0, .int .i64 13]) (by simp [results, Try.results37, go_sem, o1, o2, o3, o4]) rfl ⟨by rw [HNx.out], HKE.out⟩
      · obtain ⟨E, HEe⟩ : ∃ E, Hid (fstE (Tl a n sl (i + 1)) = E) := ⟨_, show _ = _ from rfl⟩
        have HNx : Hid (nextR a n sl t x = (E, 0)) := by show _ = _; rw [hnx, HEe.out]
        clear hnx
        have hi0 : ¬ (i : Int) < 0 := by omega
        go_wp2_with (rw [← HW2.out])
        refine HPL.out.mono ?_
        rintro e W3 ⟨rfl, hk3⟩
        have HK3 : Hid (Kept No W0 W3) := HK2.out.trans hk3
        clear hk3 HPL q0 q1 q2 q3 q6 q7 HBs HB2 HW2 HK2
        go_wp2_with fail
        generalize W1.heap.size = Z1
        clear HK1
        go_loopw [12] (fun i wr => ∃ j : Nat, j ≤ a + n ∧ i = .int .i64 (j : Int) ∧ Hid (Kept No W0 wr) ∧ Hid (fstE (Tl a n sl j) = E)) (fun i _ => a + n - (intOf i).toNat)
        case atStart => exact ⟨i + 1, by omega, by go_num, HK3, HEe⟩
        case round =>
          obtain ⟨j, hj, rfl, HK, HTj⟩ := hrel
          have HKw : Hid (Kept No w wr) := HK0.out.trans HK.out
          obtain ⟨c0, c1⟩ := H1.out _ HKw.out
          by_cases hlt : j < a + n
          · have e2 : (j : Int) < (a : Int) + (n : Int) := by omega
            have e0 : (0 : Int) ≤ (j : Int) := by omega
            obtain ⟨V, hV⟩ : ∃ V, V = wr := ⟨_, rfl⟩
            rw [← hV] at HK HKw c0 c1 ⊢
            clear hV
            by_cases hja : j < a
            · obtain ⟨bA, hb, hc⟩ := H2.out j hja
              obtain ⟨g0, g1⟩ := hc _ HKw.out
              have HC : Hid (∀ W, Kept No w W → W.cell? ⟨bA, j * 2, none⟩ = some (.int .i64 (sl (j : Int)).1) ∧ W.cell? ⟨bA, j * 2 + 1, none⟩ = some (.int .i64 (sl (j : Int)).2)) := hc
              subst hb
              have HS := HTa.out j hja
              have HS' : Hid (fstE (Tl a n sl j) = if (sl (j : Int)).1 = 0 then fstE (Tl a n sl (j + 1)) else ((2, (j : Int) + 1), sl (j : Int))) := HS
              clear HS hc
              generalize sl (j : Int) = x at g0 g1 HS' HC
              obtain ⟨x1, x2⟩ := x
              simp only at g0 g1 HS' HC
              have e1 : (j : Int) < (a : Int) := by omega
              by_cases hx : x1 = 0
              · have HS2 : Hid (fstE (Tl a n sl (j + 1)) = E) := by show _ = _; rw [← HTj.out, HS'.out, if_pos hx]
                subst hx
                have HKd : Hid (∀ m, Kept No W0 (V.drewN m)) := fun m => HK.out.drewN m
                clear HS' HTj
                go_wp2_with fail
                go_quiet (fail)
                go_wp2
                go_roundw
                case rel => exact ⟨j + 1, by omega, by go_num, HKd.out _, HS2⟩
                case measure => simp [intOf]; omega
              · have HE : Hid (E = ((2, (j : Int) + 1), (x1, x2))) := by show _ = _; rw [← HTj.out, HS'.out, if_neg hx]
                have hx1 : (x1 == 0) = false := by simpa using hx
                clear HS' HTj hx
                go_wp2_with fail
                go_quiet (fail)
                go_wp2_with fail
                generalize hm3 : World.drewN V _ = V2
                have HK2 : Hid (Kept No W0 V2) := by rw [← hm3]; exact HK.out.drewN _
                clear hm3
                have HKs : Hid (Kept No w V2.drew) := (HK0.out.trans HK2.out).drew
                refine wp_region_held (S := fun w' => Kept No w w') (by kernel_rfl) ?_
                refine wpAnyH_take (i := 0) (v := .int .i64 (j : Int)) rfl (by kernel_rfl) (by kernel_rfl) (by kernel_rfl) (fun _ _ _ h => h) (Or.inl ⟨by kernel_rfl, ?_⟩) HKs.out ?_
                · intro w' _; simp [go_sem]
                try simp only [Act.put, List.setIfInBounds_toArray, List.set_cons_zero, List.set_cons_succ, List.getElem_toArray, List.getElem_cons_zero, List.getElem_cons_succ]
                refine wpAnyH_take (i := 1) (v := .int .i64 ((j : Int) + 1)) rfl (by kernel_rfl) (by kernel_rfl) (by kernel_rfl) (fun _ _ _ h => h) (Or.inl ⟨by kernel_rfl, ?_⟩) HKs.out ?_
                · intro w' _; simp [go_sem]; rw [IntKind.wrap_i64]; omega
                try simp only [Act.put, List.setIfInBounds_toArray, List.set_cons_zero, List.set_cons_succ, List.getElem_toArray, List.getElem_cons_zero, List.getElem_cons_succ]
                refine wpAnyH_take (i := 3) (v := RP Q) rfl (by kernel_rfl) (by kernel_rfl) (by kernel_rfl) (fun _ _ _ h => h) (Or.inl ⟨by kernel_rfl, ?_⟩) HKs.out ?_
                · intro w' _; simp [go_sem]
                try simp only [Act.put, List.setIfInBounds_toArray, List.set_cons_zero, List.set_cons_succ, List.getElem_toArray, List.getElem_cons_zero, List.getElem_cons_succ]
                refine wpAnyH_take (i := 4) (v := RP Q) rfl (by kernel_rfl) (by kernel_rfl) (by kernel_rfl) (fun _ _ _ h => h) (Or.inl ⟨by kernel_rfl, ?_⟩) HKs.out ?_
                · intro w' _; simp [go_sem]
                try simp only [Act.put, List.setIfInBounds_toArray, List.set_cons_zero, List.set_cons_succ, List.getElem_toArray, List.getElem_cons_zero, List.getElem_cons_succ]
                refine wpAnyH_take (i := 5) (v := RP Q) rfl (by kernel_rfl) (by kernel_rfl) (by kernel_rfl) (fun _ _ _ h => h) (Or.inl ⟨by kernel_rfl, ?_⟩) HKs.out ?_
                · intro w' _; simp [go_sem]
                try simp only [Act.put, List.setIfInBounds_toArray, List.set_cons_zero, List.set_cons_succ, List.getElem_toArray, List.getElem_cons_zero, List.getElem_cons_succ]
                refine wpAnyH_take (i := 6) (v := .slice (some ⟨bA, 0, none⟩) a ca) rfl (by kernel_rfl) (by kernel_rfl) (by kernel_rfl) (fun _ _ _ h => h) (Or.inl ⟨by kernel_rfl, ?_⟩) HKs.out ?_
                · intro w' hW; obtain ⟨r0, r1⟩ := H1.out w' hW; simp [go_sem, r0]
                try simp only [Act.put, List.setIfInBounds_toArray, List.set_cons_zero, List.set_cons_succ, List.getElem_toArray, List.getElem_cons_zero, List.getElem_cons_succ]
                refine wpAnyH_take (i := 7) (v := .int .i64 (j : Int)) rfl (by kernel_rfl) (by kernel_rfl) (by kernel_rfl) (fun _ _ _ h => h) (Or.inl ⟨by kernel_rfl, ?_⟩) HKs.out ?_
                · intro w' _; simp [go_sem]
                try simp only [Act.put, List.setIfInBounds_toArray, List.set_cons_zero, List.set_cons_succ, List.getElem_toArray, List.getElem_cons_zero, List.getElem_cons_succ]
                refine wpAnyH_take (i := 8) (v := .pointer (some ⟨bA, j * 2, none⟩)) rfl (by kernel_rfl) (by kernel_rfl) (by kernel_rfl) (fun _ _ _ h => h) (Or.inl ⟨by kernel_rfl, ?_⟩) HKs.out ?_
                · intro w' _; simp [go_sem, e0, e1]
                try simp only [Act.put, List.setIfInBounds_toArray, List.set_cons_zero, List.set_cons_succ, List.getElem_toArray, List.getElem_cons_zero, List.getElem_cons_succ]
                refine wpAnyH_take (i := 9) (v := AV x1 x2) rfl (by kernel_rfl) (by kernel_rfl) (by kernel_rfl) (fun _ _ _ h => h) (Or.inl ⟨by kernel_rfl, ?_⟩) HKs.out ?_
                · intro w' hW; obtain ⟨r0, r1⟩ := HC.out w' hW; simp [go_sem, r0, r1]
                try simp only [Act.put, List.setIfInBounds_toArray, List.set_cons_zero, List.set_cons_succ, List.getElem_toArray, List.getElem_cons_zero, List.getElem_cons_succ]
                refine wpAnyH_ready (rs := [2]) (by kernel_rfl) (by simp) ?_
                refine AllReadyH.cons rfl (fun K hK => ?_) AllReadyH.nil
                go_simp
                refine (RInt_any ((j : Int) + 1) _).mono ?_
                rintro e V3 ⟨rfl, hk3⟩
                refine hK.out _ _ (HKs.out.trans (Kept.of_below hk3)) (fun _ => ?_)
                clear hK
                try simp only [Act.put, List.setIfInBounds_toArray, List.set_cons_zero, List.set_cons_succ, List.getElem_toArray, List.getElem_cons_zero, List.getElem_cons_succ]
                have HK3 : Kept No W0 V3 := HK2.out.drew.trans (Kept.of_below hk3)
                obtain ⟨o1, o2, o3, o4, of, og⟩ := HRs.out V3 HK3
                have HKa : Hid (Kept No w ((V3.setCell ⟨w.heap.size + 1 + 1, 0, none⟩ (.int .i64 2)).setCell ⟨w.heap.size + 1 + 1, 1, none⟩ (.int .i64 ((j : Int) + 1)))) := (((HK0.out.trans HK3).set _ 0 _ (.inr (by omega))).set _ 1 _ (.inr (by omega)))
                have HKE : Hid (Kept No w ((((V3.setCell ⟨w.heap.size + 1 + 1, 0, none⟩ (.int .i64 2)).setCell ⟨w.heap.size + 1 + 1, 1, none⟩ (.int .i64 ((j : Int) + 1))).setCell ⟨w.heap.size + 1 + 1 + 1, 0, none⟩ (.int .i64 x1)).setCell ⟨w.heap.size + 1 + 1 + 1, 1, none⟩ (.int .i64 x2))) := (HKa.out.set _ 0 _ (.inr (by omega))).set _ 1 _ (.inr (by omega))
                clear HK3
                refine wpAnyH_ready (rs := [10]) (by kernel_rfl) (by simp) ?_
                refine AllReadyH.cons rfl (fun K hK => ?_) AllReadyH.nil
                simp [go_sem, o1, o2, o3, o4, of, og]
                refine hK.out _ _ HKa.out (fun _ => ?_)
                clear hK
                try simp only [Act.put, List.setIfInBounds_toArray, List.set_cons_zero, List.set_cons_succ, List.getElem_toArray, List.getElem_cons_zero, List.getElem_cons_succ]
                refine wpAnyH_ready (rs := [11]) (by kernel_rfl) (by simp) ?_
                refine AllReadyH.cons rfl (fun K hK => ?_) AllReadyH.nil
                simp [go_sem, o1, o2, o3, o4, of, og]
                refine hK.out _ _ HKE.out (fun _ => ?_)
                clear hK
                try simp only [Act.put, List.setIfInBounds_toArray, List.set_cons_zero, List.set_cons_succ, List.getElem_toArray, List.getElem_cons_zero, List.getElem_cons_succ]
                refine wpAnyH_take (i := 12) (v := .int .i64 0) rfl (by kernel_rfl) (by kernel_rfl) (by kernel_rfl) (fun _ _ _ h => h) (Or.inl ⟨by kernel_rfl, ?_⟩) HKE.out ?_
                · intro w' _; simp [go_sem]
                try simp only [Act.put, List.setIfInBounds_toArray, List.set_cons_zero, List.set_cons_succ, List.getElem_toArray, List.getElem_cons_zero, List.getElem_cons_succ]
                refine wpAnyH_done (by kernel_rfl) ?_ _
                clear hk3 HC c0 c1 g0 g1
                go_wp2
                exact bodyPost_ret (v := .tuple #[AV 2 ((j : Int) + 1), AV x1 x2, .int .i64 0]) (by simp [results, Try.results37, go_sem, o1, o2, o3, o4]) rfl ⟨by rw [HNx.out, HE.out], HKE.out⟩
            · obtain ⟨m, rfl⟩ : ∃ m, j = a + m := ⟨j - a, by omega⟩
              have hm : m < n := by omega
              obtain ⟨bL, hb, hc⟩ := H3.out m hm
              obtain ⟨⟨g0, g1⟩, g2, g3⟩ := hc _ HKw.out
              subst hb
              have HS := HTn.out m hm
              have HS' : Hid (fstE (Tl a n sl (a + m)) = if (sl ((a : Int) + 2 * (m : Int) + 1)).1 = 0 then fstE (Tl a n sl (a + m + 1)) else (sl ((a : Int) + 2 * (m : Int)), sl ((a : Int) + 2 * (m : Int) + 1))) := HS
              have HC : Hid (∀ W, Kept No w W → (W.cell? ⟨bL, m * 4, none⟩ = some (.int .i64 (sl ((a : Int) + 2 * (m : Int))).1) ∧ W.cell? ⟨bL, m * 4 + 1, none⟩ = some (.int .i64 (sl ((a : Int) + 2 * (m : Int))).2)) ∧ W.cell? ⟨bL, m * 4 + 2, none⟩ = some (.int .i64 (sl ((a : Int) + 2 * (m : Int) + 1)).1) ∧ W.cell? ⟨bL, m * 4 + 3, none⟩ = some (.int .i64 (sl ((a : Int) + 2 * (m : Int) + 1)).2)) := hc
              clear HS hc
              generalize sl ((a : Int) + 2 * (m : Int)) = y at g0 g1 HS' HC
              generalize sl ((a : Int) + 2 * (m : Int) + 1) = x at g2 g3 HS' HC
              obtain ⟨x1, x2⟩ := x
              obtain ⟨y1, y2⟩ := y
              simp only at g0 g1 g2 g3 HS' HC
              have hcast : ((a + m : Nat) : Int) = (a : Int) + (m : Int) := by omega
              rw [hcast]
              rw [hcast] at e0 e2
              have e1 : ¬ (a : Int) + (m : Int) < (a : Int) := by omega
              have e3 : (0 : Int) ≤ (m : Int) := by omega
              have e4 : (m : Int) < (n : Int) := by omega
              have e5 : (a : Int) + (m : Int) - (a : Int) = (m : Int) := by omega
              clear hcast
              by_cases hx : x1 = 0
              · have HS2 : Hid (fstE (Tl a n sl (a + m + 1)) = E) := by show _ = _; rw [← HTj.out, HS'.out, if_pos hx]
                subst hx
                have HKd : Hid (∀ m, Kept No W0 (V.drewN m)) := fun m => HK.out.drewN m
                clear HS' HTj
                go_wp2_with fail
                go_quiet (fail)
                go_wp2_with fail
                go_quiet (fail)
                go_wp2
                go_roundw
                case rel => exact ⟨a + m + 1, by omega, by go_num, HKd.out _, HS2⟩
                case measure => simp [intOf]; omega
              · have HE : Hid (E = ((y1, y2), (x1, x2))) := by show _ = _; rw [← HTj.out, HS'.out, if_neg hx]
                have hx1 : (x1 == 0) = false := by simpa using hx
                clear HS' HTj hx
                go_wp2_with fail
                go_quiet (fail)
                go_wp2_with fail
                go_quiet (fail)
                go_wp2_with fail
                rw [World.drewN_drewN]
                generalize hm3 : World.drewN V _ = V2
                have HK2 : Hid (Kept No W0 V2) := by rw [← hm3]; exact HK.out.drewN _
                clear hm3
                refine wp_region_held (S := fun w' => Kept No w w') (by kernel_rfl) ?_
                show wpAnyH _ _ _ _ _ _ _ _ V2.drew
                generalize hV3 : V2.drew = V3
                have HK3' : Hid (Kept No W0 V3) := by rw [← hV3]; exact HK2.out.drew
                have HKs : Hid (Kept No w V3) := HK0.out.trans HK3'.out
                clear hV3
                refine wpAnyH_take (i := 0) (v := RP Q) rfl (by kernel_rfl) (by kernel_rfl) (by kernel_rfl) (fun _ _ _ h => h) (Or.inl ⟨by kernel_rfl, ?_⟩) HKs.out ?_
                · intro w' _; simp [go_sem]
                try simp only [Act.put, List.setIfInBounds_toArray, List.set_cons_zero, List.set_cons_succ, List.getElem_toArray, List.getElem_cons_zero, List.getElem_cons_succ]
                refine wpAnyH_take (i := 1) (v := RP Q) rfl (by kernel_rfl) (by kernel_rfl) (by kernel_rfl) (fun _ _ _ h => h) (Or.inl ⟨by kernel_rfl, ?_⟩) HKs.out ?_
                · intro w' _; simp [go_sem]
                try simp only [Act.put, List.setIfInBounds_toArray, List.set_cons_zero, List.set_cons_succ, List.getElem_toArray, List.getElem_cons_zero, List.getElem_cons_succ]
                refine wpAnyH_take (i := 2) (v := .pointer (some ⟨Q, 1, none⟩)) rfl (by kernel_rfl) (by kernel_rfl) (by kernel_rfl) (fun _ _ _ h => h) (Or.inl ⟨by kernel_rfl, ?_⟩) HKs.out ?_
                · intro w' _; simp [go_sem]
                try simp only [Act.put, List.setIfInBounds_toArray, List.set_cons_zero, List.set_cons_succ, List.getElem_toArray, List.getElem_cons_zero, List.getElem_cons_succ]
                refine wpAnyH_take (i := 3) (v := .slice (some ⟨bL, 0, none⟩) n cl) rfl (by kernel_rfl) (by kernel_rfl) (by kernel_rfl) (fun _ _ _ h => h) (Or.inl ⟨by kernel_rfl, ?_⟩) HKs.out ?_
                · intro w' hW; obtain ⟨r0, r1⟩ := H1.out w' hW; simp [go_sem, r1]
                try simp only [Act.put, List.setIfInBounds_toArray, List.set_cons_zero, List.set_cons_succ, List.getElem_toArray, List.getElem_cons_zero, List.getElem_cons_succ]
                refine wpAnyH_take (i := 4) (v := .int .i64 ((a : Int) + (m : Int))) rfl (by kernel_rfl) (by kernel_rfl) (by kernel_rfl) (fun _ _ _ h => h) (Or.inl ⟨by kernel_rfl, ?_⟩) HKs.out ?_
                · intro w' _; simp [go_sem]
                try simp only [Act.put, List.setIfInBounds_toArray, List.set_cons_zero, List.set_cons_succ, List.getElem_toArray, List.getElem_cons_zero, List.getElem_cons_succ]
                refine wpAnyH_take (i := 5) (v := RP Q) rfl (by kernel_rfl) (by kernel_rfl) (by kernel_rfl) (fun _ _ _ h => h) (Or.inl ⟨by kernel_rfl, ?_⟩) HKs.out ?_
                · intro w' _; simp [go_sem]
                try simp only [Act.put, List.setIfInBounds_toArray, List.set_cons_zero, List.set_cons_succ, List.getElem_toArray, List.getElem_cons_zero, List.getElem_cons_succ]
                refine wpAnyH_take (i := 6) (v := RP Q) rfl (by kernel_rfl) (by kernel_rfl) (by kernel_rfl) (fun _ _ _ h => h) (Or.inl ⟨by kernel_rfl, ?_⟩) HKs.out ?_
                · intro w' _; simp [go_sem]
                try simp only [Act.put, List.setIfInBounds_toArray, List.set_cons_zero, List.set_cons_succ, List.getElem_toArray, List.getElem_cons_zero, List.getElem_cons_succ]
                refine wpAnyH_take (i := 7) (v := RP Q) rfl (by kernel_rfl) (by kernel_rfl) (by kernel_rfl) (fun _ _ _ h => h) (Or.inl ⟨by kernel_rfl, ?_⟩) HKs.out ?_
                · intro w' _; simp [go_sem]
                try simp only [Act.put, List.setIfInBounds_toArray, List.set_cons_zero, List.set_cons_succ, List.getElem_toArray, List.getElem_cons_zero, List.getElem_cons_succ]
                refine wpAnyH_take (i := 8) (v := .slice ao a ca) rfl (by kernel_rfl) (by kernel_rfl) (by kernel_rfl) (fun _ _ _ h => h) (Or.inl ⟨by kernel_rfl, ?_⟩) HKs.out ?_
                · intro w' hW; obtain ⟨r0, r1⟩ := H1.out w' hW; simp [go_sem, r0]
                try simp only [Act.put, List.setIfInBounds_toArray, List.set_cons_zero, List.set_cons_succ, List.getElem_toArray, List.getElem_cons_zero, List.getElem_cons_succ]
                refine wpAnyH_take (i := 9) (v := .int .i64 (a : Int)) rfl (by kernel_rfl) (by kernel_rfl) (by kernel_rfl) (fun _ _ _ h => h) (Or.inl ⟨by kernel_rfl, ?_⟩) HKs.out ?_
                · intro w' _; simp [go_sem]
                try simp only [Act.put, List.setIfInBounds_toArray, List.set_cons_zero, List.set_cons_succ, List.getElem_toArray, List.getElem_cons_zero, List.getElem_cons_succ]
                refine wpAnyH_take (i := 10) (v := .int .i64 (m : Int)) rfl (by kernel_rfl) (by kernel_rfl) (by kernel_rfl) (fun _ _ _ h => h) (Or.inl ⟨by kernel_rfl, ?_⟩) HKs.out ?_
                · intro w' _; simp [go_sem]; rw [IntKind.wrap_i64]; omega
                try simp only [Act.put, List.setIfInBounds_toArray, List.set_cons_zero, List.set_cons_succ, List.getElem_toArray, List.getElem_cons_zero, List.getElem_cons_succ]
                refine wpAnyH_take (i := 11) (v := .pointer (some ⟨bL, m * 4, none⟩)) rfl (by kernel_rfl) (by kernel_rfl) (by kernel_rfl) (fun _ _ _ h => h) (Or.inl ⟨by kernel_rfl, ?_⟩) HKs.out ?_
                · intro w' _; simp [go_sem, e3, e4]
                try simp only [Act.put, List.setIfInBounds_toArray, List.set_cons_zero, List.set_cons_succ, List.getElem_toArray, List.getElem_cons_zero, List.getElem_cons_succ]
                refine wpAnyH_take (i := 12) (v := .pointer (some ⟨bL, m * 4, none⟩)) rfl (by kernel_rfl) (by kernel_rfl) (by kernel_rfl) (fun _ _ _ h => h) (Or.inl ⟨by kernel_rfl, ?_⟩) HKs.out ?_
                · intro w' _; simp [go_sem]
                try simp only [Act.put, List.setIfInBounds_toArray, List.set_cons_zero, List.set_cons_succ, List.getElem_toArray, List.getElem_cons_zero, List.getElem_cons_succ]
                refine wpAnyH_take (i := 13) (v := AV y1 y2) rfl (by kernel_rfl) (by kernel_rfl) (by kernel_rfl) (fun _ _ _ h => h) (Or.inl ⟨by kernel_rfl, ?_⟩) HKs.out ?_
                · intro w' hW; obtain ⟨⟨r2, r3⟩, r4, r5⟩ := HC.out w' hW; simp [go_sem, r2, r3]
                try simp only [Act.put, List.setIfInBounds_toArray, List.set_cons_zero, List.set_cons_succ, List.getElem_toArray, List.getElem_cons_zero, List.getElem_cons_succ]
                refine wpAnyH_take (i := 14) (v := RP Q) rfl (by kernel_rfl) (by kernel_rfl) (by kernel_rfl) (fun _ _ _ h => h) (Or.inl ⟨by kernel_rfl, ?_⟩) HKs.out ?_
                · intro w' _; simp [go_sem]
                try simp only [Act.put, List.setIfInBounds_toArray, List.set_cons_zero, List.set_cons_succ, List.getElem_toArray, List.getElem_cons_zero, List.getElem_cons_succ]
                refine wpAnyH_take (i := 15) (v := RP Q) rfl (by kernel_rfl) (by kernel_rfl) (by kernel_rfl) (fun _ _ _ h => h) (Or.inl ⟨by kernel_rfl, ?_⟩) HKs.out ?_
                · intro w' _; simp [go_sem]
                try simp only [Act.put, List.setIfInBounds_toArray, List.set_cons_zero, List.set_cons_succ, List.getElem_toArray, List.getElem_cons_zero, List.getElem_cons_succ]
                refine wpAnyH_take (i := 16) (v := .pointer (some ⟨Q, 1, none⟩)) rfl (by kernel_rfl) (by kernel_rfl) (by kernel_rfl) (fun _ _ _ h => h) (Or.inl ⟨by kernel_rfl, ?_⟩) HKs.out ?_
                · intro w' _; simp [go_sem]
                try simp only [Act.put, List.setIfInBounds_toArray, List.set_cons_zero, List.set_cons_succ, List.getElem_toArray, List.getElem_cons_zero, List.getElem_cons_succ]
                refine wpAnyH_take (i := 17) (v := .slice (some ⟨bL, 0, none⟩) n cl) rfl (by kernel_rfl) (by kernel_rfl) (by kernel_rfl) (fun _ _ _ h => h) (Or.inl ⟨by kernel_rfl, ?_⟩) HKs.out ?_
                · intro w' hW; obtain ⟨r0, r1⟩ := H1.out w' hW; simp [go_sem, r1]
                try simp only [Act.put, List.setIfInBounds_toArray, List.set_cons_zero, List.set_cons_succ, List.getElem_toArray, List.getElem_cons_zero, List.getElem_cons_succ]
                refine wpAnyH_take (i := 18) (v := .int .i64 ((a : Int) + (m : Int))) rfl (by kernel_rfl) (by kernel_rfl) (by kernel_rfl) (fun _ _ _ h => h) (Or.inl ⟨by kernel_rfl, ?_⟩) HKs.out ?_
                · intro w' _; simp [go_sem]
                try simp only [Act.put, List.setIfInBounds_toArray, List.set_cons_zero, List.set_cons_succ, List.getElem_toArray, List.getElem_cons_zero, List.getElem_cons_succ]
                refine wpAnyH_take (i := 19) (v := RP Q) rfl (by kernel_rfl) (by kernel_rfl) (by kernel_rfl) (fun _ _ _ h => h) (Or.inl ⟨by kernel_rfl, ?_⟩) HKs.out ?_
                · intro w' _; simp [go_sem]
                try simp only [Act.put, List.setIfInBounds_toArray, List.set_cons_zero, List.set_cons_succ, List.getElem_toArray, List.getElem_cons_zero, List.getElem_cons_succ]
                refine wpAnyH_take (i := 20) (v := RP Q) rfl (by kernel_rfl) (by kernel_rfl) (by kernel_rfl) (fun _ _ _ h => h) (Or.inl ⟨by kernel_rfl, ?_⟩) HKs.out ?_
                · intro w' _; simp [go_sem]
                try simp only [Act.put, List.setIfInBounds_toArray, List.set_cons_zero, List.set_cons_succ, List.getElem_toArray, List.getElem_cons_zero, List.getElem_cons_succ]
                refine wpAnyH_take (i := 21) (v := RP Q) rfl (by kernel_rfl) (by kernel_rfl) (by kernel_rfl) (fun _ _ _ h => h) (Or.inl ⟨by kernel_rfl, ?_⟩) HKs.out ?_
                · intro w' _; simp [go_sem]
                try simp only [Act.put, List.setIfInBounds_toArray, List.set_cons_zero, List.set_cons_succ, List.getElem_toArray, List.getElem_cons_zero, List.getElem_cons_succ]
                refine wpAnyH_take (i := 22) (v := .slice ao a ca) rfl (by kernel_rfl) (by kernel_rfl) (by kernel_rfl) (fun _ _ _ h => h) (Or.inl ⟨by kernel_rfl, ?_⟩) HKs.out ?_
                · intro w' hW; obtain ⟨r0, r1⟩ := H1.out w' hW; simp [go_sem, r0]
                try simp only [Act.put, List.setIfInBounds_toArray, List.set_cons_zero, List.set_cons_succ, List.getElem_toArray, List.getElem_cons_zero, List.getElem_cons_succ]
                refine wpAnyH_take (i := 23) (v := .int .i64 (a : Int)) rfl (by kernel_rfl) (by kernel_rfl) (by kernel_rfl) (fun _ _ _ h => h) (Or.inl ⟨by kernel_rfl, ?_⟩) HKs.out ?_
                · intro w' _; simp [go_sem]
                try simp only [Act.put, List.setIfInBounds_toArray, List.set_cons_zero, List.set_cons_succ, List.getElem_toArray, List.getElem_cons_zero, List.getElem_cons_succ]
                refine wpAnyH_take (i := 24) (v := .int .i64 (m : Int)) rfl (by kernel_rfl) (by kernel_rfl) (by kernel_rfl) (fun _ _ _ h => h) (Or.inl ⟨by kernel_rfl, ?_⟩) HKs.out ?_
                · intro w' _; simp [go_sem]; rw [IntKind.wrap_i64]; omega
                try simp only [Act.put, List.setIfInBounds_toArray, List.set_cons_zero, List.set_cons_succ, List.getElem_toArray, List.getElem_cons_zero, List.getElem_cons_succ]
                refine wpAnyH_take (i := 25) (v := .pointer (some ⟨bL, m * 4, none⟩)) rfl (by kernel_rfl) (by kernel_rfl) (by kernel_rfl) (fun _ _ _ h => h) (Or.inl ⟨by kernel_rfl, ?_⟩) HKs.out ?_
                · intro w' _; simp [go_sem, e3, e4]
                try simp only [Act.put, List.setIfInBounds_toArray, List.set_cons_zero, List.set_cons_succ, List.getElem_toArray, List.getElem_cons_zero, List.getElem_cons_succ]
                refine wpAnyH_take (i := 26) (v := .pointer (some ⟨bL, m * 4 + 2, none⟩)) rfl (by kernel_rfl) (by kernel_rfl) (by kernel_rfl) (fun _ _ _ h => h) (Or.inl ⟨by kernel_rfl, ?_⟩) HKs.out ?_
                · intro w' _; simp [go_sem]
                try simp only [Act.put, List.setIfInBounds_toArray, List.set_cons_zero, List.set_cons_succ, List.getElem_toArray, List.getElem_cons_zero, List.getElem_cons_succ]
                refine wpAnyH_take (i := 27) (v := AV x1 x2) rfl (by kernel_rfl) (by kernel_rfl) (by kernel_rfl) (fun _ _ _ h => h) (Or.inl ⟨by kernel_rfl, ?_⟩) HKs.out ?_
                · intro w' hW; obtain ⟨⟨r2, r3⟩, r4, r5⟩ := HC.out w' hW; simp [go_sem, r4, r5]
                try simp only [Act.put, List.setIfInBounds_toArray, List.set_cons_zero, List.set_cons_succ, List.getElem_toArray, List.getElem_cons_zero, List.getElem_cons_succ]
                have HK3 : Kept No W0 V3 := HK3'.out
                obtain ⟨o1, o2, o3, o4, of, og⟩ := HRs.out V3 HK3
                have HKa : Hid (Kept No w ((V3.setCell ⟨w.heap.size + 1 + 1, 0, none⟩ (.int .i64 y1)).setCell ⟨w.heap.size + 1 + 1, 1, none⟩ (.int .i64 y2))) := (((HK0.out.trans HK3).set _ 0 _ (.inr (by omega))).set _ 1 _ (.inr (by omega)))
                have HKE : Hid (Kept No w ((((V3.setCell ⟨w.heap.size + 1 + 1, 0, none⟩ (.int .i64 y1)).setCell ⟨w.heap.size + 1 + 1, 1, none⟩ (.int .i64 y2)).setCell ⟨w.heap.size + 1 + 1 + 1, 0, none⟩ (.int .i64 x1)).setCell ⟨w.heap.size + 1 + 1 + 1, 1, none⟩ (.int .i64 x2))) := (HKa.out.set _ 0 _ (.inr (by omega))).set _ 1 _ (.inr (by omega))
                clear HK3
                refine wpAnyH_ready (rs := [28]) (by kernel_rfl) (by simp) ?_
                refine AllReadyH.cons rfl (fun K hK => ?_) AllReadyH.nil
                simp [go_sem, o1, o2, o3, o4, of, og]
                refine hK.out _ _ HKa.out (fun _ => ?_)
                clear hK
                try simp only [Act.put, List.setIfInBounds_toArray, List.set_cons_zero, List.set_cons_succ, List.getElem_toArray, List.getElem_cons_zero, List.getElem_cons_succ]
                refine wpAnyH_ready (rs := [29]) (by kernel_rfl) (by simp) ?_
                refine AllReadyH.cons rfl (fun K hK => ?_) AllReadyH.nil
                simp [go_sem, o1, o2, o3, o4, of, og]
                refine hK.out _ _ HKE.out (fun _ => ?_)
                clear hK
                try simp only [Act.put, List.setIfInBounds_toArray, List.set_cons_zero, List.set_cons_succ, List.getElem_toArray, List.getElem_cons_zero, List.getElem_cons_succ]
                refine wpAnyH_take (i := 30) (v := .int .i64 0) rfl (by kernel_rfl) (by kernel_rfl) (by kernel_rfl) (fun _ _ _ h => h) (Or.inl ⟨by kernel_rfl, ?_⟩) HKE.out ?_
                · intro w' _; simp [go_sem]
                try simp only [Act.put, List.setIfInBounds_toArray, List.set_cons_zero, List.set_cons_succ, List.getElem_toArray, List.getElem_cons_zero, List.getElem_cons_succ]
                refine wpAnyH_done (by kernel_rfl) ?_ _
                clear HC c0 c1 g0 g1 g2 g3
                go_wp2
                exact bodyPost_ret (v := .tuple #[AV y1 y2, AV x1 x2, .int .i64 0]) (by simp [results, Try.results37, go_sem, o1, o2, o3, o4]) rfl ⟨by rw [HNx.out, HE.out], HKE.out⟩
          · obtain rfl : j = a + n := by omega
            have HE : Hid (E = ((0, 0), (0, 0))) := by show _ = _; rw [← HTj.out, Tl_end]; rfl
            have hcast : ((a + n : Nat) : Int) = (a : Int) + (n : Int) := by omega
            rw [hcast]
            have e1 : ¬ (a : Int) + (n : Int) < (a : Int) + (n : Int) := by omega
            clear hcast
            have HKd : Hid (∀ m, Kept No W0 (wr.drewN m)) := fun m => HK.out.drewN m
            go_wp2_with fail
            go_quiet (fail)
            generalize hm3 : World.drewN wr _ = V3
            have HK3 : Kept No W0 V3 := by rw [← hm3]; exact HKd.out _
            clear hm3
            obtain ⟨o1, o2, o3, o4, of, og⟩ := HRs.out V3 HK3
            have HKE : Hid (Kept No w ((((V3.setCell ⟨w.heap.size + 1 + 1, 0, none⟩ (.int .i64 0)).setCell ⟨w.heap.size + 1 + 1, 1, none⟩ (.int .i64 0)).setCell ⟨w.heap.size + 1 + 1 + 1, 0, none⟩ (.int .i64 0)).setCell ⟨w.heap.size + 1 + 1 + 1, 1, none⟩ (.int .i64 0))) := ((((HK0.out.trans HK3).set _ 0 _ (.inr (by omega))).set _ 1 _ (.inr (by omega))).set _ 0 _ (.inr (by omega))).set _ 1 _ (.inr (by omega))
            clear HK3 c0 c1
            go_wp2
            exact bodyPost_ret (v := .tuple #[AV 0 0, AV 0 0, .int .i64 0]) (by simp [results, Try.results37, go_sem, o1, o2, o3, o4]) rfl ⟨by rw [HNx.out, HE.out], HKE.out⟩
end Go.Proofs.Ythefmfjlinpepaa
