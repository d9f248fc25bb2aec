/- Cells that are read as an object: slices without room behind. -/
import Derived.Test.YtnmchcanijkggaaP5
namespace Go.Proofs.Ytnmchcanijkggaa
open Go.RowKit Go.Lib
set_option linter.unusedVariables false
set_option linter.unusedSimpArgs false

set_option maxHeartbeats 400000 in
theorem Read_okA (g : Hd) (X M : Nat) (zs : List Int) (b off L cap : Nat) (a d : Int) (w : World) (HC : Hid (∀ W, Below w.heap.size w W → W.cell? ⟨b, off, none⟩ = some (.int .i64 a) ∧ W.cell? ⟨b, off + 1, none⟩ = some (.int .i64 d))) (hz : 2 ≤ L)
    (HU : Hid (∀ w, Calls Try.prog 20 #[.int .i64 a, .int .i64 d] w fun e w' => e = .returned (.tuple #[AH g, .int .i64 0]) ∧ Below w.heap.size w w'))
    (HZ : Hid (∀ w, Calls Try.prog 16 #[AH g] w fun e w' => e = .returned (.int .i64 (L : Int)) ∧ Below w.heap.size w w')) (hX : g.x = (X : Int)) (hL : L = 2 + X + 2 * M) (hc : L ≤ cap) (hcm : cap ≤ 9223372036854775807)
    (hLen : zs.length = L) (hzs : SliceIs w (.slice (some ⟨b, off, none⟩) L cap) zs) (hI : Iall zs) (hm : L ≤ 100000) (hcx : cap = 2) (hX0 : X = 0) :
    Calls Try.prog 29 #[.slice (some ⟨b, off, none⟩) L cap] w fun e w' => ((allB (pairsOf (zs.drop (2 + X)) M) = true ∧ ∃ av sv, e = .returned (.tuple #[AO g av sv, .int .i64 0]) ∧ Row w' w.heap.size av ((zs.drop 2).take X) ∧ PRow w' w.heap.size sv (pairsOf (zs.drop (2 + X)) M)) ∨
      (allB (pairsOf (zs.drop (2 + X)) M) = false ∧ e = .returned (.tuple #[AO h0 (.slice none 0 0) (.slice none 0 0), .int .i64 6]))) ∧ Below w.heap.size w w' := by
  have hl : ¬ ((L : Int) < 2) := by omega
  have HQ : Hid (SliceIs w (.slice (some ⟨b, off, none⟩) L cap) zs ∧ zs.length = L ∧ Iall zs) := ⟨hzs, hLen, hI⟩
  have y1 : cap = 2 := hcx
  have y2 : cap - 2 = X := by omega
  have x1 : (0 : Int) ≤ (X : Int) := by omega
  have x2 : (X : Int) ≤ ((L - 2 : Nat) : Int) := by omega
  have x3 : (X : Int) ≤ ((cap - 2 : Nat) : Int) := by omega
  have HLx : Hid (L = 2 + X + 2 * M) := hL
  have HX : Hid (g.x = (X : Int)) := hX
  have HX0 : Hid (X = 0) := hX0
  clear hzs hLen hI hL hX hcx hX0
  go_enter Try.func29, Try.ntmps29
  go_wp2_with fail
  have hb0 := HC.out _ (((Below.refl w.heap.size w).alloc (Nat.le_refl _) Z10).alloc (by simp) Z2)
  rw [run_copy_row (P := Try.prog) ((w.alloc Z10).alloc Z2) 40 40 3 2 (w.heap.size + 1) 0 2 2 ⟨b, off, none⟩ L 2 #[.int .i64 0, .int .i64 0] 63 [.int .i64 a, .int .i64 d] Try.underlying40 (by kernel_rfl)
    (heap_z2 w) (by simp only [List.length_cons, List.length_nil]; exact (Nat.min_eq_right hz).symm)
    (by
      intro j v hj
      rcases j with _ | _ | j
      · simp at hj; subst hj; simpa [Addr.add] using hb0.1
      · simp at hj; subst hj; simpa [Addr.add] using hb0.2
      · simp at hj)
    (by simp) (by intro v hv; simp at hv; rcases hv with rfl | rfl <;> rfl)]
  clear hb0
  have F := setRow_heap ((w.alloc Z10).alloc Z2) (w.heap.size + 1) #[.int .i64 0, .int .i64 0] ((#[.int .i64 0, .int .i64 0] : Array Value).toList.take 0 ++ [Value.int .i64 a, Value.int .i64 d] ++ (#[.int .i64 0, .int .i64 0] : Array Value).toList.drop (0 + [Value.int .i64 a, .int .i64 d].length)).toArray 63 (0, 0) (heap_z2 w)
  have G : Below (w.heap.size + 1) ((w.alloc Z10).alloc Z2) (((w.alloc Z10).alloc Z2).setRow (w.heap.size + 1) ((#[.int .i64 0, .int .i64 0] : Array Value).toList.take 0 ++ [Value.int .i64 a, Value.int .i64 d] ++ (#[.int .i64 0, .int .i64 0] : Array Value).toList.drop (0 + [Value.int .i64 a, .int .i64 d].length)).toArray) :=
    ⟨rfl, rfl, rfl, by simp, fun k hk => setRow_other _ _ k _ (by omega)⟩
  generalize hW : ((w.alloc Z10).alloc Z2).setRow (w.heap.size + 1) ((#[.int .i64 0, .int .i64 0] : Array Value).toList.take 0 ++ [Value.int .i64 a, Value.int .i64 d] ++ (#[.int .i64 0, .int .i64 0] : Array Value).toList.drop (0 + [Value.int .i64 a, .int .i64 d].length)).toArray = W2 at F G ⊢
  clear hW
  have HR2 : Hid (W2.heap[w.heap.size]? = some Z10) := by show _ = _; rw [G.block w.heap.size (by omega)]; exact heap_z10 w
  have HB2 : Hid (Below w.heap.size w W2) := (((Below.refl _ _).alloc (Nat.le_refl _) Z10).alloc (by simp) Z2).trans (G.mono (by omega))
  have hz2 : w.heap.size + 1 < W2.heap.size := (Array.getElem?_eq_some_iff.1 F).1
  have a0 : W2.cell? ⟨w.heap.size + 1, 0, none⟩ = some (.int .i64 a) := by rw [cell_of_row _ _ _ _ _ _ F]; rfl
  have a1 : W2.cell? ⟨w.heap.size + 1, 1, none⟩ = some (.int .i64 d) := by rw [cell_of_row _ _ _ _ _ _ F]; rfl
  clear F G
  go_wp2_with fail
  refine (HU.out _).mono ?_
  rintro e w3 ⟨rfl, hb3⟩
  have HR3 : Hid (w3.heap[w.heap.size]? = some Z10) := by show _ = _; rw [hb3.block w.heap.size (by omega)]; exact HR2.out
  have HB3 : Hid (Below w.heap.size w w3) := HB2.out.trans (hb3.mono (by omega))
  have hz3 : w.heap.size + 1 < w3.heap.size := by have := hb3.size; omega
  have hz3' : w.heap.size < w3.heap.size := by omega
  clear hb3 HR2 HB2 hz2 a0 a1
  clear HU
  go_wp2_with fail
  refine (HZ.out _).mono ?_
  rintro e w4 ⟨rfl, hb4⟩
  have HR4 : Hid (w4.heap[w.heap.size]? = some Z10) := by show _ = _; rw [hb4.block w.heap.size (by simp; omega), ((Below.refl w3.heap.size w3).alloc (Nat.le_refl _) _).block w.heap.size hz3']; exact HR3.out
  have HB4 : Hid (Below w.heap.size w w4) := (HB3.out.alloc (by omega) _).trans (hb4.mono (by simp; omega))
  have hz4' : w.heap.size < w4.heap.size := by have := hb4.size; simp at this; omega
  have hz4 : w3.heap.size < w4.heap.size := by have := hb4.size; simp at this; omega
  have HH4 : Hid (SeenH8 w3.heap.size g w4) := by
    refine ⟨?_, ?_, ?_, ?_, ?_, ?_, ?_, ?_⟩
    all_goals exact cell_later hb4 (by rw [World.cell?_alloc_at _ _ _ _ rfl]; rfl)
  clear hb4 HR3 HB3 HZ
  obtain ⟨q0, q1, q2, q3, q4, q5, q6, q7⟩ := HH4.out
  rw [HX.out] at q6
  go_wp2_with fail
  all_goals (
    refine (readSlots_any _ (zs.drop (2 + X)) M w4 (sub_slice (HQ.out.1.later HB4.out) HQ.out.2.1 HLx.out (by have := HLx.out; omega)) (by rw [List.length_drop, HQ.out.2.1, HLx.out]; omega) (by rw [List.length_drop, HQ.out.2.1]; omega) (fun z hz => HQ.out.2.2 z (List.mem_of_mem_drop hz))).mono ?_
    rintro e w5 ⟨hres, hb5⟩
    have HR5 : Hid (w5.heap[w.heap.size]? = some Z10) := by show _ = _; rw [hb5.block w.heap.size hz4']; exact HR4.out
    have HB5 : Hid (Below w.heap.size w w5) := HB4.out.trans (hb5.mono (by omega))
    have hz5' : w.heap.size < w5.heap.size := by have := hb5.size; omega
    have hz5 : w3.heap.size < w5.heap.size := by have := hb5.size; omega
    have HH5 : Hid (SeenH8 w3.heap.size g w5) := seenH8_keep HH4.out hb5
    have hb45 : w4.heap.size ≤ w5.heap.size := hb5.size
    clear hb5 q0 q1 q2 q3 q4 q5 q6 q7
    rcases hres with ⟨hall, u, rfl, hrow⟩ | ⟨hall, rfl⟩
    · have HP : Hid (PRow w5 w4.heap.size u (pairsOf (zs.drop (2 + X)) M) ∧ allB (pairsOf (zs.drop (2 + X)) M) = true) := ⟨hrow, hall⟩
      obtain ⟨uo, uc, hu⟩ := (PRow.pairs hrow).form
      generalize (pairsOf (zs.drop (2 + X)) M).length = un at hu
      subst hu
      clear hall hrow
      obtain ⟨q0, q1, q2, q3, q4, q5, q6, q7⟩ := HH5.out
      rw [HX.out] at q6
      have HA : Hid (∀ O C : Nat, (O = off + 2 ∨ X = 0) → SliceIs w5.drew (.slice (some ⟨b, O, none⟩) X C) ((zs.drop 2).take X)) := fun O C hO => pre_slice (HQ.out.1.later HB5.out.drew) HQ.out.2.1 HLx.out hO
      have hNR : w3.heap.size ≠ w.heap.size := by omega
      have HS5 : Hid (w5.drew.cell? ⟨w3.heap.size, 0, none⟩ = some (.int .i64 g.k) ∧ w5.drew.cell? ⟨w3.heap.size, 1, none⟩ = some (.int .i64 g.c) ∧ w5.drew.cell? ⟨w3.heap.size, 2, none⟩ = some (.int .i64 g.a) ∧ w5.drew.cell? ⟨w3.heap.size, 3, none⟩ = some (.int .i64 g.w) ∧ w5.drew.cell? ⟨w3.heap.size, 4, none⟩ = some (.int .i64 g.s) ∧ w5.drew.cell? ⟨w3.heap.size, 5, none⟩ = some (.int .i64 g.f) ∧ w5.drew.cell? ⟨w3.heap.size, 6, none⟩ = some (.int .i64 (X : Int)) ∧ w5.drew.cell? ⟨w3.heap.size, 7, none⟩ = some (.int .i64 g.l)) := ⟨q0, q1, q2, q3, q4, q5, q6, q7⟩
      have HAl : Hid (((zs.drop 2).take X).length ≤ 100000) := by show _ ≤ _; rw [List.length_take]; omega
      go_wp2_with fail
      clear q0 q1 q2 q3 q4 q5 q6 q7
      refine wp_region_held (S := fun w' => w'.cell? ⟨w3.heap.size, 0, none⟩ = some (.int .i64 g.k) ∧ w'.cell? ⟨w3.heap.size, 1, none⟩ = some (.int .i64 g.c) ∧ w'.cell? ⟨w3.heap.size, 2, none⟩ = some (.int .i64 g.a) ∧ w'.cell? ⟨w3.heap.size, 3, none⟩ = some (.int .i64 g.w) ∧ w'.cell? ⟨w3.heap.size, 4, none⟩ = some (.int .i64 g.s) ∧ w'.cell? ⟨w3.heap.size, 5, none⟩ = some (.int .i64 g.f) ∧ w'.cell? ⟨w3.heap.size, 6, none⟩ = some (.int .i64 (X : Int)) ∧ w'.cell? ⟨w3.heap.size, 7, none⟩ = some (.int .i64 g.l)) (by kernel_rfl) ?_
      refine wpAnyH_take (i := 0) (v := .agg #[.int .i64 g.k, .int .i64 g.c, .int .i64 g.a, .int .i64 g.w, .int .i64 g.s, .int .i64 g.f, .int .i64 (X : Int), .int .i64 g.l]) rfl (by kernel_rfl) (by kernel_rfl) (by kernel_rfl) (fun _ _ _ h => h) (Or.inl ⟨by kernel_rfl, ?_⟩) HS5.out ?_
      · rintro w' ⟨r0, r1, r2, r3, r4, r5, r6, r7⟩; simp [go_sem, r0, r1, r2, r3, r4, r5, r6, r7]
      simp only [Act.put, List.setIfInBounds_toArray, List.set_cons_zero, List.set_cons_succ, List.getElem_toArray, List.getElem_cons_zero, List.getElem_cons_succ]
      refine wpAnyH_take (i := 1) (v := .slice (some ⟨b, off, none⟩) (L - 2) 0) rfl (by kernel_rfl) (by kernel_rfl) (by kernel_rfl) (fun _ _ _ h => h) (Or.inl ⟨by kernel_rfl, ?_⟩) HS5.out ?_
      · intro w' _; rfl
      simp only [Act.put, List.setIfInBounds_toArray, List.set_cons_zero, List.set_cons_succ, List.getElem_toArray, List.getElem_cons_zero, List.getElem_cons_succ]
      refine wpAnyH_take (i := 2) (v := .pointer (some ⟨w3.heap.size, 6, none⟩)) rfl (by kernel_rfl) (by kernel_rfl) (by kernel_rfl) (fun _ _ _ h => h) (Or.inl ⟨by kernel_rfl, ?_⟩) HS5.out ?_
      · intro w' _; simp [go_sem]
      simp only [Act.put, List.setIfInBounds_toArray, List.set_cons_zero, List.set_cons_succ, List.getElem_toArray, List.getElem_cons_zero, List.getElem_cons_succ]
      refine wpAnyH_take (i := 3) (v := .int .i64 (X : Int)) rfl (by kernel_rfl) (by kernel_rfl) (by kernel_rfl) (fun _ _ _ h => h) (Or.inl ⟨by kernel_rfl, ?_⟩) HS5.out ?_
      · rintro w' ⟨r0, r1, r2, r3, r4, r5, r6, r7⟩; simp [go_sem, r6]
      simp only [Act.put, List.setIfInBounds_toArray, List.set_cons_zero, List.set_cons_succ, List.getElem_toArray, List.getElem_cons_zero, List.getElem_cons_succ]
      refine wpAnyH_take (i := 4) (v := .slice (some ⟨b, off, none⟩) X 0) rfl (by kernel_rfl) (by kernel_rfl) (by kernel_rfl) (fun _ _ _ h => h) (Or.inl ⟨by kernel_rfl, ?_⟩) HS5.out ?_
      · intro w' _; obtain rfl : X = 0 := HX0.out; simp [go_sem]
      simp only [Act.put, List.setIfInBounds_toArray, List.set_cons_zero, List.set_cons_succ, List.getElem_toArray, List.getElem_cons_zero, List.getElem_cons_succ]
      refine wpAnyH_take (i := 6) (v := .slice uo un uc) rfl (by kernel_rfl) (by kernel_rfl) (by kernel_rfl) (fun _ _ _ h => h) (Or.inl ⟨by kernel_rfl, ?_⟩) HS5.out ?_
      · intro w' _; rfl
      simp only [Act.put, List.setIfInBounds_toArray, List.set_cons_zero, List.set_cons_succ, List.getElem_toArray, List.getElem_cons_zero, List.getElem_cons_succ]
      refine wpAnyH_ready (rs := [5]) (by kernel_rfl) (by simp) ?_
      refine AllReadyH.cons rfl (fun K hK => ?_) AllReadyH.nil
      go_simp
      refine (Clone_any _ _ _ (HA.out _ _ (Or.inr HX0.out)) HAl.out).mono ?_
      rintro e w6 ⟨⟨av, rfl, hrow6⟩, hb6⟩
      obtain ⟨vo, vc, hav⟩ := (Row.slice hrow6).form
      generalize ((zs.drop 2).take X).length = vn at hav
      subst hav
      have HO6 : Hid (Row w6 w5.heap.size (.slice vo vn vc) ((zs.drop 2).take X)) := hrow6
      have HB56 : Hid (Below w5.heap.size w5 w6) := ((Below.refl _ _).drew).trans hb6
      have HS6 : Hid (w6.cell? ⟨w3.heap.size, 0, none⟩ = some (.int .i64 g.k) ∧ w6.cell? ⟨w3.heap.size, 1, none⟩ = some (.int .i64 g.c) ∧ w6.cell? ⟨w3.heap.size, 2, none⟩ = some (.int .i64 g.a) ∧ w6.cell? ⟨w3.heap.size, 3, none⟩ = some (.int .i64 g.w) ∧ w6.cell? ⟨w3.heap.size, 4, none⟩ = some (.int .i64 g.s) ∧ w6.cell? ⟨w3.heap.size, 5, none⟩ = some (.int .i64 g.f) ∧ w6.cell? ⟨w3.heap.size, 6, none⟩ = some (.int .i64 (X : Int)) ∧ w6.cell? ⟨w3.heap.size, 7, none⟩ = some (.int .i64 g.l)) := ⟨cell_later HB56.out HS5.out.1, cell_later HB56.out HS5.out.2.1, cell_later HB56.out HS5.out.2.2.1, cell_later HB56.out HS5.out.2.2.2.1, cell_later HB56.out HS5.out.2.2.2.2.1, cell_later HB56.out HS5.out.2.2.2.2.2.1, cell_later HB56.out HS5.out.2.2.2.2.2.2.1, cell_later HB56.out HS5.out.2.2.2.2.2.2.2⟩
      have HR6 : Hid (w6.heap[w.heap.size]? = some Z10) := (HB56.out.block w.heap.size hz5').trans HR5.out
      have hz6' : w.heap.size < w6.heap.size := Nat.lt_of_lt_of_le hz5' HB56.out.size
      clear hrow6 hb6
      refine hK.out _ _ HS6.out (fun _ => ?_)
      clear hK
      try simp only [Act.put, List.setIfInBounds_toArray, List.set_cons_zero, List.set_cons_succ, List.getElem_toArray, List.getElem_cons_zero, List.getElem_cons_succ]
      refine wpAnyH_take (i := 7) (v := .agg #[.int .i64 g.k, .int .i64 g.c, .int .i64 g.a, .int .i64 g.w, .int .i64 g.s, .int .i64 g.f, .int .i64 (X : Int), .int .i64 g.l, .slice vo vn vc, .slice uo un uc]) rfl (by kernel_rfl) (by kernel_rfl) (by kernel_rfl) (fun _ _ _ h => h) (Or.inl ⟨by kernel_rfl, ?_⟩) HS6.out ?_
      · intro w' _; simp [go_sem]
      simp only [Act.put, List.setIfInBounds_toArray, List.set_cons_zero, List.set_cons_succ, List.getElem_toArray, List.getElem_cons_zero, List.getElem_cons_succ]
      obtain ⟨⟨z0, z1, z2, z3, z4, z5, z6, z7, z8, z9⟩, fz⟩ := z10_cells HR6.out
      refine wpAnyH_ready (rs := [8]) (by kernel_rfl) (by simp) ?_
      refine AllReadyH.cons rfl (fun K hK => ?_) AllReadyH.nil
      go_simp
      refine hK.out _ _ ⟨cell_set10 HS6.out.1 hNR _ _ _ _ _ _ _ _ _ _, cell_set10 HS6.out.2.1 hNR _ _ _ _ _ _ _ _ _ _, cell_set10 HS6.out.2.2.1 hNR _ _ _ _ _ _ _ _ _ _, cell_set10 HS6.out.2.2.2.1 hNR _ _ _ _ _ _ _ _ _ _, cell_set10 HS6.out.2.2.2.2.1 hNR _ _ _ _ _ _ _ _ _ _, cell_set10 HS6.out.2.2.2.2.2.1 hNR _ _ _ _ _ _ _ _ _ _, cell_set10 HS6.out.2.2.2.2.2.2.1 hNR _ _ _ _ _ _ _ _ _ _, cell_set10 HS6.out.2.2.2.2.2.2.2 hNR _ _ _ _ _ _ _ _ _ _⟩ (fun hS7 => ?_)
      clear hK
      try simp only [Act.put, List.setIfInBounds_toArray, List.set_cons_zero, List.set_cons_succ, List.getElem_toArray, List.getElem_cons_zero, List.getElem_cons_succ]
      refine wpAnyH_take (i := 9) (v := .int .i64 0) rfl (by kernel_rfl) (by kernel_rfl) (by kernel_rfl) (fun _ _ _ h => h) (Or.inl ⟨by kernel_rfl, ?_⟩) hS7 ?_
      · intro w' _; rfl
      try simp only [Act.put, List.setIfInBounds_toArray, List.set_cons_zero, List.set_cons_succ, List.getElem_toArray, List.getElem_cons_zero, List.getElem_cons_succ]
      clear hS7
      refine wpAnyH_done (by kernel_rfl) ?_ _
      go_wp2
      exact bodyPost_ret (v := .tuple #[.agg #[.int .i64 g.k, .int .i64 g.c, .int .i64 g.a, .int .i64 g.w, .int .i64 g.s, .int .i64 g.f, .int .i64 (X : Int), .int .i64 g.l, .slice vo vn vc, .slice uo un uc], .int .i64 0]) (by simp [results, Try.results29, go_sem, z0, z1, z2, z3, z4, z5, z6, z7, z8, z9]) rfl
        ⟨Or.inl ⟨HP.out.2, _, _, by rw [← HX.out], Row.mono (set10_row HO6.out hz5' _ _ _ _ _ _ _ _ _ _) (by omega), PRow.mono (set10_row (World.ownsRow.below HP.out.1 HB56.out) hz4' _ _ _ _ _ _ _ _ _ _) (by omega)⟩, set10_below (HB5.out.trans (HB56.out.mono (by omega))) (Nat.le_refl _) _ _ _ _ _ _ _ _ _ _⟩
    · obtain ⟨⟨z0, z1, z2, z3, z4, z5, z6, z7, z8, z9⟩, fz⟩ := z10_cells HR5.out
      have HA : Hid (allB (pairsOf (zs.drop (2 + X)) M) = false) := hall
      clear hall
      go_wp2
      exact bodyPost_ret (v := .tuple #[AO h0 (.slice none 0 0) (.slice none 0 0), .int .i64 6]) (by simp [results, Try.results29, go_sem, z0, z1, z2, z3, z4, z5, z6, z7, z8, z9, h0]) rfl ⟨Or.inr ⟨HA.out, rfl⟩, set10_below HB5.out (Nat.le_refl _) _ _ _ _ _ _ _ _ _ _⟩)
end Go.Proofs.Ytnmchcanijkggaa
