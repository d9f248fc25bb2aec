/- find, on a key's way. -/
import Derived.Test.YthefmfjlinpepaaF2
namespace Go.Proofs.Ythefmfjlinpepaa
open Go.RowKit Go.Shelf
set_option linter.unusedSimpArgs false
set_option linter.unusedVariables false
attribute [local go_sem] Oper.semAt_some

theorem way_le (a n : Nat) (k : Int × Int) (j : Nat) (hj : j < n) : wayN a n k j ≤ a + 2 * n := by
  unfold wayN
  have := Nat.mod_lt (fst0 n k + j) (show 0 < n by omega)
  omega

theorem ret_cells {W : World} {D S : Nat} {r : Int × Bool} (hD : S + 1 + 1 + 1 < D) (h1 : W.heap[S + 1 + 1]? = some (.cells #[.int .i64 r.1] 3 (0, 0))) (h2 : W.heap[S + 1 + 1 + 1]? = some (.cells #[.bool r.2] 4 (0, 0))) (o : Obj) :
    (W.putObj D o).cell? ⟨S + 1 + 1, 0, none⟩ = some (.int .i64 r.1) ∧ (W.putObj D o).cell? ⟨S + 1 + 1 + 1, 0, none⟩ = some (.bool r.2) := by
  have e1 := (World.putObj_heap_other (w := W) (o := o) (show S + 1 + 1 ≠ D by omega)).trans h1
  have e2 := (World.putObj_heap_other (w := W) (o := o) (show S + 1 + 1 + 1 ≠ D by omega)).trans h2
  exact ⟨by rw [cell_of e1]; rfl, by rw [cell_of e2]; rfl⟩

theorem Kept.putObj {S : Nat → Prop} {a w : World} (h : Kept S a w) {D : Nat} (o : Obj) (hD : a.heap.size ≤ D) : Kept S a (w.putObj D o) :=
  h.grown (grownBy_putObj' w D o) (fun k e => by cases e; exact .inr hD)

set_option maxRecDepth 100000 in
set_option maxHeartbeats 4000000 in
theorem find_wayA {w : World} {P : Nat} {most : Int} {a n nn : Nat} {sl : Sl} (h : Tb w P most a n nn sl) (t x : Int) (g1 : (t == 2) = false) :
    Calls Try.prog 43 #[MI P, AV t x] w fun e w' => e = .returned (.tuple #[.int .i64 (fnd a n sl (t, x) n 0).1, .bool (fnd a n sl (t, x) n 0).2]) ∧ Kept No w w' := by
  have hb := h.bd
  have hmA := mArray P
  have hmS := mSlot P
  obtain ⟨W, HW⟩ : ∃ W, Hid (W = (((w.alloc (.cells #[MI P] 81)).alloc (.cells #[.int .i64 t, .int .i64 x] 33)).alloc (.cells #[.int .i64 0] 3)).alloc (.cells #[.bool false] 4)) := ⟨_, rfl⟩
  have HK : Hid (Kept No w W) := by show Kept _ _ _; rw [HW.out]; exact ((((Kept.refl _ _).alloc _).alloc _).alloc _).alloc _
  have HZ : Hid (W.heap.size = w.heap.size + 4) := by show _ = _; rw [HW.out]; simp
  have HT : Hid (∀ m, Calls Try.prog 25 #[MP P] (W.drewN m) fun e w' => e = .returned (.int .i64 a) ∧ W.drewN m = w') := fun m => Array_any (h.no (HK.out.drewN m))
  have HTb : Hid (Tb w P most a n nn sl) := h
  have hlt := h.lt
  clear h
  have B0 : W.heap[w.heap.size]? = some (.cells #[MI P] 81 (0, 0)) := by rw [HW.out]; exact heap_old (heap_old (heap_old (heap_new1 w _) _) _) _
  have B1 : W.heap[w.heap.size + 1]? = some (.cells #[.int .i64 t, .int .i64 x] 33 (0, 0)) := by
    rw [HW.out]; have := heap_new1 (w.alloc (.cells #[MI P] 81)) (.cells #[.int .i64 t, .int .i64 x] 33); rw [World.size_alloc] at this; exact heap_old (heap_old this _) _
  have B2 : W.heap[w.heap.size + 1 + 1]? = some (.cells #[.int .i64 0] 3 (0, 0)) := by
    rw [HW.out]; have := heap_new1 ((w.alloc (.cells #[MI P] 81)).alloc (.cells #[.int .i64 t, .int .i64 x] 33)) (.cells #[.int .i64 0] 3); simp only [World.size_alloc] at this; exact heap_old this _
  have B3 : W.heap[w.heap.size + 1 + 1 + 1]? = some (.cells #[.bool false] 4 (0, 0)) := by
    rw [HW.out]; have := heap_new1 (((w.alloc (.cells #[MI P] 81)).alloc (.cells #[.int .i64 t, .int .i64 x] 33)).alloc (.cells #[.int .i64 0] 3)) (.cells #[.bool false] 4); simp only [World.size_alloc] at this; exact this
  have c0 : W.cell? ⟨w.heap.size, 0, none⟩ = some (MI P) := by rw [cell_of B0]; rfl
  have c1 : W.cell? ⟨w.heap.size + 1, 0, none⟩ = some (.int .i64 t) := by rw [cell_of B1]; rfl
  have c2 : W.cell? ⟨w.heap.size + 1, 1, none⟩ = some (.int .i64 x) := by rw [cell_of B1]; rfl
  have HB : Hid (W.heap[w.heap.size]? = some (.cells #[MI P] 81 (0, 0)) ∧ W.heap[w.heap.size + 1]? = some (.cells #[.int .i64 t, .int .i64 x] 33 (0, 0)) ∧ W.heap[w.heap.size + 1 + 1]? = some (.cells #[.int .i64 0] 3 (0, 0)) ∧ W.heap[w.heap.size + 1 + 1 + 1]? = some (.cells #[.bool false] 4 (0, 0))) := ⟨B0, B1, B2, B3⟩
  clear B0 B1 B2 B3
  refine (callsIn_wide (n := 6)).1 ?_
  refine callsIn_of_wp_marks Try.func43 rfl trivial ?_ rfl
  simp only [Try.ntmps43, List.size_toArray, List.length_cons, List.length_nil, Nat.reduceAdd, Nat.reduceSub, Array.replicate_succ, Array.replicate_zero, List.push_toArray, List.append_toArray, List.nil_append, List.cons_append]
  gi_wp2
  rw [← HW.out]
  clear HW
  refine wpIn_wide.2 ?_
  go_quiet (first | (go_at_call 25; exact quiet_same (HT.out _)))
  obtain ⟨W1, HW1⟩ : ∃ W1, Hid (W1 = W.drewN nq) := ⟨_, rfl⟩
  have d0 : W1.cell? ⟨w.heap.size, 0, none⟩ = some (MI P) := by rw [HW1.out]; exact c0
  have d1 : W1.cell? ⟨w.heap.size + 1, 0, none⟩ = some (.int .i64 t) := by rw [HW1.out]; exact c1
  have d2 : W1.cell? ⟨w.heap.size + 1, 1, none⟩ = some (.int .i64 x) := by rw [HW1.out]; exact c2
  have HK1 : Hid (Kept No w W1 ∧ W1.heap = W.heap) := ⟨by rw [HW1.out]; exact HK.out.drewN nq, by rw [HW1.out]; rfl⟩
  rw [← HW1.out]
  clear HW1
  gi_wp2_with (refine ⟨trivial, ?_⟩; gi_at_call 72; refine (callsIn_wide.2 (way_any _ _ rfl t x _ rfl)).mono ?_; rintro e w' ⟨rfl, rfl⟩)
  obtain ⟨W2, HW2⟩ : ∃ W2, Hid (W2 = (W1.alloc (.cells #[MI P] 81)).alloc (.cells #[.int .i64 t, .int .i64 x] 33)) := ⟨_, rfl⟩
  have HZ2 : Hid (W2.heap.size = w.heap.size + 6 ∧ W1.heap.size = w.heap.size + 4) := by
    have e1 : W1.heap.size = w.heap.size + 4 := by rw [HK1.out.2]; exact HZ.out
    exact ⟨by rw [HW2.out]; simp [e1], e1⟩
  have HK2 : Hid (Kept No w W2) := by show Kept _ _ _; rw [HW2.out]; exact (HK1.out.1.alloc _).alloc _
  have K12 : Hid (Kept No W1 W2) := by show Kept _ _ _; rw [HW2.out]; exact ((Kept.refl _ _).alloc _).alloc _
  have D0 : Hid (W2.heap[W1.heap.size]? = some (.cells #[MI P] 81 (0, 0)) ∧ W2.heap[W1.heap.size + 1]? = some (.cells #[.int .i64 t, .int .i64 x] 33 (0, 0))) := by
    refine ⟨?_, ?_⟩
    · rw [HW2.out]; exact heap_old (heap_new1 W1 _) _
    · rw [HW2.out]; have := heap_new1 (W1.alloc (.cells #[MI P] 81)) (.cells #[.int .i64 t, .int .i64 x] 33); rw [World.size_alloc] at this; exact this
  have HB1 : Hid (W1.heap[w.heap.size]? = some (.cells #[MI P] 81 (0, 0)) ∧ W1.heap[w.heap.size + 1]? = some (.cells #[.int .i64 t, .int .i64 x] 33 (0, 0)) ∧ W1.heap[w.heap.size + 1 + 1]? = some (.cells #[.int .i64 0] 3 (0, 0)) ∧ W1.heap[w.heap.size + 1 + 1 + 1]? = some (.cells #[.bool false] 4 (0, 0))) := by
    have := HB.out; rw [← HK1.out.2] at this; exact this
  rw [← HW2.out]
  clear HW2 d0 d1 d2 c0 c1 c2 HB HT
  refine range_one (by decide) rfl (enters_of Try.func82 (by kernel_rfl) rfl) n (fun j => .int .i64 (wayN a n (t, x) j : Nat)) (FI w P most a n nn sl (t, x) w.heap.size W1.heap.size (W1.heap.size + 1)) (fun _ => FX w w.heap.size (fnd a n sl (t, x) n 0))
    (fun k W W' h hl => h.loose HTb.out (by rw [HZ2.out.1]; omega) hl) (fun k W W' h hl => h.loose (by rw [HZ2.out.1]; omega) hl) ?h0 (way_rounds _ P most a n nn sl _ _ (t, x) _ (fun j W h => h.way)) ?mk ?assign ?body ?done ?stop
  case h0 => exact ⟨⟨HTb.out.no HK2.out, D0.out.1, D0.out.2⟩, K12.out.heap HB1.out.1 id, K12.out.heap HB1.out.2.1 id, K12.out.heap HB1.out.2.2.1 id, K12.out.heap HB1.out.2.2.2 id, HK2.out, fun i hi => absurd hi (by omega)⟩
  case assign =>
    intro l' x' W' K hK
    gi_wp2
    exact hK
  case body =>
    intro l' j W' hI hj
    have HI : Hid (FI w P most a n nn sl (t, x) w.heap.size W1.heap.size (W1.heap.size + 1) j W') := hI
    have e0 : W'.cell? ⟨w.heap.size, 0, none⟩ = some (MI P) := by rw [cell_of hI.fs]; rfl
    have HS : Hid (Calls Try.prog 27 #[MP P, .int .i64 (wayN a n (t, x) j : Nat)] W' fun e w' => e = .returned (iV (sl (wayN a n (t, x) j : Nat))) ∧ Below W'.heap.size W' w') := Slot_any hI.way.tb _ (wf_of (by omega) (by have := way_le a n (t, x) j hj; omega))
    have HFn : Hid (fnd a n sl (t, x) n 0 = fnd a n sl (t, x) (n - j - 1 + 1) j) := by show _ = _; rw [fnd_at j (by omega) hI.ps, show n - j - 1 + 1 = n - j by omega]
    have HPs := @passed_succ a n sl (t, x) j hI.ps
    have hwl := way_le a n (t, x) j hj
    simp only [fnd] at HFn
    have HPs2 : Hid (sl (wayN a n (t, x) j : Nat) ≠ (t, x) → (sl (wayN a n (t, x) j : Nat)).1 ≠ 0 → passed a n sl (t, x) (j + 1)) := HPs
    clear hI HPs
    generalize wayN a n (t, x) j = at' at HS HFn HPs2 hwl ⊢
    obtain ⟨y, Hy⟩ : ∃ y, Hid (sl (at' : Int) = y) := ⟨_, show _ = _ from rfl⟩
    rw [Hy.out] at HS HPs2 HFn
    obtain ⟨y1, y2⟩ := y
    have he := eq33 y1 y2 t x
    have hg := guard33
    gi_wp2_with fail
    refine ⟨trivial, ?_⟩
    gi_at_call 27
    refine (CallsIn.inRound l' (callsIn_wide.2 HS.out)).mono ?_
    rintro e W3 ⟨rfl, hb3⟩
    have hI3 : FI w P most a n nn sl (t, x) w.heap.size W1.heap.size (W1.heap.size + 1) j W3 := HI.out.loose HTb.out (B := W2.heap.size) (by rw [HZ2.out.1]; omega) (Loose.of_below hb3)
    have i0 : W3.cell? ⟨w.heap.size + 1, 0, none⟩ = some (.int .i64 t) := by rw [cell_of hI3.fk]; rfl
    have i1 : W3.cell? ⟨w.heap.size + 1, 1, none⟩ = some (.int .i64 x) := by rw [cell_of hI3.fk]; rfl
    have hz3 : w.heap.size + 6 ≤ W3.heap.size := by have h1 := hp_lt hI3.way.bk; have h2 := HZ2.out.2; omega
    have HI3 : Hid (FI w P most a n nn sl (t, x) w.heap.size W1.heap.size (W1.heap.size + 1) j W3) := hI3
    have Hb3 : Hid (Below W'.heap.size W' W3) := hb3
    clear hI3 hb3 HI e0
    have j0 : (W3.alloc (.cells #[.int .i64 y1, .int .i64 y2] 33)).cell? ⟨w.heap.size + 1, 0, none⟩ = some (.int .i64 t) := by rw [cell_of (heap_old HI3.out.fk _)]; rfl
    have j1 : (W3.alloc (.cells #[.int .i64 y1, .int .i64 y2] 33)).cell? ⟨w.heap.size + 1, 1, none⟩ = some (.int .i64 x) := by rw [cell_of (heap_old HI3.out.fk _)]; rfl
    have j2 : (W3.alloc (.cells #[.int .i64 y1, .int .i64 y2] 33)).cell? ⟨w.heap.size + 1 + 1, 0, none⟩ = some (.int .i64 0) := by rw [cell_of (heap_old HI3.out.ra _)]; rfl
    have j3 : (W3.alloc (.cells #[.int .i64 y1, .int .i64 y2] 33)).cell? ⟨w.heap.size + 1 + 1 + 1, 0, none⟩ = some (.bool false) := by rw [cell_of (heap_old HI3.out.rt _)]; rfl
    have f2 : ∀ o, (W3.alloc (.cells #[.int .i64 y1, .int .i64 y2] 33)).frozen? ⟨w.heap.size + 1 + 1, o, none⟩ = false := frozen_of (heap_old HI3.out.ra _)
    have f3 : ∀ o, (W3.alloc (.cells #[.int .i64 y1, .int .i64 y2] 33)).frozen? ⟨w.heap.size + 1 + 1 + 1, o, none⟩ = false := frozen_of (heap_old HI3.out.rt _)
    have HV : Hid (∀ u v : Value, Still W2.heap.size W' (((W3.alloc (.cells #[.int .i64 y1, .int .i64 y2] 33)).setCell ⟨w.heap.size + 1 + 1, 0, none⟩ u).setCell ⟨w.heap.size + 1 + 1 + 1, 0, none⟩ v)) := fun u v =>
      Still.of_kept (S := fun k => k = w.heap.size + 1 + 1 ∨ k = w.heap.size + 1 + 1 + 1) (((((Kept.of_below Hb3.out).no).alloc _).set _ 0 _ (.inl (.inl rfl))).set _ 0 _ (.inl (.inr rfl))) (fun k hk => .inl (by have := HZ2.out.1; omega))
    have HXV : Hid (∀ (u : Int) (v : Bool), FX w w.heap.size (u, v) (((W3.alloc (.cells #[.int .i64 y1, .int .i64 y2] 33)).setCell ⟨w.heap.size + 1 + 1, 0, none⟩ (.int .i64 u)).setCell ⟨w.heap.size + 1 + 1 + 1, 0, none⟩ (.bool v))) := fun u v =>
      ⟨hp_set_other (hp_set_same (heap_old HI3.out.ra _) 0 _) 0 _ (by omega), hp_set_same (hp_set_other (heap_old HI3.out.rt _) 0 _ (by omega)) 0 _, ((HI3.out.kp.alloc _).set _ 0 _ (.inr (by omega))).set _ 0 _ (.inr (by omega))⟩
    clear i0 i1
    by_cases hq : (y1, y2) = (t, x)
    · have hd : decide ((y1, y2) = (t, x)) = true := by simpa using hq
      rw [hd] at he
      obtain ⟨q1, q2⟩ : y1 = t ∧ y2 = x := by simpa using hq
      clear hq hd
      subst q1; subst q2
      have Hf : Hid (fnd a n sl (y1, y2) n 0 = ((at' : Int) + 1, true)) := by show _ = _; rw [HFn.out]; simp
      clear HFn HPs2
      gi_wp2_with fail
      refine ⟨HV.out _ _, ?_⟩
      rw [Hf.out]
      exact HXV.out _ _
    · have hd : decide ((y1, y2) = (t, x)) = false := by simpa using hq
      rw [hd] at he
      gi_wp2_with fail
      refine ⟨trivial, ?_⟩
      gi_at_call 50
      refine (CallsIn.inRound l' (callsIn_wide.2 (isNil_any y1 y2 _))).mono ?_
      rintro e W4 ⟨rfl, hb4⟩
      have hI4 : FI w P most a n nn sl (t, x) w.heap.size W1.heap.size (W1.heap.size + 1) j W4 := (HI3.out.loose HTb.out (B := W2.heap.size) (by rw [HZ2.out.1]; omega) (Loose.alloc _ _ _)).loose HTb.out (B := W2.heap.size) (by rw [HZ2.out.1]; omega) (Loose.of_below hb4)
      have HK4 : Hid (Kept No W' W4) := (((Kept.of_below Hb3.out)).alloc _).trans (Kept.of_below hb4)
      have m2 : W4.cell? ⟨w.heap.size + 1 + 1, 0, none⟩ = some (.int .i64 0) := by rw [cell_of hI4.ra]; rfl
      have m3 : W4.cell? ⟨w.heap.size + 1 + 1 + 1, 0, none⟩ = some (.bool false) := by rw [cell_of hI4.rt]; rfl
      have f4 : ∀ o, W4.frozen? ⟨w.heap.size + 1 + 1, o, none⟩ = false := frozen_of hI4.ra
      have f5 : ∀ o, W4.frozen? ⟨w.heap.size + 1 + 1 + 1, o, none⟩ = false := frozen_of hI4.rt
      have HI4 : Hid (FI w P most a n nn sl (t, x) w.heap.size W1.heap.size (W1.heap.size + 1) j W4) := hI4
      clear hI4 hb4 j0 j1 j2 j3 f2 f3
      have Hq : Hid (¬ (y1, y2) = (t, x)) := hq
      clear hq hd
      by_cases h0 : y1 = 0
      · have hd0 : (y1 == 0) = true := by simpa using h0
        have Hf : Hid (fnd a n sl (t, x) n 0 = ((at' : Int) + 1, false)) := by show _ = _; rw [HFn.out, if_neg Hq.out, if_pos h0]
        clear HFn HPs2 h0 HV HXV
        simp only [hd0]
        gi_wp2_with fail
        refine ⟨Still.of_kept (S := fun k => k = w.heap.size + 1 + 1 ∨ k = w.heap.size + 1 + 1 + 1) ((HK4.out.no.set _ 0 _ (.inl (.inl rfl))).set _ 0 _ (.inl (.inr rfl))) (fun k hk => .inl (by have := HZ2.out.1; omega)), ?_⟩
        rw [Hf.out]
        exact ⟨hp_set_other (hp_set_same HI4.out.ra 0 _) 0 _ (by omega), hp_set_same (hp_set_other HI4.out.rt 0 _ (by omega)) 0 _, (HI4.out.kp.set _ 0 _ (.inr (by omega))).set _ 0 _ (.inr (by omega))⟩
      · have hd0 : (y1 == 0) = false := by simpa using h0
        have Hp : Hid (passed a n sl (t, x) (j + 1)) := HPs2.out Hq.out h0
        clear HFn HPs2 h0 HV HXV
        simp only [hd0]
        gi_wp2_with fail
        exact ⟨Still.of_kept HK4.out (fun k hk => hk.elim), ⟨HI4.out.way, HI4.out.fs, HI4.out.fk, HI4.out.ra, HI4.out.rt, HI4.out.kp, Hp.out⟩⟩
  case done =>
    rintro D W' hD hI hK
    have m2 : W'.cell? ⟨w.heap.size + 1 + 1, 0, none⟩ = some (.int .i64 0) := by rw [cell_of hI.ra]; rfl
    have m3 : W'.cell? ⟨w.heap.size + 1 + 1 + 1, 0, none⟩ = some (.bool false) := by rw [cell_of hI.rt]; rfl
    have f4 : ∀ o, W'.frozen? ⟨w.heap.size + 1 + 1, o, none⟩ = false := frozen_of hI.ra
    have f5 : ∀ o, W'.frozen? ⟨w.heap.size + 1 + 1 + 1, o, none⟩ = false := frozen_of hI.rt
    have HI : Hid (FI w P most a n nn sl (t, x) w.heap.size W1.heap.size (W1.heap.size + 1) n W') := hI
    clear hI
    gi_wp2
    have hD' : w.heap.size + 6 ≤ D := by have := HZ2.out.1; omega
    have hK' := (KeepsOthers.setCell (W'.setCell ⟨w.heap.size + 1 + 1, 0, none⟩ (.int .i64 (-1))) ⟨w.heap.size + 1 + 1 + 1, 0, none⟩ (.bool false)).same D _ ((KeepsOthers.setCell W' ⟨w.heap.size + 1 + 1, 0, none⟩ (.int .i64 (-1))).same D _ hK rfl) rfl
    refine ⟨by simp, .inl ⟨_, _, rfl, run_takeDeferred hK', ?_⟩⟩
    have hf : fnd a n sl (t, x) n 0 = (-1, false) := by rw [fnd_at n (Nat.le_refl _) HI.out.ps, Nat.sub_self]; rfl
    have hcc := ret_cells (r := (-1, false)) (show w.heap.size + 1 + 1 + 1 < D by omega) (hp_set_other (hp_set_same HI.out.ra 0 (.int .i64 (-1))) 0 (.bool false) (by omega)) (hp_set_same (hp_set_other HI.out.rt 0 (.int .i64 (-1)) (by omega)) 0 (.bool false)) (.deferred none)
    refine ⟨.tuple #[.int .i64 (-1), .bool false], ?_, by rw [hf], (((HI.out.kp.set _ 0 _ (.inr (by omega))).set _ 0 _ (.inr (by omega))).putObj _ (by omega))⟩
    simp [results, Try.f43, go_sem, hcc.1, hcc.2]
  case stop =>
    rintro D k W' hD hX hK
    have hD' : w.heap.size + 6 ≤ D := by have := HZ2.out.1; omega
    have HX : Hid (FX w w.heap.size (fnd a n sl (t, x) n 0) W') := hX
    have hcc := ret_cells (show w.heap.size + 1 + 1 + 1 < D by omega) hX.ra hX.rt (.deferred none)
    clear hX
    obtain ⟨r, Hr⟩ : ∃ r, Hid (fnd a n sl (t, x) n 0 = r) := ⟨_, show _ = _ from rfl⟩
    rw [Hr.out] at HX hcc
    gi_wp2
    refine ⟨by simp, .inl ⟨_, _, rfl, run_takeDeferred hK, ?_⟩⟩
    refine ⟨.tuple #[.int .i64 r.1, .bool r.2], ?_, by rw [Hr.out], HX.out.kp.putObj _ (by omega)⟩
    simp [results, Try.f43, go_sem, hcc.1, hcc.2]

set_option maxRecDepth 100000 in
set_option maxHeartbeats 4000000 in
theorem find_wayB {w : World} {P : Nat} {most : Int} {a n nn : Nat} {sl : Sl} (h : Tb w P most a n nn sl) (t x : Int) (g1 : (t == 2) = true) (g2 : decide (1 ≤ x) = false) :
    Calls Try.prog 43 #[MI P, AV t x] w fun e w' => e = .returned (.tuple #[.int .i64 (fnd a n sl (t, x) n 0).1, .bool (fnd a n sl (t, x) n 0).2]) ∧ Kept No w w' := by
  have hb := h.bd
  have hmA := mArray P
  have hmS := mSlot P
  obtain ⟨W, HW⟩ : ∃ W, Hid (W = (((w.alloc (.cells #[MI P] 81)).alloc (.cells #[.int .i64 t, .int .i64 x] 33)).alloc (.cells #[.int .i64 0] 3)).alloc (.cells #[.bool false] 4)) := ⟨_, rfl⟩
  have HK : Hid (Kept No w W) := by show Kept _ _ _; rw [HW.out]; exact ((((Kept.refl _ _).alloc _).alloc _).alloc _).alloc _
  have HZ : Hid (W.heap.size = w.heap.size + 4) := by show _ = _; rw [HW.out]; simp
  have HT : Hid (∀ m, Calls Try.prog 25 #[MP P] (W.drewN m) fun e w' => e = .returned (.int .i64 a) ∧ W.drewN m = w') := fun m => Array_any (h.no (HK.out.drewN m))
  have HTb : Hid (Tb w P most a n nn sl) := h
  have hlt := h.lt
  clear h
  have B0 : W.heap[w.heap.size]? = some (.cells #[MI P] 81 (0, 0)) := by rw [HW.out]; exact heap_old (heap_old (heap_old (heap_new1 w _) _) _) _
  have B1 : W.heap[w.heap.size + 1]? = some (.cells #[.int .i64 t, .int .i64 x] 33 (0, 0)) := by
    rw [HW.out]; have := heap_new1 (w.alloc (.cells #[MI P] 81)) (.cells #[.int .i64 t, .int .i64 x] 33); rw [World.size_alloc] at this; exact heap_old (heap_old this _) _
  have B2 : W.heap[w.heap.size + 1 + 1]? = some (.cells #[.int .i64 0] 3 (0, 0)) := by
    rw [HW.out]; have := heap_new1 ((w.alloc (.cells #[MI P] 81)).alloc (.cells #[.int .i64 t, .int .i64 x] 33)) (.cells #[.int .i64 0] 3); simp only [World.size_alloc] at this; exact heap_old this _
  have B3 : W.heap[w.heap.size + 1 + 1 + 1]? = some (.cells #[.bool false] 4 (0, 0)) := by
    rw [HW.out]; have := heap_new1 (((w.alloc (.cells #[MI P] 81)).alloc (.cells #[.int .i64 t, .int .i64 x] 33)).alloc (.cells #[.int .i64 0] 3)) (.cells #[.bool false] 4); simp only [World.size_alloc] at this; exact this
  have c0 : W.cell? ⟨w.heap.size, 0, none⟩ = some (MI P) := by rw [cell_of B0]; rfl
  have c1 : W.cell? ⟨w.heap.size + 1, 0, none⟩ = some (.int .i64 t) := by rw [cell_of B1]; rfl
  have c2 : W.cell? ⟨w.heap.size + 1, 1, none⟩ = some (.int .i64 x) := by rw [cell_of B1]; rfl
  have HB : Hid (W.heap[w.heap.size]? = some (.cells #[MI P] 81 (0, 0)) ∧ W.heap[w.heap.size + 1]? = some (.cells #[.int .i64 t, .int .i64 x] 33 (0, 0)) ∧ W.heap[w.heap.size + 1 + 1]? = some (.cells #[.int .i64 0] 3 (0, 0)) ∧ W.heap[w.heap.size + 1 + 1 + 1]? = some (.cells #[.bool false] 4 (0, 0))) := ⟨B0, B1, B2, B3⟩
  clear B0 B1 B2 B3
  refine (callsIn_wide (n := 6)).1 ?_
  refine callsIn_of_wp_marks Try.func43 rfl trivial ?_ rfl
  simp only [Try.ntmps43, List.size_toArray, List.length_cons, List.length_nil, Nat.reduceAdd, Nat.reduceSub, Array.replicate_succ, Array.replicate_zero, List.push_toArray, List.append_toArray, List.nil_append, List.cons_append]
  gi_wp2
  rw [← HW.out]
  clear HW
  refine wpIn_wide.2 ?_
  go_quiet (first | (go_at_call 25; exact quiet_same (HT.out _)))
  obtain ⟨W1, HW1⟩ : ∃ W1, Hid (W1 = W.drewN nq) := ⟨_, rfl⟩
  have d0 : W1.cell? ⟨w.heap.size, 0, none⟩ = some (MI P) := by rw [HW1.out]; exact c0
  have d1 : W1.cell? ⟨w.heap.size + 1, 0, none⟩ = some (.int .i64 t) := by rw [HW1.out]; exact c1
  have d2 : W1.cell? ⟨w.heap.size + 1, 1, none⟩ = some (.int .i64 x) := by rw [HW1.out]; exact c2
  have HK1 : Hid (Kept No w W1 ∧ W1.heap = W.heap) := ⟨by rw [HW1.out]; exact HK.out.drewN nq, by rw [HW1.out]; rfl⟩
  rw [← HW1.out]
  clear HW1
  gi_wp2_with (refine ⟨trivial, ?_⟩; gi_at_call 72; refine (callsIn_wide.2 (way_any _ _ rfl t x _ rfl)).mono ?_; rintro e w' ⟨rfl, rfl⟩)
  obtain ⟨W2, HW2⟩ : ∃ W2, Hid (W2 = (W1.alloc (.cells #[MI P] 81)).alloc (.cells #[.int .i64 t, .int .i64 x] 33)) := ⟨_, rfl⟩
  have HZ2 : Hid (W2.heap.size = w.heap.size + 6 ∧ W1.heap.size = w.heap.size + 4) := by
    have e1 : W1.heap.size = w.heap.size + 4 := by rw [HK1.out.2]; exact HZ.out
    exact ⟨by rw [HW2.out]; simp [e1], e1⟩
  have HK2 : Hid (Kept No w W2) := by show Kept _ _ _; rw [HW2.out]; exact (HK1.out.1.alloc _).alloc _
  have K12 : Hid (Kept No W1 W2) := by show Kept _ _ _; rw [HW2.out]; exact ((Kept.refl _ _).alloc _).alloc _
  have D0 : Hid (W2.heap[W1.heap.size]? = some (.cells #[MI P] 81 (0, 0)) ∧ W2.heap[W1.heap.size + 1]? = some (.cells #[.int .i64 t, .int .i64 x] 33 (0, 0))) := by
    refine ⟨?_, ?_⟩
    · rw [HW2.out]; exact heap_old (heap_new1 W1 _) _
    · rw [HW2.out]; have := heap_new1 (W1.alloc (.cells #[MI P] 81)) (.cells #[.int .i64 t, .int .i64 x] 33); rw [World.size_alloc] at this; exact this
  have HB1 : Hid (W1.heap[w.heap.size]? = some (.cells #[MI P] 81 (0, 0)) ∧ W1.heap[w.heap.size + 1]? = some (.cells #[.int .i64 t, .int .i64 x] 33 (0, 0)) ∧ W1.heap[w.heap.size + 1 + 1]? = some (.cells #[.int .i64 0] 3 (0, 0)) ∧ W1.heap[w.heap.size + 1 + 1 + 1]? = some (.cells #[.bool false] 4 (0, 0))) := by
    have := HB.out; rw [← HK1.out.2] at this; exact this
  rw [← HW2.out]
  clear HW2 d0 d1 d2 c0 c1 c2 HB HT
  refine range_one (by decide) rfl (enters_of Try.func82 (by kernel_rfl) rfl) n (fun j => .int .i64 (wayN a n (t, x) j : Nat)) (FI w P most a n nn sl (t, x) w.heap.size W1.heap.size (W1.heap.size + 1)) (fun _ => FX w w.heap.size (fnd a n sl (t, x) n 0))
    (fun k W W' h hl => h.loose HTb.out (by rw [HZ2.out.1]; omega) hl) (fun k W W' h hl => h.loose (by rw [HZ2.out.1]; omega) hl) ?h0 (way_rounds _ P most a n nn sl _ _ (t, x) _ (fun j W h => h.way)) ?mk ?assign ?body ?done ?stop
  case h0 => exact ⟨⟨HTb.out.no HK2.out, D0.out.1, D0.out.2⟩, K12.out.heap HB1.out.1 id, K12.out.heap HB1.out.2.1 id, K12.out.heap HB1.out.2.2.1 id, K12.out.heap HB1.out.2.2.2 id, HK2.out, fun i hi => absurd hi (by omega)⟩
  case assign =>
    intro l' x' W' K hK
    gi_wp2
    exact hK
  case body =>
    intro l' j W' hI hj
    have HI : Hid (FI w P most a n nn sl (t, x) w.heap.size W1.heap.size (W1.heap.size + 1) j W') := hI
    have e0 : W'.cell? ⟨w.heap.size, 0, none⟩ = some (MI P) := by rw [cell_of hI.fs]; rfl
    have HS : Hid (Calls Try.prog 27 #[MP P, .int .i64 (wayN a n (t, x) j : Nat)] W' fun e w' => e = .returned (iV (sl (wayN a n (t, x) j : Nat))) ∧ Below W'.heap.size W' w') := Slot_any hI.way.tb _ (wf_of (by omega) (by have := way_le a n (t, x) j hj; omega))
    have HFn : Hid (fnd a n sl (t, x) n 0 = fnd a n sl (t, x) (n - j - 1 + 1) j) := by show _ = _; rw [fnd_at j (by omega) hI.ps, show n - j - 1 + 1 = n - j by omega]
    have HPs := @passed_succ a n sl (t, x) j hI.ps
    have hwl := way_le a n (t, x) j hj
    simp only [fnd] at HFn
    have HPs2 : Hid (sl (wayN a n (t, x) j : Nat) ≠ (t, x) → (sl (wayN a n (t, x) j : Nat)).1 ≠ 0 → passed a n sl (t, x) (j + 1)) := HPs
    clear hI HPs
    generalize wayN a n (t, x) j = at' at HS HFn HPs2 hwl ⊢
    obtain ⟨y, Hy⟩ : ∃ y, Hid (sl (at' : Int) = y) := ⟨_, show _ = _ from rfl⟩
    rw [Hy.out] at HS HPs2 HFn
    obtain ⟨y1, y2⟩ := y
    have he := eq33 y1 y2 t x
    have hg := guard33
    gi_wp2_with fail
    refine ⟨trivial, ?_⟩
    gi_at_call 27
    refine (CallsIn.inRound l' (callsIn_wide.2 HS.out)).mono ?_
    rintro e W3 ⟨rfl, hb3⟩
    have hI3 : FI w P most a n nn sl (t, x) w.heap.size W1.heap.size (W1.heap.size + 1) j W3 := HI.out.loose HTb.out (B := W2.heap.size) (by rw [HZ2.out.1]; omega) (Loose.of_below hb3)
    have i0 : W3.cell? ⟨w.heap.size + 1, 0, none⟩ = some (.int .i64 t) := by rw [cell_of hI3.fk]; rfl
    have i1 : W3.cell? ⟨w.heap.size + 1, 1, none⟩ = some (.int .i64 x) := by rw [cell_of hI3.fk]; rfl
    have hz3 : w.heap.size + 6 ≤ W3.heap.size := by have h1 := hp_lt hI3.way.bk; have h2 := HZ2.out.2; omega
    have HI3 : Hid (FI w P most a n nn sl (t, x) w.heap.size W1.heap.size (W1.heap.size + 1) j W3) := hI3
    have Hb3 : Hid (Below W'.heap.size W' W3) := hb3
    clear hI3 hb3 HI e0
    have j0 : (W3.alloc (.cells #[.int .i64 y1, .int .i64 y2] 33)).cell? ⟨w.heap.size + 1, 0, none⟩ = some (.int .i64 t) := by rw [cell_of (heap_old HI3.out.fk _)]; rfl
    have j1 : (W3.alloc (.cells #[.int .i64 y1, .int .i64 y2] 33)).cell? ⟨w.heap.size + 1, 1, none⟩ = some (.int .i64 x) := by rw [cell_of (heap_old HI3.out.fk _)]; rfl
    have j2 : (W3.alloc (.cells #[.int .i64 y1, .int .i64 y2] 33)).cell? ⟨w.heap.size + 1 + 1, 0, none⟩ = some (.int .i64 0) := by rw [cell_of (heap_old HI3.out.ra _)]; rfl
    have j3 : (W3.alloc (.cells #[.int .i64 y1, .int .i64 y2] 33)).cell? ⟨w.heap.size + 1 + 1 + 1, 0, none⟩ = some (.bool false) := by rw [cell_of (heap_old HI3.out.rt _)]; rfl
    have f2 : ∀ o, (W3.alloc (.cells #[.int .i64 y1, .int .i64 y2] 33)).frozen? ⟨w.heap.size + 1 + 1, o, none⟩ = false := frozen_of (heap_old HI3.out.ra _)
    have f3 : ∀ o, (W3.alloc (.cells #[.int .i64 y1, .int .i64 y2] 33)).frozen? ⟨w.heap.size + 1 + 1 + 1, o, none⟩ = false := frozen_of (heap_old HI3.out.rt _)
    have HV : Hid (∀ u v : Value, Still W2.heap.size W' (((W3.alloc (.cells #[.int .i64 y1, .int .i64 y2] 33)).setCell ⟨w.heap.size + 1 + 1, 0, none⟩ u).setCell ⟨w.heap.size + 1 + 1 + 1, 0, none⟩ v)) := fun u v =>
      Still.of_kept (S := fun k => k = w.heap.size + 1 + 1 ∨ k = w.heap.size + 1 + 1 + 1) (((((Kept.of_below Hb3.out).no).alloc _).set _ 0 _ (.inl (.inl rfl))).set _ 0 _ (.inl (.inr rfl))) (fun k hk => .inl (by have := HZ2.out.1; omega))
    have HXV : Hid (∀ (u : Int) (v : Bool), FX w w.heap.size (u, v) (((W3.alloc (.cells #[.int .i64 y1, .int .i64 y2] 33)).setCell ⟨w.heap.size + 1 + 1, 0, none⟩ (.int .i64 u)).setCell ⟨w.heap.size + 1 + 1 + 1, 0, none⟩ (.bool v))) := fun u v =>
      ⟨hp_set_other (hp_set_same (heap_old HI3.out.ra _) 0 _) 0 _ (by omega), hp_set_same (hp_set_other (heap_old HI3.out.rt _) 0 _ (by omega)) 0 _, ((HI3.out.kp.alloc _).set _ 0 _ (.inr (by omega))).set _ 0 _ (.inr (by omega))⟩
    clear i0 i1
    by_cases hq : (y1, y2) = (t, x)
    · have hd : decide ((y1, y2) = (t, x)) = true := by simpa using hq
      rw [hd] at he
      obtain ⟨q1, q2⟩ : y1 = t ∧ y2 = x := by simpa using hq
      clear hq hd
      subst q1; subst q2
      have Hf : Hid (fnd a n sl (y1, y2) n 0 = ((at' : Int) + 1, true)) := by show _ = _; rw [HFn.out]; simp
      clear HFn HPs2
      gi_wp2_with fail
      refine ⟨HV.out _ _, ?_⟩
      rw [Hf.out]
      exact HXV.out _ _
    · have hd : decide ((y1, y2) = (t, x)) = false := by simpa using hq
      rw [hd] at he
      gi_wp2_with fail
      refine ⟨trivial, ?_⟩
      gi_at_call 50
      refine (CallsIn.inRound l' (callsIn_wide.2 (isNil_any y1 y2 _))).mono ?_
      rintro e W4 ⟨rfl, hb4⟩
      have hI4 : FI w P most a n nn sl (t, x) w.heap.size W1.heap.size (W1.heap.size + 1) j W4 := (HI3.out.loose HTb.out (B := W2.heap.size) (by rw [HZ2.out.1]; omega) (Loose.alloc _ _ _)).loose HTb.out (B := W2.heap.size) (by rw [HZ2.out.1]; omega) (Loose.of_below hb4)
      have HK4 : Hid (Kept No W' W4) := (((Kept.of_below Hb3.out)).alloc _).trans (Kept.of_below hb4)
      have m2 : W4.cell? ⟨w.heap.size + 1 + 1, 0, none⟩ = some (.int .i64 0) := by rw [cell_of hI4.ra]; rfl
      have m3 : W4.cell? ⟨w.heap.size + 1 + 1 + 1, 0, none⟩ = some (.bool false) := by rw [cell_of hI4.rt]; rfl
      have f4 : ∀ o, W4.frozen? ⟨w.heap.size + 1 + 1, o, none⟩ = false := frozen_of hI4.ra
      have f5 : ∀ o, W4.frozen? ⟨w.heap.size + 1 + 1 + 1, o, none⟩ = false := frozen_of hI4.rt
      have HI4 : Hid (FI w P most a n nn sl (t, x) w.heap.size W1.heap.size (W1.heap.size + 1) j W4) := hI4
      clear hI4 hb4 j0 j1 j2 j3 f2 f3
      have Hq : Hid (¬ (y1, y2) = (t, x)) := hq
      clear hq hd
      by_cases h0 : y1 = 0
      · have hd0 : (y1 == 0) = true := by simpa using h0
        have Hf : Hid (fnd a n sl (t, x) n 0 = ((at' : Int) + 1, false)) := by show _ = _; rw [HFn.out, if_neg Hq.out, if_pos h0]
        clear HFn HPs2 h0 HV HXV
        simp only [hd0]
        gi_wp2_with fail
        refine ⟨Still.of_kept (S := fun k => k = w.heap.size + 1 + 1 ∨ k = w.heap.size + 1 + 1 + 1) ((HK4.out.no.set _ 0 _ (.inl (.inl rfl))).set _ 0 _ (.inl (.inr rfl))) (fun k hk => .inl (by have := HZ2.out.1; omega)), ?_⟩
        rw [Hf.out]
        exact ⟨hp_set_other (hp_set_same HI4.out.ra 0 _) 0 _ (by omega), hp_set_same (hp_set_other HI4.out.rt 0 _ (by omega)) 0 _, (HI4.out.kp.set _ 0 _ (.inr (by omega))).set _ 0 _ (.inr (by omega))⟩
      · have hd0 : (y1 == 0) = false := by simpa using h0
        have Hp : Hid (passed a n sl (t, x) (j + 1)) := HPs2.out Hq.out h0
        clear HFn HPs2 h0 HV HXV
        simp only [hd0]
        gi_wp2_with fail
        exact ⟨Still.of_kept HK4.out (fun k hk => hk.elim), ⟨HI4.out.way, HI4.out.fs, HI4.out.fk, HI4.out.ra, HI4.out.rt, HI4.out.kp, Hp.out⟩⟩
  case done =>
    rintro D W' hD hI hK
    have m2 : W'.cell? ⟨w.heap.size + 1 + 1, 0, none⟩ = some (.int .i64 0) := by rw [cell_of hI.ra]; rfl
    have m3 : W'.cell? ⟨w.heap.size + 1 + 1 + 1, 0, none⟩ = some (.bool false) := by rw [cell_of hI.rt]; rfl
    have f4 : ∀ o, W'.frozen? ⟨w.heap.size + 1 + 1, o, none⟩ = false := frozen_of hI.ra
    have f5 : ∀ o, W'.frozen? ⟨w.heap.size + 1 + 1 + 1, o, none⟩ = false := frozen_of hI.rt
    have HI : Hid (FI w P most a n nn sl (t, x) w.heap.size W1.heap.size (W1.heap.size + 1) n W') := hI
    clear hI
    gi_wp2
    have hD' : w.heap.size + 6 ≤ D := by have := HZ2.out.1; omega
    have hK' := (KeepsOthers.setCell (W'.setCell ⟨w.heap.size + 1 + 1, 0, none⟩ (.int .i64 (-1))) ⟨w.heap.size + 1 + 1 + 1, 0, none⟩ (.bool false)).same D _ ((KeepsOthers.setCell W' ⟨w.heap.size + 1 + 1, 0, none⟩ (.int .i64 (-1))).same D _ hK rfl) rfl
    refine ⟨by simp, .inl ⟨_, _, rfl, run_takeDeferred hK', ?_⟩⟩
    have hf : fnd a n sl (t, x) n 0 = (-1, false) := by rw [fnd_at n (Nat.le_refl _) HI.out.ps, Nat.sub_self]; rfl
    have hcc := ret_cells (r := (-1, false)) (show w.heap.size + 1 + 1 + 1 < D by omega) (hp_set_other (hp_set_same HI.out.ra 0 (.int .i64 (-1))) 0 (.bool false) (by omega)) (hp_set_same (hp_set_other HI.out.rt 0 (.int .i64 (-1)) (by omega)) 0 (.bool false)) (.deferred none)
    refine ⟨.tuple #[.int .i64 (-1), .bool false], ?_, by rw [hf], (((HI.out.kp.set _ 0 _ (.inr (by omega))).set _ 0 _ (.inr (by omega))).putObj _ (by omega))⟩
    simp [results, Try.f43, go_sem, hcc.1, hcc.2]
  case stop =>
    rintro D k W' hD hX hK
    have hD' : w.heap.size + 6 ≤ D := by have := HZ2.out.1; omega
    have HX : Hid (FX w w.heap.size (fnd a n sl (t, x) n 0) W') := hX
    have hcc := ret_cells (show w.heap.size + 1 + 1 + 1 < D by omega) hX.ra hX.rt (.deferred none)
    clear hX
    obtain ⟨r, Hr⟩ : ∃ r, Hid (fnd a n sl (t, x) n 0 = r) := ⟨_, show _ = _ from rfl⟩
    rw [Hr.out] at HX hcc
    gi_wp2
    refine ⟨by simp, .inl ⟨_, _, rfl, run_takeDeferred hK, ?_⟩⟩
    refine ⟨.tuple #[.int .i64 r.1, .bool r.2], ?_, by rw [Hr.out], HX.out.kp.putObj _ (by omega)⟩
    simp [results, Try.f43, go_sem, hcc.1, hcc.2]

set_option maxRecDepth 100000 in
set_option maxHeartbeats 4000000 in
theorem find_wayC {w : World} {P : Nat} {most : Int} {a n nn : Nat} {sl : Sl} (h : Tb w P most a n nn sl) (t x : Int) (g1 : (t == 2) = true) (g2 : decide (1 ≤ x) = true) (g3 : decide (x ≤ (a : Int)) = false) :
    Calls Try.prog 43 #[MI P, AV t x] w fun e w' => e = .returned (.tuple #[.int .i64 (fnd a n sl (t, x) n 0).1, .bool (fnd a n sl (t, x) n 0).2]) ∧ Kept No w w' := by
  have hb := h.bd
  have hmA := mArray P
  have hmS := mSlot P
  obtain ⟨W, HW⟩ : ∃ W, Hid (W = (((w.alloc (.cells #[MI P] 81)).alloc (.cells #[.int .i64 t, .int .i64 x] 33)).alloc (.cells #[.int .i64 0] 3)).alloc (.cells #[.bool false] 4)) := ⟨_, rfl⟩
  have HK : Hid (Kept No w W) := by show Kept _ _ _; rw [HW.out]; exact ((((Kept.refl _ _).alloc _).alloc _).alloc _).alloc _
  have HZ : Hid (W.heap.size = w.heap.size + 4) := by show _ = _; rw [HW.out]; simp
  have HT : Hid (∀ m, Calls Try.prog 25 #[MP P] (W.drewN m) fun e w' => e = .returned (.int .i64 a) ∧ W.drewN m = w') := fun m => Array_any (h.no (HK.out.drewN m))
  have HTb : Hid (Tb w P most a n nn sl) := h
  have hlt := h.lt
  clear h
  have B0 : W.heap[w.heap.size]? = some (.cells #[MI P] 81 (0, 0)) := by rw [HW.out]; exact heap_old (heap_old (heap_old (heap_new1 w _) _) _) _
  have B1 : W.heap[w.heap.size + 1]? = some (.cells #[.int .i64 t, .int .i64 x] 33 (0, 0)) := by
    rw [HW.out]; have := heap_new1 (w.alloc (.cells #[MI P] 81)) (.cells #[.int .i64 t, .int .i64 x] 33); rw [World.size_alloc] at this; exact heap_old (heap_old this _) _
  have B2 : W.heap[w.heap.size + 1 + 1]? = some (.cells #[.int .i64 0] 3 (0, 0)) := by
    rw [HW.out]; have := heap_new1 ((w.alloc (.cells #[MI P] 81)).alloc (.cells #[.int .i64 t, .int .i64 x] 33)) (.cells #[.int .i64 0] 3); simp only [World.size_alloc] at this; exact heap_old this _
  have B3 : W.heap[w.heap.size + 1 + 1 + 1]? = some (.cells #[.bool false] 4 (0, 0)) := by
    rw [HW.out]; have := heap_new1 (((w.alloc (.cells #[MI P] 81)).alloc (.cells #[.int .i64 t, .int .i64 x] 33)).alloc (.cells #[.int .i64 0] 3)) (.cells #[.bool false] 4); simp only [World.size_alloc] at this; exact this
  have c0 : W.cell? ⟨w.heap.size, 0, none⟩ = some (MI P) := by rw [cell_of B0]; rfl
  have c1 : W.cell? ⟨w.heap.size + 1, 0, none⟩ = some (.int .i64 t) := by rw [cell_of B1]; rfl
  have c2 : W.cell? ⟨w.heap.size + 1, 1, none⟩ = some (.int .i64 x) := by rw [cell_of B1]; rfl
  have HB : Hid (W.heap[w.heap.size]? = some (.cells #[MI P] 81 (0, 0)) ∧ W.heap[w.heap.size + 1]? = some (.cells #[.int .i64 t, .int .i64 x] 33 (0, 0)) ∧ W.heap[w.heap.size + 1 + 1]? = some (.cells #[.int .i64 0] 3 (0, 0)) ∧ W.heap[w.heap.size + 1 + 1 + 1]? = some (.cells #[.bool false] 4 (0, 0))) := ⟨B0, B1, B2, B3⟩
  clear B0 B1 B2 B3
  refine (callsIn_wide (n := 6)).1 ?_
  refine callsIn_of_wp_marks Try.func43 rfl trivial ?_ rfl
  simp only [Try.ntmps43, List.size_toArray, List.length_cons, List.length_nil, Nat.reduceAdd, Nat.reduceSub, Array.replicate_succ, Array.replicate_zero, List.push_toArray, List.append_toArray, List.nil_append, List.cons_append]
  gi_wp2
  rw [← HW.out]
  clear HW
  refine wpIn_wide.2 ?_
  go_quiet (first | (go_at_call 25; exact quiet_same (HT.out _)))
  obtain ⟨W1, HW1⟩ : ∃ W1, Hid (W1 = W.drewN nq) := ⟨_, rfl⟩
  have d0 : W1.cell? ⟨w.heap.size, 0, none⟩ = some (MI P) := by rw [HW1.out]; exact c0
  have d1 : W1.cell? ⟨w.heap.size + 1, 0, none⟩ = some (.int .i64 t) := by rw [HW1.out]; exact c1
  have d2 : W1.cell? ⟨w.heap.size + 1, 1, none⟩ = some (.int .i64 x) := by rw [HW1.out]; exact c2
  have HK1 : Hid (Kept No w W1 ∧ W1.heap = W.heap) := ⟨by rw [HW1.out]; exact HK.out.drewN nq, by rw [HW1.out]; rfl⟩
  rw [← HW1.out]
  clear HW1
  gi_wp2_with (refine ⟨trivial, ?_⟩; gi_at_call 72; refine (callsIn_wide.2 (way_any _ _ rfl t x _ rfl)).mono ?_; rintro e w' ⟨rfl, rfl⟩)
  obtain ⟨W2, HW2⟩ : ∃ W2, Hid (W2 = (W1.alloc (.cells #[MI P] 81)).alloc (.cells #[.int .i64 t, .int .i64 x] 33)) := ⟨_, rfl⟩
  have HZ2 : Hid (W2.heap.size = w.heap.size + 6 ∧ W1.heap.size = w.heap.size + 4) := by
    have e1 : W1.heap.size = w.heap.size + 4 := by rw [HK1.out.2]; exact HZ.out
    exact ⟨by rw [HW2.out]; simp [e1], e1⟩
  have HK2 : Hid (Kept No w W2) := by show Kept _ _ _; rw [HW2.out]; exact (HK1.out.1.alloc _).alloc _
  have K12 : Hid (Kept No W1 W2) := by show Kept _ _ _; rw [HW2.out]; exact ((Kept.refl _ _).alloc _).alloc _
  have D0 : Hid (W2.heap[W1.heap.size]? = some (.cells #[MI P] 81 (0, 0)) ∧ W2.heap[W1.heap.size + 1]? = some (.cells #[.int .i64 t, .int .i64 x] 33 (0, 0))) := by
    refine ⟨?_, ?_⟩
    · rw [HW2.out]; exact heap_old (heap_new1 W1 _) _
    · rw [HW2.out]; have := heap_new1 (W1.alloc (.cells #[MI P] 81)) (.cells #[.int .i64 t, .int .i64 x] 33); rw [World.size_alloc] at this; exact this
  have HB1 : Hid (W1.heap[w.heap.size]? = some (.cells #[MI P] 81 (0, 0)) ∧ W1.heap[w.heap.size + 1]? = some (.cells #[.int .i64 t, .int .i64 x] 33 (0, 0)) ∧ W1.heap[w.heap.size + 1 + 1]? = some (.cells #[.int .i64 0] 3 (0, 0)) ∧ W1.heap[w.heap.size + 1 + 1 + 1]? = some (.cells #[.bool false] 4 (0, 0))) := by
    have := HB.out; rw [← HK1.out.2] at this; exact this
  rw [← HW2.out]
  clear HW2 d0 d1 d2 c0 c1 c2 HB HT
  refine range_one (by decide) rfl (enters_of Try.func82 (by kernel_rfl) rfl) n (fun j => .int .i64 (wayN a n (t, x) j : Nat)) (FI w P most a n nn sl (t, x) w.heap.size W1.heap.size (W1.heap.size + 1)) (fun _ => FX w w.heap.size (fnd a n sl (t, x) n 0))
    (fun k W W' h hl => h.loose HTb.out (by rw [HZ2.out.1]; omega) hl) (fun k W W' h hl => h.loose (by rw [HZ2.out.1]; omega) hl) ?h0 (way_rounds _ P most a n nn sl _ _ (t, x) _ (fun j W h => h.way)) ?mk ?assign ?body ?done ?stop
  case h0 => exact ⟨⟨HTb.out.no HK2.out, D0.out.1, D0.out.2⟩, K12.out.heap HB1.out.1 id, K12.out.heap HB1.out.2.1 id, K12.out.heap HB1.out.2.2.1 id, K12.out.heap HB1.out.2.2.2 id, HK2.out, fun i hi => absurd hi (by omega)⟩
  case assign =>
    intro l' x' W' K hK
    gi_wp2
    exact hK
  case body =>
    intro l' j W' hI hj
    have HI : Hid (FI w P most a n nn sl (t, x) w.heap.size W1.heap.size (W1.heap.size + 1) j W') := hI
    have e0 : W'.cell? ⟨w.heap.size, 0, none⟩ = some (MI P) := by rw [cell_of hI.fs]; rfl
    have HS : Hid (Calls Try.prog 27 #[MP P, .int .i64 (wayN a n (t, x) j : Nat)] W' fun e w' => e = .returned (iV (sl (wayN a n (t, x) j : Nat))) ∧ Below W'.heap.size W' w') := Slot_any hI.way.tb _ (wf_of (by omega) (by have := way_le a n (t, x) j hj; omega))
    have HFn : Hid (fnd a n sl (t, x) n 0 = fnd a n sl (t, x) (n - j - 1 + 1) j) := by show _ = _; rw [fnd_at j (by omega) hI.ps, show n - j - 1 + 1 = n - j by omega]
    have HPs := @passed_succ a n sl (t, x) j hI.ps
    have hwl := way_le a n (t, x) j hj
    simp only [fnd] at HFn
    have HPs2 : Hid (sl (wayN a n (t, x) j : Nat) ≠ (t, x) → (sl (wayN a n (t, x) j : Nat)).1 ≠ 0 → passed a n sl (t, x) (j + 1)) := HPs
    clear hI HPs
    generalize wayN a n (t, x) j = at' at HS HFn HPs2 hwl ⊢
    obtain ⟨y, Hy⟩ : ∃ y, Hid (sl (at' : Int) = y) := ⟨_, show _ = _ from rfl⟩
    rw [Hy.out] at HS HPs2 HFn
    obtain ⟨y1, y2⟩ := y
    have he := eq33 y1 y2 t x
    have hg := guard33
    gi_wp2_with fail
    refine ⟨trivial, ?_⟩
    gi_at_call 27
    refine (CallsIn.inRound l' (callsIn_wide.2 HS.out)).mono ?_
    rintro e W3 ⟨rfl, hb3⟩
    have hI3 : FI w P most a n nn sl (t, x) w.heap.size W1.heap.size (W1.heap.size + 1) j W3 := HI.out.loose HTb.out (B := W2.heap.size) (by rw [HZ2.out.1]; omega) (Loose.of_below hb3)
    have i0 : W3.cell? ⟨w.heap.size + 1, 0, none⟩ = some (.int .i64 t) := by rw [cell_of hI3.fk]; rfl
    have i1 : W3.cell? ⟨w.heap.size + 1, 1, none⟩ = some (.int .i64 x) := by rw [cell_of hI3.fk]; rfl
    have hz3 : w.heap.size + 6 ≤ W3.heap.size := by have h1 := hp_lt hI3.way.bk; have h2 := HZ2.out.2; omega
    have HI3 : Hid (FI w P most a n nn sl (t, x) w.heap.size W1.heap.size (W1.heap.size + 1) j W3) := hI3
    have Hb3 : Hid (Below W'.heap.size W' W3) := hb3
    clear hI3 hb3 HI e0
    have j0 : (W3.alloc (.cells #[.int .i64 y1, .int .i64 y2] 33)).cell? ⟨w.heap.size + 1, 0, none⟩ = some (.int .i64 t) := by rw [cell_of (heap_old HI3.out.fk _)]; rfl
    have j1 : (W3.alloc (.cells #[.int .i64 y1, .int .i64 y2] 33)).cell? ⟨w.heap.size + 1, 1, none⟩ = some (.int .i64 x) := by rw [cell_of (heap_old HI3.out.fk _)]; rfl
    have j2 : (W3.alloc (.cells #[.int .i64 y1, .int .i64 y2] 33)).cell? ⟨w.heap.size + 1 + 1, 0, none⟩ = some (.int .i64 0) := by rw [cell_of (heap_old HI3.out.ra _)]; rfl
    have j3 : (W3.alloc (.cells #[.int .i64 y1, .int .i64 y2] 33)).cell? ⟨w.heap.size + 1 + 1 + 1, 0, none⟩ = some (.bool false) := by rw [cell_of (heap_old HI3.out.rt _)]; rfl
    have f2 : ∀ o, (W3.alloc (.cells #[.int .i64 y1, .int .i64 y2] 33)).frozen? ⟨w.heap.size + 1 + 1, o, none⟩ = false := frozen_of (heap_old HI3.out.ra _)
    have f3 : ∀ o, (W3.alloc (.cells #[.int .i64 y1, .int .i64 y2] 33)).frozen? ⟨w.heap.size + 1 + 1 + 1, o, none⟩ = false := frozen_of (heap_old HI3.out.rt _)
    have HV : Hid (∀ u v : Value, Still W2.heap.size W' (((W3.alloc (.cells #[.int .i64 y1, .int .i64 y2] 33)).setCell ⟨w.heap.size + 1 + 1, 0, none⟩ u).setCell ⟨w.heap.size + 1 + 1 + 1, 0, none⟩ v)) := fun u v =>
      Still.of_kept (S := fun k => k = w.heap.size + 1 + 1 ∨ k = w.heap.size + 1 + 1 + 1) (((((Kept.of_below Hb3.out).no).alloc _).set _ 0 _ (.inl (.inl rfl))).set _ 0 _ (.inl (.inr rfl))) (fun k hk => .inl (by have := HZ2.out.1; omega))
    have HXV : Hid (∀ (u : Int) (v : Bool), FX w w.heap.size (u, v) (((W3.alloc (.cells #[.int .i64 y1, .int .i64 y2] 33)).setCell ⟨w.heap.size + 1 + 1, 0, none⟩ (.int .i64 u)).setCell ⟨w.heap.size + 1 + 1 + 1, 0, none⟩ (.bool v))) := fun u v =>
      ⟨hp_set_other (hp_set_same (heap_old HI3.out.ra _) 0 _) 0 _ (by omega), hp_set_same (hp_set_other (heap_old HI3.out.rt _) 0 _ (by omega)) 0 _, ((HI3.out.kp.alloc _).set _ 0 _ (.inr (by omega))).set _ 0 _ (.inr (by omega))⟩
    clear i0 i1
    by_cases hq : (y1, y2) = (t, x)
    · have hd : decide ((y1, y2) = (t, x)) = true := by simpa using hq
      rw [hd] at he
      obtain ⟨q1, q2⟩ : y1 = t ∧ y2 = x := by simpa using hq
      clear hq hd
      subst q1; subst q2
      have Hf : Hid (fnd a n sl (y1, y2) n 0 = ((at' : Int) + 1, true)) := by show _ = _; rw [HFn.out]; simp
      clear HFn HPs2
      gi_wp2_with fail
      refine ⟨HV.out _ _, ?_⟩
      rw [Hf.out]
      exact HXV.out _ _
    · have hd : decide ((y1, y2) = (t, x)) = false := by simpa using hq
      rw [hd] at he
      gi_wp2_with fail
      refine ⟨trivial, ?_⟩
      gi_at_call 50
      refine (CallsIn.inRound l' (callsIn_wide.2 (isNil_any y1 y2 _))).mono ?_
      rintro e W4 ⟨rfl, hb4⟩
      have hI4 : FI w P most a n nn sl (t, x) w.heap.size W1.heap.size (W1.heap.size + 1) j W4 := (HI3.out.loose HTb.out (B := W2.heap.size) (by rw [HZ2.out.1]; omega) (Loose.alloc _ _ _)).loose HTb.out (B := W2.heap.size) (by rw [HZ2.out.1]; omega) (Loose.of_below hb4)
      have HK4 : Hid (Kept No W' W4) := (((Kept.of_below Hb3.out)).alloc _).trans (Kept.of_below hb4)
      have m2 : W4.cell? ⟨w.heap.size + 1 + 1, 0, none⟩ = some (.int .i64 0) := by rw [cell_of hI4.ra]; rfl
      have m3 : W4.cell? ⟨w.heap.size + 1 + 1 + 1, 0, none⟩ = some (.bool false) := by rw [cell_of hI4.rt]; rfl
      have f4 : ∀ o, W4.frozen? ⟨w.heap.size + 1 + 1, o, none⟩ = false := frozen_of hI4.ra
      have f5 : ∀ o, W4.frozen? ⟨w.heap.size + 1 + 1 + 1, o, none⟩ = false := frozen_of hI4.rt
      have HI4 : Hid (FI w P most a n nn sl (t, x) w.heap.size W1.heap.size (W1.heap.size + 1) j W4) := hI4
      clear hI4 hb4 j0 j1 j2 j3 f2 f3
      have Hq : Hid (¬ (y1, y2) = (t, x)) := hq
      clear hq hd
      by_cases h0 : y1 = 0
      · have hd0 : (y1 == 0) = true := by simpa using h0
        have Hf : Hid (fnd a n sl (t, x) n 0 = ((at' : Int) + 1, false)) := by show _ = _; rw [HFn.out, if_neg Hq.out, if_pos h0]
        clear HFn HPs2 h0 HV HXV
        simp only [hd0]
        gi_wp2_with fail
        refine ⟨Still.of_kept (S := fun k => k = w.heap.size + 1 + 1 ∨ k = w.heap.size + 1 + 1 + 1) ((HK4.out.no.set _ 0 _ (.inl (.inl rfl))).set _ 0 _ (.inl (.inr rfl))) (fun k hk => .inl (by have := HZ2.out.1; omega)), ?_⟩
        rw [Hf.out]
        exact ⟨hp_set_other (hp_set_same HI4.out.ra 0 _) 0 _ (by omega), hp_set_same (hp_set_other HI4.out.rt 0 _ (by omega)) 0 _, (HI4.out.kp.set _ 0 _ (.inr (by omega))).set _ 0 _ (.inr (by omega))⟩
      · have hd0 : (y1 == 0) = false := by simpa using h0
        have Hp : Hid (passed a n sl (t, x) (j + 1)) := HPs2.out Hq.out h0
        clear HFn HPs2 h0 HV HXV
        simp only [hd0]
        gi_wp2_with fail
        exact ⟨Still.of_kept HK4.out (fun k hk => hk.elim), ⟨HI4.out.way, HI4.out.fs, HI4.out.fk, HI4.out.ra, HI4.out.rt, HI4.out.kp, Hp.out⟩⟩
  case done =>
    rintro D W' hD hI hK
    have m2 : W'.cell? ⟨w.heap.size + 1 + 1, 0, none⟩ = some (.int .i64 0) := by rw [cell_of hI.ra]; rfl
    have m3 : W'.cell? ⟨w.heap.size + 1 + 1 + 1, 0, none⟩ = some (.bool false) := by rw [cell_of hI.rt]; rfl
    have f4 : ∀ o, W'.frozen? ⟨w.heap.size + 1 + 1, o, none⟩ = false := frozen_of hI.ra
    have f5 : ∀ o, W'.frozen? ⟨w.heap.size + 1 + 1 + 1, o, none⟩ = false := frozen_of hI.rt
    have HI : Hid (FI w P most a n nn sl (t, x) w.heap.size W1.heap.size (W1.heap.size + 1) n W') := hI
    clear hI
    gi_wp2
    have hD' : w.heap.size + 6 ≤ D := by have := HZ2.out.1; omega
    have hK' := (KeepsOthers.setCell (W'.setCell ⟨w.heap.size + 1 + 1, 0, none⟩ (.int .i64 (-1))) ⟨w.heap.size + 1 + 1 + 1, 0, none⟩ (.bool false)).same D _ ((KeepsOthers.setCell W' ⟨w.heap.size + 1 + 1, 0, none⟩ (.int .i64 (-1))).same D _ hK rfl) rfl
    refine ⟨by simp, .inl ⟨_, _, rfl, run_takeDeferred hK', ?_⟩⟩
    have hf : fnd a n sl (t, x) n 0 = (-1, false) := by rw [fnd_at n (Nat.le_refl _) HI.out.ps, Nat.sub_self]; rfl
    have hcc := ret_cells (r := (-1, false)) (show w.heap.size + 1 + 1 + 1 < D by omega) (hp_set_other (hp_set_same HI.out.ra 0 (.int .i64 (-1))) 0 (.bool false) (by omega)) (hp_set_same (hp_set_other HI.out.rt 0 (.int .i64 (-1)) (by omega)) 0 (.bool false)) (.deferred none)
    refine ⟨.tuple #[.int .i64 (-1), .bool false], ?_, by rw [hf], (((HI.out.kp.set _ 0 _ (.inr (by omega))).set _ 0 _ (.inr (by omega))).putObj _ (by omega))⟩
    simp [results, Try.f43, go_sem, hcc.1, hcc.2]
  case stop =>
    rintro D k W' hD hX hK
    have hD' : w.heap.size + 6 ≤ D := by have := HZ2.out.1; omega
    have HX : Hid (FX w w.heap.size (fnd a n sl (t, x) n 0) W') := hX
    have hcc := ret_cells (show w.heap.size + 1 + 1 + 1 < D by omega) hX.ra hX.rt (.deferred none)
    clear hX
    obtain ⟨r, Hr⟩ : ∃ r, Hid (fnd a n sl (t, x) n 0 = r) := ⟨_, show _ = _ from rfl⟩
    rw [Hr.out] at HX hcc
    gi_wp2
    refine ⟨by simp, .inl ⟨_, _, rfl, run_takeDeferred hK, ?_⟩⟩
    refine ⟨.tuple #[.int .i64 r.1, .bool r.2], ?_, by rw [Hr.out], HX.out.kp.putObj _ (by omega)⟩
    simp [results, Try.f43, go_sem, hcc.1, hcc.2]

theorem find_any {w : World} {P : Nat} {most : Int} {a n nn : Nat} {sl : Sl} (h : Tb w P most a n nn sl) (t x : Int) :
    Calls Try.prog 43 #[MI P, AV t x] w fun e w' => e = .returned (.tuple #[.int .i64 (findR a n sl (t, x)).1, .bool (findR a n sl (t, x)).2]) ∧ Kept No w w' := by
  unfold findR inArr
  by_cases h1 : t = 2
  · subst h1
    by_cases h2 : 1 ≤ x
    · by_cases h3 : x ≤ (a : Int)
      · simp only [h2, h3, decide_true, Bool.and_true, beq_self_eq_true, if_true]; exact find_arr h x h2 h3
      · simp only [h2, h3, decide_true, decide_false, Bool.and_false, Bool.false_eq_true, if_false]; exact find_wayC h 2 x rfl (by simpa using h2) (by simpa using h3)
    · simp only [h2, decide_false, Bool.and_false, Bool.false_and, Bool.false_eq_true, if_false]; exact find_wayB h 2 x rfl (by simpa using h2)
  · have h1' : (t == 2) = false := by simpa using h1
    simp only [h1', Bool.false_and, Bool.false_eq_true, if_false]; exact find_wayA h t x h1'

end Go.Proofs.Ythefmfjlinpepaa
