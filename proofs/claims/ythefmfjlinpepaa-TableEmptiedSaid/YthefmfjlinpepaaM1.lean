/- The document's keys; what a table has behind calls. -/
import Derived.Test.YthefmfjlinpepaaY3
import Derived.Test.YthefmfjlinpepaaX2
namespace Go.Proofs.Ythefmfjlinpepaa
open Go.RowKit Go.Shelf
set_option linter.unusedSimpArgs false
set_option linter.unusedVariables false
attribute [local go_sem] Oper.semAt_some

/-- The document's key. -/
def rkV (t n : Int) : Int × Int := if keyB t n = true then kyP (t, n) else (t, n)
theorem nan_can : Fm.nanB (B 9221120237041090561) = true := by decide +kernel
theorem keyB3 (n : Int) : keyB 3 n = (isNum 3 n && !(n == 9221120237041090561)) := by
  unfold keyB
  rw [if_pos rfl]
  unfold isNum
  by_cases h : n = 9221120237041090561
  · subst h; rw [nan_can]; rfl
  · have : (n == 9221120237041090561) = false := by simpa using h
    rw [this]
    cases Fm.nanB (B n) <;> rfl

/-- Two boxes, and what lies in them later. -/
theorem boxes2 {w w1 : World} {t n : Int} (hb : Below ((w.alloc (.cells #[.int .i64 t, .int .i64 n] 33)).alloc (.cells #[.int .i64 0, .int .i64 0] 33)).heap.size ((w.alloc (.cells #[.int .i64 t, .int .i64 n] 33)).alloc (.cells #[.int .i64 0, .int .i64 0] 33)) w1) :
    (w1.cell? ⟨w.heap.size, 0, none⟩ = some (.int .i64 t) ∧ w1.cell? ⟨w.heap.size, 1, none⟩ = some (.int .i64 n)) ∧ (w1.cell? ⟨w.heap.size + 1, 0, none⟩ = some (.int .i64 0) ∧ w1.cell? ⟨w.heap.size + 1, 1, none⟩ = some (.int .i64 0)) ∧ (∀ o, w1.frozen? ⟨w.heap.size + 1, o, none⟩ = false) ∧ Below w.heap.size w w1 := by
  have hk := Kept.of_below hb
  have h0 : w1.heap[w.heap.size]? = some (.cells #[.int .i64 t, .int .i64 n] 33 (0, 0)) := hk.heap (heap_old (heap_new1 _ _) _) id
  have h1 : w1.heap[w.heap.size + 1]? = some (.cells #[.int .i64 0, .int .i64 0] 33 (0, 0)) := by
    refine hk.heap ?_ id
    have := heap_new1 (w.alloc (.cells #[.int .i64 t, .int .i64 n] 33)) (.cells #[.int .i64 0, .int .i64 0] 33); rw [World.size_alloc] at this; exact this
  refine ⟨⟨?_, ?_⟩, ⟨?_, ?_⟩, frozen_of h1, (((Below.refl _ _).alloc (Nat.le_refl _) _).alloc (by simp) _).trans (hb.mono (by simp; omega))⟩
  · rw [cell_of h0]; rfl
  · rw [cell_of h0]; rfl
  · rw [cell_of h1]; rfl
  · rw [cell_of h1]; rfl

set_option maxHeartbeats 2000000 in
theorem RK_no (t n : Int) (w : World) (h : t = 0 ∨ t = 11) : Calls Try.prog 17 #[AV t n] w fun e w' => e = .returned (.tuple #[iV (t, n), .bool false]) ∧ Below w.heap.size w w' := by
  rcases h with rfl | rfl
  all_goals (
    go_enter Try.func17, Try.ntmps17
    go_wp2
    exact bodyPost_ret (v := .tuple #[iV (_, n), .bool false]) (by simp [results, Try.results17, go_sem]) rfl ⟨rfl, ((Below.refl _ _).alloc (Nat.le_refl _) _).alloc (by simp) _⟩)
set_option maxHeartbeats 2000000 in
theorem RK_yes (t n : Int) (w : World) (h0 : (t == 0) = false) (h1 : (t == 11) = false) (h3 : (t == 3) = false) : Calls Try.prog 17 #[AV t n] w fun e w' => e = .returned (.tuple #[iV (kyP (t, n)), .bool true]) ∧ Below w.heap.size w w' := by
  have HRk : Hid (∀ W, Calls Try.prog 41 #[AV t n] W fun e w' => e = .returned (iV (kyP (t, n))) ∧ Below W.heap.size W w') := fun W => RKey_any t n W
  generalize kyP (t, n) = y at HRk ⊢
  obtain ⟨y1, y2⟩ := y
  go_enter Try.func17, Try.ntmps17
  go_wp2_with fail
  refine (HRk.out _).mono ?_
  rintro e w1 ⟨rfl, hb⟩
  obtain ⟨⟨d0, d1⟩, ⟨c0, c1⟩, f1, hb2⟩ := boxes2 hb
  have HB : Hid (Below w.heap.size w w1) := hb2
  clear hb hb2
  go_wp2
  exact bodyPost_ret (v := .tuple #[iV (y1, y2), .bool true]) (by simp [results, Try.results17, go_sem, c0, c1]) rfl ⟨rfl, (HB.out.setCell (by show _ ≤ w.heap.size + 1; omega) _).setCell (by show _ ≤ w.heap.size + 1; omega) _⟩
set_option maxHeartbeats 2000000 in
theorem RK_flt (n : Int) (w : World) : Calls Try.prog 17 #[AV 3 n] w fun e w' => e = .returned (.tuple #[iV (if keyB 3 n = true then kyP (3, n) else (3, n)), .bool (keyB 3 n)]) ∧ Below w.heap.size w w' := by
  rw [keyB3]
  have HI := RIs_any 3 n ((w.alloc (.cells #[.int .i64 3, .int .i64 n] 33)).alloc (.cells #[.int .i64 0, .int .i64 0] 33))
  have HI' : Hid _ := HI
  clear HI
  cases hi : isNum 3 n
  · rw [hi] at HI'
    rw [Bool.false_and, if_neg (by simp)]
    go_enter Try.func17, Try.ntmps17
    go_wp2_with fail
    refine Calls.mono HI'.out ?_
    rintro e w1 ⟨rfl, hb⟩
    obtain ⟨⟨d0, d1⟩, ⟨c0, c1⟩, f1, hb2⟩ := boxes2 hb
    have HB : Hid (Below w.heap.size w w1) := hb2
    clear hb hb2 HI'
    go_wp2
    exact bodyPost_ret (v := .tuple #[iV (3, n), .bool false]) (by simp [results, Try.results17, go_sem, c0, c1]) rfl ⟨rfl, (HB.out.setCell (by show _ ≤ w.heap.size + 1; omega) _).setCell (by show _ ≤ w.heap.size + 1; omega) _⟩
  · rw [hi] at HI'
    rw [Bool.true_and]
    cases hc : (n == 9221120237041090561)
    · rw [Bool.not_false, if_pos rfl]
      have HRk : Hid (∀ W, Calls Try.prog 41 #[AV 3 n] W fun e w' => e = .returned (iV (kyP (3, n))) ∧ Below W.heap.size W w') := fun W => RKey_any 3 n W
      generalize kyP (3, n) = y at HRk ⊢
      obtain ⟨y1, y2⟩ := y
      go_enter Try.func17, Try.ntmps17
      go_wp2_with fail
      refine Calls.mono HI'.out ?_
      rintro e w1 ⟨rfl, hb⟩
      obtain ⟨⟨d0, d1⟩, ⟨c0, c1⟩, f1, hb2⟩ := boxes2 hb
      have HB0 : Hid (Below ((w.alloc (.cells #[.int .i64 3, .int .i64 n] 33)).alloc (.cells #[.int .i64 0, .int .i64 0] 33)).heap.size ((w.alloc (.cells #[.int .i64 3, .int .i64 n] 33)).alloc (.cells #[.int .i64 0, .int .i64 0] 33)) w1) := hb
      clear hb hb2 HI' c0 c1 f1
      go_wp2_with fail
      refine (HRk.out _).mono ?_
      rintro e w2 ⟨rfl, hb⟩
      obtain ⟨⟨d2, d3⟩, ⟨c0, c1⟩, f1, hb2⟩ := boxes2 (HB0.out.trans (hb.mono HB0.out.size))
      have HB : Hid (Below w.heap.size w w2) := hb2
      clear hb hb2 HB0 d0 d1
      go_wp2
      exact bodyPost_ret (v := .tuple #[iV (y1, y2), .bool true]) (by simp [results, Try.results17, go_sem, c0, c1]) rfl ⟨rfl, (HB.out.setCell (by show _ ≤ w.heap.size + 1; omega) _).setCell (by show _ ≤ w.heap.size + 1; omega) _⟩
    · rw [Bool.not_true, if_neg (by simp)]
      go_enter Try.func17, Try.ntmps17
      go_wp2_with fail
      refine Calls.mono HI'.out ?_
      rintro e w1 ⟨rfl, hb⟩
      obtain ⟨⟨d0, d1⟩, ⟨c0, c1⟩, f1, hb2⟩ := boxes2 hb
      have HB : Hid (Below w.heap.size w w1) := hb2
      clear hb hb2 HI'
      go_wp2
      exact bodyPost_ret (v := .tuple #[iV (3, n), .bool false]) (by simp [results, Try.results17, go_sem, c0, c1]) rfl ⟨rfl, (HB.out.setCell (by show _ ≤ w.heap.size + 1; omega) _).setCell (by show _ ≤ w.heap.size + 1; omega) _⟩
theorem RK_any (t n : Int) (w : World) : Calls Try.prog 17 #[AV t n] w fun e w' => e = .returned (.tuple #[iV (rkV t n), .bool (keyB t n)]) ∧ Below w.heap.size w w' := by
  unfold rkV
  by_cases h3 : t = 3
  · subst h3; exact RK_flt n w
  · by_cases h0 : t = 0 ∨ t = 11
    · have e : keyB t n = false := by
        unfold keyB; rw [if_neg h3]
        rcases h0 with rfl | rfl <;> rfl
      rw [e, if_neg (by simp)]
      exact RK_no t n w h0
    · have e : keyB t n = true := by
        unfold keyB; rw [if_neg h3]
        simp only [Bool.and_eq_true, bne_iff_ne]
        exact ⟨fun h => h0 (.inl h), fun h => h0 (.inr h)⟩
      rw [e, if_pos rfl]
      exact RK_yes t n w (by simpa using fun h => h0 (.inl h)) (by simpa using fun h => h0 (.inr h)) (by simpa using h3)

/-- The value that a key was given last. -/
def wantR (own : Int × Int) (L : List Ac) : Int × Int := L.foldl (fun acc x => if x.kind = 1 ∧ keyB x.k.1 x.k.2 = true ∧ kyP x.k = own ∧ x.v.1 ≠ 11 then x.v else acc) (0, 0)
theorem wantR_snoc (own : Int × Int) (L : List Ac) (x : Ac) : wantR own (L ++ [x]) = if x.kind = 1 ∧ keyB x.k.1 x.k.2 = true ∧ kyP x.k = own ∧ x.v.1 ≠ 11 then x.v else wantR own L := by
  unfold wantR; rw [List.foldl_append]; rfl

/-- What a table is behind calls. -/
theorem play_wf (L : List Ac) : ∀ j, j ≤ 80 → Wf (playR 400 (L.take j)).1 (playR 400 (L.take j)).2.1 (playR 400 (L.take j)).2.2
  | 0, _ => by rw [List.take_zero]; exact Wf.zero 0 0
  | j + 1, hj => by
    have ih := play_wf L j (by omega)
    have hl := playR_len 400 L j
    rw [List.take_add_one]
    rcases h : L[j]? with _ | x
    · simp only [Option.toList_none, List.append_nil]; exact ih
    · simp only [Option.toList_some]
      rw [playR_snoc]
      unfold stepR
      split
      · exact set_wf ih (by omega)
      · exact ih
theorem play_gets (L : List Ac) (own : Int × Int) (hown : Nk own) : ∀ j, j ≤ 80 → (∀ x ∈ L.take j, x.kind = 1 → plB x.v.1 x.v.2 = true) → PlS (playR 400 (L.take j)).2.2 ∧ gv (playR 400 (L.take j)).1 (playR 400 (L.take j)).2.1 (playR 400 (L.take j)).2.2 own = wantR own (L.take j)
  | 0, _, _ => by
    rw [List.take_zero]
    refine ⟨fun _ _ => rfl, ?_⟩
    show gv 0 0 (fun _ => (0, 0)) own = (0, 0)
    unfold gv
    split <;> rfl
  | j + 1, hj, hp => by
    have hsub : ∀ x ∈ L.take j, x ∈ L.take (j + 1) := fun x hx => (List.take_subset_take_left L (Nat.le_succ j)) hx
    obtain ⟨ih1, ih2⟩ := play_gets L own hown j (by omega) (fun x hx => hp x (hsub x hx))
    have hw := play_wf L j (by omega)
    have hl := playR_len 400 L j
    rw [List.take_add_one] at hp ⊢
    rcases h : L[j]? with _ | x
    · simp only [Option.toList_none, List.append_nil]; exact ⟨ih1, ih2⟩
    · rw [h] at hp
      simp only [Option.toList_some] at hp ⊢
      rw [playR_snoc, wantR_snoc]
      unfold stepR
      by_cases hk1 : x.kind = 1
      · rw [if_pos hk1]
        have hpl := hp x (by simp) hk1
        have hv : x.v.1 = 0 → x.v = (0, 0) := by
          intro h0
          unfold plB at hpl
          rw [h0] at hpl
          simp at hpl
          exact Prod.ext h0 hpl
        refine ⟨set_pl hw ih1 hv, ?_⟩
        by_cases hkb : keyB x.k.1 x.k.2 = true
        · by_cases h11 : x.v.1 = 11
          · rw [if_neg (fun h => h.2.2.2 h11)]
            have : (setR 400 (playR 400 (L.take j)).1 (playR 400 (L.take j)).2.1 (playR 400 (L.take j)).2.2 x.k x.v) = (13, playR 400 (L.take j)) := by
              unfold setR
              rw [if_pos (by rw [h11]; simp)]
            rw [this]; exact ih2
          · have hok := set_ok (most := 400) (a := (playR 400 (L.take j)).1) (n := (playR 400 (L.take j)).2.1) (sl := (playR 400 (L.take j)).2.2) (k := x.k) (v := x.v) (by omega) (by omega) hkb h11
            by_cases hq : kyP x.k = own
            · rw [if_pos ⟨hk1, hkb, hq, h11⟩, ← hq]
              exact (set_get hok hv).2
            · rw [if_neg (fun h => hq h.2.2.1), ← ih2]
              rcases set_other (most := 400) (k := x.k) (v := x.v) hw (by omega) hown (fun _ e => hq e.symm) with h1 | ⟨h1, h2⟩
              · exact h1
              · rw [h1]; exact (gv_pl ih1 h2).symm
        · rw [if_neg (fun h => hkb h.2.1)]
          have : (setR 400 (playR 400 (L.take j)).1 (playR 400 (L.take j)).2.1 (playR 400 (L.take j)).2.2 x.k x.v) = (13, playR 400 (L.take j)) := by
            unfold setR
            rw [if_pos (by simp [hkb])]
          rw [this]; exact ih2
      · rw [if_neg hk1, if_neg (fun h => hk1 h.1)]
        exact ⟨ih1, ih2⟩
end Go.Proofs.Ythefmfjlinpepaa
