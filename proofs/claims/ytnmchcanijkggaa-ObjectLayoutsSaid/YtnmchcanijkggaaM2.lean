/- ObjectApart: the walk. -/
import Derived.Test.YtnmchcanijkggaaV1
namespace Go.Proofs.Ytnmchcanijkggaa
open Go.RowKit Go.Lib
set_option linter.unusedVariables false

theorem pack_inj {g h : Hd} (hg : rightE g = 0) (hh : rightE h = 0) (h1 : c1 g = c1 h) (h2 : c2 g = c2 h) : g = h := by
  obtain ⟨k1, e1, a1, w1, s1, f1, x1, l1⟩ := right_bds hg
  obtain ⟨k2, e2, a2, w2, s2, f2, x2, l2⟩ := right_bds hh
  unfold c1 at h1
  unfold c2 at h2
  cases g; cases h
  simp only [Hd.mk.injEq] at *
  omega
theorem un_pack {g : Hd} (hg : rightE g = 0) : unB (c1 g) (c2 g) = true ∧ hdOf (c1 g) (c2 g) = g := by
  have e : hdOf (c1 g) (c2 g) = g := by
    obtain ⟨k1, e1, a1, w1, s1, f1, x1, l1⟩ := right_bds hg
    cases g
    simp only [hdOf, c1, c2, Hd.mk.injEq] at *
    omega
  exact ⟨by simp [unB, e, hg], e⟩

set_option maxHeartbeats 2000000 in
theorem ObjectApart_bad (g h : Hd) (w : World) (hn : ¬ (rightE g = 0 ∧ rightE h = 0)) :
    Calls Try.prog 11 #[AH g, AH h] w fun e w' => e = .returned (.bool true) ∧ Below w.heap.size w w' := by
  have HP1 : Hid (∀ W, Calls Try.prog 12 #[AH g] W fun e w' => e = .returned (.tuple #[.int .i64 (pkA g), .int .i64 (pkB g), .int .i64 (rightE g)]) ∧ Below W.heap.size W w') := Pack_any g
  have HP2 : Hid (∀ W, Calls Try.prog 12 #[AH h] W fun e w' => e = .returned (.tuple #[.int .i64 (pkA h), .int .i64 (pkB h), .int .i64 (rightE h)]) ∧ Below W.heap.size W w') := Pack_any h
  generalize pkA g = A1 at HP1
  generalize pkB g = B1 at HP1
  generalize pkA h = A2 at HP2
  generalize pkB h = B2 at HP2
  have hcase : (rightE g != 0) = true ∨ ((rightE g != 0) = false ∧ (rightE h != 0) = true) := by
    by_cases h1 : rightE g = 0
    · by_cases h2 : rightE h = 0
      · exact absurd ⟨h1, h2⟩ hn
      · exact Or.inr ⟨by simp [h1], by simp [h2]⟩
    · exact Or.inl (by simp [h1])
  generalize rightE g = E1 at HP1 hcase
  generalize rightE h = E2 at HP2 hcase
  clear hn
  go_enter Try.func11, Try.ntmps11
  go_wp2_with fail
  refine (HP1.out _).mono ?_
  rintro e w1 ⟨rfl, hb1⟩
  have HB1 : Hid (Below w.heap.size w w1) := (((Below.refl _ _).alloc (Nat.le_refl _) _).alloc (by simp) _).trans (hb1.mono (by simp; omega))
  have HS1 : Hid (SeenH8 (w.heap.size + 1) h w1) := by
    refine ⟨?_, ?_, ?_, ?_, ?_, ?_, ?_, ?_⟩
    all_goals exact cell_later hb1 (by rw [World.cell?_alloc_at _ _ _ _ (by simp)]; rfl)
  clear hb1 HP1
  obtain ⟨q0, q1, q2, q3, q4, q5, q6, q7⟩ := HS1.out
  go_wp2_with fail
  refine (HP2.out _).mono ?_
  rintro e w2 ⟨rfl, hb2⟩
  have HB2 : Hid (Below w.heap.size w w2) := HB1.out.trans (hb2.mono HB1.out.size)
  clear hb2 HP2 HS1 HB1 q0 q1 q2 q3 q4 q5 q6 q7
  rcases hcase with hc | ⟨hc, hc'⟩
  all_goals (
    go_wp2_with (first | (go_at_call 14; refine (no_any _ _).mono ?_; rintro e w' ⟨rfl, rfl⟩))
    refine (alive_any _).mono ?_
    rintro e w3 ⟨rfl, hb3⟩
    have HB3 : Hid (Below w.heap.size w w3) := HB2.out.trans (hb3.mono HB2.out.size)
    clear hb3
    go_wp2
    go_ret
    exact ⟨rfl, HB3.out⟩)

set_option maxHeartbeats 2000000 in
theorem ObjectApart_ok (g h : Hd) (w : World) (hg : rightE g = 0) (hh : rightE h = 0) :
    Calls Try.prog 11 #[AH g, AH h] w fun e w' => e = .returned (.bool true) ∧ Below w.heap.size w w' := by
  have HP1 : Hid (∀ W, Calls Try.prog 12 #[AH g] W fun e w' => e = .returned (.tuple #[.int .i64 (c1 g), .int .i64 (c2 g), .int .i64 0]) ∧ Below W.heap.size W w') := fun W => by
    have := Pack_any g W; simp only [pkA, pkB, hg, if_true] at this; exact this
  have HP2 : Hid (∀ W, Calls Try.prog 12 #[AH h] W fun e w' => e = .returned (.tuple #[.int .i64 (c1 h), .int .i64 (c2 h), .int .i64 0]) ∧ Below W.heap.size W w') := fun W => by
    have := Pack_any h W; simp only [pkA, pkB, hh, if_true] at this; exact this
  have HU : Hid (∀ W, Calls Try.prog 20 #[.int .i64 (c1 g), .int .i64 (c2 g)] W fun e w' => e = .returned (.tuple #[AH g, .int .i64 0]) ∧ Below W.heap.size W w') := fun W => by
    have := Unpack_any (c1 g) (c2 g) W
    simp only [unH, unE, (un_pack hg).1, (un_pack hg).2, if_true] at this; exact this
  have hcase : ((c1 g == c1 h) = true ∧ (c2 g == c2 h) = true ∧ g = h) ∨ ((c1 g == c1 h) = true ∧ (c2 g == c2 h) = false ∧ g ≠ h) ∨ ((c1 g == c1 h) = false ∧ g ≠ h) := by
    by_cases e1 : c1 g = c1 h
    · by_cases e2 : c2 g = c2 h
      · exact Or.inl ⟨by simp [e1], by simp [e2], pack_inj hg hh e1 e2⟩
      · exact Or.inr (Or.inl ⟨by simp [e1], by simp [e2], fun e => e2 (by rw [e])⟩)
    · exact Or.inr (Or.inr ⟨by simp [e1], fun e => e1 (by rw [e])⟩)
  generalize c1 g = A1 at HP1 HU hcase
  generalize c2 g = B1 at HP1 HU hcase
  generalize c1 h = A2 at HP2 hcase
  generalize c2 h = B2 at HP2 hcase
  clear hg hh
  have hg23 := guard23
  have HE : Hid (∀ w, (Op.equalIn 10000 23 (AH g) (AH h)).run Try.prog w = .ok (decide (g = h)) w) := eq23 g h
  have he2 : ∀ w, (Op.equalIn 10000 23 (AH g) (AH g)).run Try.prog w = .ok true w := fun w => by rw [eq23]; simp
  go_enter Try.func11, Try.ntmps11
  go_wp2_with fail
  refine (HP1.out _).mono ?_
  rintro e w1 ⟨rfl, hb1⟩
  have HB1 : Hid (Below w.heap.size w w1) := (((Below.refl _ _).alloc (Nat.le_refl _) _).alloc (by simp) _).trans (hb1.mono (by simp; omega))
  have HS1 : Hid (SeenH8 w.heap.size g w1 ∧ SeenH8 (w.heap.size + 1) h w1) := by
    constructor
    · refine ⟨?_, ?_, ?_, ?_, ?_, ?_, ?_, ?_⟩
      all_goals exact cell_later hb1 (by rw [World.cell?_alloc_past _ _ _ (by simp), World.cell?_alloc_at _ _ _ _ rfl]; rfl)
    · refine ⟨?_, ?_, ?_, ?_, ?_, ?_, ?_, ?_⟩
      all_goals exact cell_later hb1 (by rw [World.cell?_alloc_at _ _ _ _ (by simp)]; rfl)
  have hz1 : w.heap.size + 1 < w1.heap.size := by have := hb1.size; simp at this; omega
  clear hb1 HP1
  obtain ⟨q0, q1, q2, q3, q4, q5, q6, q7⟩ := HS1.out.2
  go_wp2_with fail
  refine (HP2.out _).mono ?_
  rintro e w2 ⟨rfl, hb2⟩
  have HB2 : Hid (Below w.heap.size w w2) := HB1.out.trans (hb2.mono HB1.out.size)
  have HS2 : Hid (SeenH8 w.heap.size g w2 ∧ SeenH8 (w.heap.size + 1) h w2) := ⟨seenH8_keep HS1.out.1 hb2, seenH8_keep HS1.out.2 hb2⟩
  clear hb2 HP2 HS1 HB1 q0 q1 q2 q3 q4 q5 q6 q7
  go_wp2_with (first | (go_at_call 14; refine (no_any _ _).mono ?_; rintro e w' ⟨rfl, rfl⟩))
  refine (HU.out _).mono ?_
  rintro e w3 ⟨rfl, hb3⟩
  have HB3 : Hid (Below w.heap.size w w3) := HB2.out.trans (hb3.mono HB2.out.size)
  have HS3 : Hid (SeenH8 w.heap.size g w3 ∧ SeenH8 (w.heap.size + 1) h w3) := ⟨seenH8_keep HS2.out.1 hb3, seenH8_keep HS2.out.2 hb3⟩
  have hz3 : w.heap.size < w3.heap.size := by
    have := HS3.out.1.1
    rcases Nat.lt_or_ge w.heap.size w3.heap.size with h | h
    · exact h
    · rw [show w3.cell? ⟨w.heap.size, 0, none⟩ = none by simp [World.cell?, Array.getElem?_eq_none h]] at this; cases this
  have hz3' : w.heap.size + 1 < w3.heap.size := by
    have := HS3.out.2.1
    rcases Nat.lt_or_ge (w.heap.size + 1) w3.heap.size with h | h
    · exact h
    · rw [show w3.cell? ⟨w.heap.size + 1, 0, none⟩ = none by simp [World.cell?, Array.getElem?_eq_none h]] at this; cases this
  clear hb3 HS2 HB2 HU hz1
  obtain ⟨q0, q1, q2, q3, q4, q5, q6, q7⟩ := HS3.out.1
  obtain ⟨p0, p1, p2, p3, p4, p5, p6, p7⟩ := HS3.out.2
  have HB4 : Hid (∀ o, Below w.heap.size w (w3.alloc o)) := fun o => HB3.out.alloc (by omega) o
  rcases hcase with ⟨hc1, hc2, hc3⟩ | ⟨hc1, hc2, hc3⟩ | ⟨hc1, hc3⟩
  · have he : ∀ w, (Op.equalIn 10000 23 (AH g) (AH h)).run Try.prog w = .ok true w := fun w => by rw [HE.out w, decide_eq_true hc3]
    clear hc3 HE
    go_wp2_with (first | (go_at_call 14; refine (no_any _ _).mono ?_; rintro e w' ⟨rfl, rfl⟩) | (go_at_call 22; refine (alive_any _).mono ?_; rintro e w9 ⟨rfl, hb9⟩))
    go_ret
    exact ⟨rfl, (HB4.out _).trans (hb9.mono (HB4.out _).size)⟩
  · have he : ∀ w, (Op.equalIn 10000 23 (AH g) (AH h)).run Try.prog w = .ok false w := fun w => by rw [HE.out w, decide_eq_false hc3]
    clear hc3 HE
    go_wp2_with (first | (go_at_call 14; refine (no_any _ _).mono ?_; rintro e w' ⟨rfl, rfl⟩) | (go_at_call 22; refine (alive_any _).mono ?_; rintro e w9 ⟨rfl, hb9⟩))
    go_ret
    exact ⟨rfl, (HB4.out _).trans (hb9.mono (HB4.out _).size)⟩
  · have he : ∀ w, (Op.equalIn 10000 23 (AH g) (AH h)).run Try.prog w = .ok false w := fun w => by rw [HE.out w, decide_eq_false hc3]
    clear hc3 HE
    go_wp2_with (first | (go_at_call 14; refine (no_any _ _).mono ?_; rintro e w' ⟨rfl, rfl⟩) | (go_at_call 22; refine (alive_any _).mono ?_; rintro e w9 ⟨rfl, hb9⟩))
    go_ret
    exact ⟨rfl, (HB4.out _).trans (hb9.mono (HB4.out _).size)⟩

theorem ObjectApart_any (g h : Hd) (w : World) :
    Calls Try.prog 11 #[AH g, AH h] w fun e w' => e = .returned (.bool true) ∧ Below w.heap.size w w' := by
  by_cases hn : rightE g = 0 ∧ rightE h = 0
  · exact ObjectApart_ok g h w hn.1 hn.2
  · exact ObjectApart_bad g h w hn
end Go.Proofs.Ytnmchcanijkggaa
