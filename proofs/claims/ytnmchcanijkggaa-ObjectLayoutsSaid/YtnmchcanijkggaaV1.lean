/- The chapter's examples. -/
import Derived.Test.YtnmchcanijkggaaS3
import Derived.Test.YtnmchcanijkggaaL7
namespace Go.Proofs.Ytnmchcanijkggaa
open Go.RowKit Go.Lib
set_option linter.unusedVariables false

def hA : Hd := ⟨4, 0, 0, 0, 0, 0, 2, 0⟩
def hB : Hd := ⟨7, 3, 4, 0, 2, 0, 0, 1⟩

theorem slice_arr {W : World} (N : Nat) (hN : N = W.heap.size) (zs : List Int) (n : Nat) (hn : zs.length = n) (o : Obj) (ho : o = .cells (ic zs).toArray 2) : SliceIs (W.alloc o) (.slice (some ⟨N, 0, none⟩) n n) zs := by
  subst ho; subst hn
  refine Or.inr ⟨N, 0, zs.length, rfl, fun i hi => ?_⟩
  rw [Nat.zero_add, World.cell?_alloc_at _ _ _ _ hN]
  simp [ic, List.getD, List.getElem?_eq_getElem hi]

/-- The object of the second example. -/
theorem box_pairs {W : World} (N : Nat) (hN : N = W.heap.size) : PairsIs (W.alloc (.cells #[.int .i64 2, .int .i64 7] 38)) (.slice (some ⟨N, 0, none⟩) 1 1) [(2, 7)] := by
  refine Or.inr ⟨N, 0, 1, rfl, fun i hi => ?_⟩
  have hi2 : i < 1 := hi
  obtain rfl : i = 0 := by omega
  constructor
  · rw [World.cell?_alloc_at _ _ _ _ hN]; rfl
  · rw [World.cell?_alloc_at _ _ _ _ hN]; rfl

theorem isNum27 : valB 2 7 = true := rfl
theorem wrongA : wrongE hA 2 [] = 0 := by decide
theorem wrongB : wrongE hB 0 [(2, 7)] = 0 := by decide
theorem cellsA : cellsL hA [2, 25185] [] = [4, 2, 2, 25185] := by decide
theorem cellsB : cellsL hB [] [(2, 7)] = [4407, 8192, 2, 7] := by decide
theorem readsB : readB [4407, 8192, 2, 7] = true ∧ headOf [4407, 8192, 2, 7] = hB ∧ auxOf [4407, 8192, 2, 7] = [] ∧ slotsOf [4407, 8192, 2, 7] = [(2, 7)] := by decide
theorem sizeB : sizeN hB = 4 := by decide
theorem layB : (if (decide (([] : List Int).length = 0 ∧ [((2 : Int), (7 : Int))].length = 1) && !deadN [(2, 7)]) then (0 : Int) else 6) = 0 := by decide

theorem pall27 : Pall [(2, 7)] := by
  intro p hp
  simp only [List.mem_singleton] at hp
  subst hp
  exact ⟨⟨by decide, by decide⟩, ⟨by decide, by decide⟩⟩

theorem Row.room {w : World} {base : Nat} {v : Value} {zs : List Int} (h : Row w base v zs) : RoomOK v := by
  intro ao n c e
  rcases h.2 with ⟨rfl, _⟩ | ⟨g, cap, cur, rfl, _, _, h1, h2, _⟩
  · injection e with e1 e2 e3; omega
  · injection e with e1 e2 e3
    unfold maxLen at h2; omega
theorem iallB : Iall [4407, 8192, 2, 7] := by
  intro z hz
  simp only [List.mem_cons, List.not_mem_nil, or_false] at hz
  rcases hz with rfl | rfl | rfl | rfl <;> exact ⟨by decide, by decide⟩

set_option maxHeartbeats 2000000 in
theorem alive_any (w : World) :
    Calls Try.prog 22 #[] w fun e w' => e = .returned (.bool true) ∧ Below w.heap.size w w' := by
  have H1 : Hid (Calls Try.prog 26 #[AO hA (.slice (some ⟨w.heap.size, 0, none⟩) 2 2) (.slice none 0 0)] (w.alloc (.cells #[.int .i64 2, .int .i64 25185] 2)) fun e w' => (∃ ao c, e = .returned (.tuple #[.slice ao 4 c, .int .i64 0]) ∧ SliceIs w' (.slice ao 4 c) [4, 2, 2, 25185]) ∧ Below w.heap.size w w') := by
    refine (Cells_ok hA _ _ [2, 25185] [] _ (slice_arr w.heap.size rfl [2, 25185] 2 rfl _ rfl) (Or.inl ⟨_, rfl, rfl⟩) (fun p hp => by cases hp) (by decide) (by decide) wrongA).mono ?_
    rintro e w' ⟨⟨v, he, hrow⟩, hb⟩
    rw [cellsA] at hrow
    obtain ⟨ao, c, hv⟩ := hrow.slice.form
    have hs := hrow.slice
    rw [hv] at he hs
    exact ⟨⟨ao, c, he, hs⟩, ((Below.refl _ _).alloc (Nat.le_refl _) _).trans (hb.mono (by simp))⟩
  have H2 : Hid (∀ (W : World) (N : Nat), PairsIs W (.slice (some ⟨N, 0, none⟩) 1 1) [(2, 7)] → Calls Try.prog 26 #[AO hB (.slice none 0 0) (.slice (some ⟨N, 0, none⟩) 1 1)] W fun e w' => (∃ ao c, e = .returned (.tuple #[.slice ao 4 c, .int .i64 0]) ∧ SliceIs w' (.slice ao 4 c) [4407, 8192, 2, 7] ∧ RoomOK (.slice ao 4 c)) ∧ Below W.heap.size W w') := by
    intro W N hp
    refine (Cells_ok hB _ _ [] [(2, 7)] W (Or.inl ⟨_, rfl, rfl⟩) hp pall27 (by decide) (by decide) wrongB).mono ?_
    rintro e w' ⟨⟨v, he, hrow⟩, hb⟩
    rw [cellsB] at hrow
    obtain ⟨ao, c, hv⟩ := hrow.slice.form
    have hs := hrow.slice
    have hr := hrow.room
    rw [hv] at he hs hr
    exact ⟨⟨ao, c, he, hs, hr⟩, hb⟩
  have H3 : Hid (∀ (W : World) (ao : Option Addr) (c : Nat), SliceIs W (.slice ao 4 c) [4407, 8192, 2, 7] → RoomOK (.slice ao 4 c) → Calls Try.prog 29 #[.slice ao 4 c] W fun e w' => (∃ xo nx cx yo ny cy, e = .returned (.tuple #[AO hB (.slice xo nx cx) (.slice yo ny cy), .int .i64 0]) ∧ SliceIs w' (.slice xo nx cx) [] ∧ PairsIs w' (.slice yo ny cy) [(2, 7)]) ∧ Below W.heap.size W w') := by
    intro W ao c hs hr
    refine (Read_any _ _ W hs hr iallB (by decide)).mono ?_
    rintro e w' ⟨hout, hb⟩
    refine ⟨?_, hb⟩
    obtain ⟨r1, r2, r3, r4⟩ := readsB
    rcases hout with ⟨_, av, sv, he, ha, hp⟩ | ⟨hf, _⟩
    · rw [r3] at ha
      rw [r4] at hp
      rw [r2] at he
      obtain ⟨xo, cx, hx⟩ := ha.slice.form
      obtain ⟨yo, cy, hy⟩ := hp.pairs.form
      have ha' := ha.slice
      have hp' := hp.pairs
      rw [hx] at he ha'
      rw [hy] at he hp'
      exact ⟨xo, _, cx, yo, _, cy, he, ha', hp'⟩
    · rw [r1] at hf; cases hf
  have H4 : Hid (∀ (W : World) (xo : Option Addr) (nx cx : Nat) (yo : Option Addr) (ny cy N : Nat), SliceIs W (.slice xo nx cx) [] → PairsIs W (.slice yo ny cy) [(2, 7)] → PairsIs W (.slice (some ⟨N, 0, none⟩) 1 1) [(2, 7)] →
      Calls Try.prog 31 #[AO hB (.slice xo nx cx) (.slice yo ny cy), AO hB (.slice none 0 0) (.slice (some ⟨N, 0, none⟩) 1 1)] W fun e w' => e = .returned (.bool true) ∧ Below W.heap.size W w') := by
    intro W xo nx cx yo ny cy N h1 h2 h3
    have := RSame_any hB hB _ _ (.slice none 0 0) _ [] [] [(2, 7)] [(2, 7)] W h1 h2 (Or.inl ⟨none, rfl, rfl⟩) h3 (by decide) (by decide)
    rwa [show decide (hB = hB ∧ ([] : List Int) = [] ∧ [((2 : Int), (7 : Int))] = [(2, 7)]) = true by decide] at this
  have H5 : Hid (∀ (W : World) (N : Nat), PairsIs W (.slice (some ⟨N, 0, none⟩) 1 1) [(2, 7)] → Calls Try.prog 32 #[AO hB (.slice none 0 0) (.slice (some ⟨N, 0, none⟩) 1 1)] W fun e w' => e = .returned (.int .i64 0) ∧ Below W.heap.size W w') := by
    intro W N hp
    exact Layout_7 hB _ _ [] [(2, 7)] W (Or.inl ⟨_, rfl, rfl⟩) hp pall27 (by decide) (by decide) wrongB rfl (decide (0 = 0 ∧ 1 = 1)) (deadN [(2, 7)])
      (fun W' hb => fitsBox_any hB none _ 0 0 1 1 W')
      (fun W' _ hb => dead_nil _ rfl hB _ _ 1 1 [(2, 7)] W' rfl (by decide) (hp.later hb) 60 rfl none 0 0 rfl) 0 (by decide)
  have H6 : Hid (∀ W, Calls Try.prog 16 #[AH hB] W fun e w' => e = .returned (.int .i64 4) ∧ Below W.heap.size W w') := fun W => by have := Size_any hB W; rwa [sizeB] at this
  have H7 : Hid (∀ (W : World) (a b : Value) (zs : List Int), SliceIs W a zs → SliceIs W b zs → zs.length ≤ 4 → Calls Try.prog 28 #[a, b] W fun e w' => e = .returned (.bool true) ∧ Below W.heap.size W w') := by
    intro W a b zs h1 h2 h3
    have := Same_any a b zs zs W h1 h2 (by omega)
    rwa [show decide (zs = zs) = true by simp] at this
  go_enter Try.func22, Try.ntmps22
  go_wp2_with fail
  refine (H1.out).mono ?_
  rintro e w1 ⟨⟨ao, c, rfl, hs1⟩, hb1⟩
  have HS1 : Hid (SliceIs w1 (.slice ao 4 c) [4, 2, 2, 25185]) := hs1
  have HB1 : Hid (Below w.heap.size w w1) := hb1
  clear hb1 hs1 H1
  have HW : Hid (∀ o, PairsIs ((w1.alloc (.cells #[.int .i64 2, .int .i64 7] 38)).alloc o) (.slice (some ⟨w1.heap.size, 0, none⟩) 1 1) [(2, 7)]) := fun o => (box_pairs w1.heap.size rfl).later ((Below.refl _ _).alloc (Nat.le_refl _) _)
  go_wp2_with fail
  refine (H2.out _ w1.heap.size (HW.out _)).mono ?_
  rintro e w2 ⟨⟨ao2, c2', rfl, hs2, hr2⟩, hb2⟩
  have HB02 : Hid (Below w1.heap.size w1 w2) := (((Below.refl _ _).alloc (Nat.le_refl _) _).alloc (by simp) _).trans (hb2.mono (by simp; omega))
  have HSB : Hid (SeenO (w1.heap.size + 1) hB (.slice none 0 0) (.slice (some ⟨w1.heap.size, 0, none⟩) 1 1) w2) := by
    refine seenO_keep (W := (w1.alloc (.cells #[.int .i64 2, .int .i64 7] 38)).alloc (.cells #[.int .i64 7, .int .i64 3, .int .i64 4, .int .i64 0, .int .i64 2, .int .i64 0, .int .i64 0, .int .i64 1, .slice none 0 0, .slice (some ⟨w1.heap.size, 0, none⟩) 1 1] 43)) ?_ hb2
    have := seenO_new hB (.slice none 0 0) (.slice (some ⟨w1.heap.size, 0, none⟩) 1 1) (w1.alloc (.cells #[.int .i64 2, .int .i64 7] 38))
    have e : (w1.alloc (.cells #[.int .i64 2, .int .i64 7] 38)).heap.size = w1.heap.size + 1 := by simp
    rw [e] at this
    exact this
  have HP2 : Hid (PairsIs w2 (.slice (some ⟨w1.heap.size, 0, none⟩) 1 1) [(2, 7)]) := (HW.out _).later hb2
  have hz2 : w1.heap.size + 1 < w2.heap.size := by have := hb2.size; simp at this; omega
  have HS2 : Hid (SliceIs w2 (.slice ao2 4 c2') [4407, 8192, 2, 7] ∧ RoomOK (.slice ao2 4 c2')) := ⟨hs2, hr2⟩
  have HS12 : Hid (SliceIs w2 (.slice ao 4 c) [4, 2, 2, 25185]) := HS1.out.later HB02.out
  clear hb2 hs2 hr2 H2 HW HS1
  go_wp2_with fail
  refine (H3.out _ ao2 c2' HS2.out.1 HS2.out.2).mono ?_
  rintro e w3 ⟨⟨xo, nx, cx, yo, ny, cy, rfl, hx3, hy3⟩, hb3⟩
  have HX3 : Hid (SliceIs w3 (.slice xo nx cx) [] ∧ PairsIs w3 (.slice yo ny cy) [(2, 7)]) := ⟨hx3, hy3⟩
  have HSB3 : Hid (SeenO (w1.heap.size + 1) hB (.slice none 0 0) (.slice (some ⟨w1.heap.size, 0, none⟩) 1 1) w3) := seenO_keep HSB.out hb3
  have HP3 : Hid (PairsIs w3 (.slice (some ⟨w1.heap.size, 0, none⟩) 1 1) [(2, 7)] ∧ SliceIs w3 (.slice ao 4 c) [4, 2, 2, 25185] ∧ SliceIs w3 (.slice ao2 4 c2') [4407, 8192, 2, 7]) := ⟨HP2.out.later hb3, HS12.out.later hb3, HS2.out.1.later hb3⟩
  have HB3 : Hid (Below w.heap.size w w3) := (HB1.out.trans (HB02.out.mono HB1.out.size)).trans (hb3.mono (by have := HB1.out.size; omega))
  have hz3 : w1.heap.size + 1 < w3.heap.size := by have := hb3.size; omega
  have hz3w : w.heap.size ≤ w3.heap.size := HB3.out.size
  clear hb3 hx3 hy3 H3 HSB HP2 HS2 HS12 HB02
  have hbn : Below w3.heap.size w3 ((w3.alloc (.cells #[.int .i64 hB.k, .int .i64 hB.c, .int .i64 hB.a, .int .i64 hB.w, .int .i64 hB.s, .int .i64 hB.f, .int .i64 hB.x, .int .i64 hB.l, .slice xo nx cx, .slice yo ny cy] 43)).alloc (.cells #[.int .i64 4, .int .i64 2, .int .i64 2, .int .i64 25185] 2)) := ((Below.refl _ _).alloc (Nat.le_refl _) _).alloc (by simp) _
  have HN3 : Hid (SeenO w3.heap.size hB (.slice xo nx cx) (.slice yo ny cy) ((w3.alloc (.cells #[.int .i64 hB.k, .int .i64 hB.c, .int .i64 hB.a, .int .i64 hB.w, .int .i64 hB.s, .int .i64 hB.f, .int .i64 hB.x, .int .i64 hB.l, .slice xo nx cx, .slice yo ny cy] 43)).alloc (.cells #[.int .i64 4, .int .i64 2, .int .i64 2, .int .i64 25185] 2))) := seenO_keep (seenO_new hB _ _ w3) ((Below.refl _ _).alloc (Nat.le_refl _) _)
  have HBn : Hid (Below w3.heap.size w3 ((w3.alloc (.cells #[.int .i64 hB.k, .int .i64 hB.c, .int .i64 hB.a, .int .i64 hB.w, .int .i64 hB.s, .int .i64 hB.f, .int .i64 hB.x, .int .i64 hB.l, .slice xo nx cx, .slice yo ny cy] 43)).alloc (.cells #[.int .i64 4, .int .i64 2, .int .i64 2, .int .i64 25185] 2))) := hbn
  clear hbn
  go_wp2_with (first | (go_at_call 14; refine (no_any _ _).mono ?_; rintro e w' ⟨rfl, rfl⟩))
  refine (H7.out _ _ _ [4, 2, 2, 25185] (HP3.out.2.1.later HBn.out) (slice_arr (w3.heap.size + 1) (by simp) [4, 2, 2, 25185] 4 rfl _ rfl) (by decide)).mono ?_
  rintro e w4 ⟨rfl, hb4⟩
  have HN4 : Hid (SeenO w3.heap.size hB (.slice xo nx cx) (.slice yo ny cy) w4) := seenO_keep HN3.out hb4
  have HB34 : Hid (Below w3.heap.size w3 w4) := HBn.out.trans (hb4.mono HBn.out.size)
  clear hb4 HN3 HBn
  have hz4 : w3.heap.size < w4.heap.size := by
    have := HN4.out.1
    rcases Nat.lt_or_ge w3.heap.size w4.heap.size with h | h
    · exact h
    · rw [show w4.cell? ⟨w3.heap.size, 0, none⟩ = none by simp [World.cell?, Array.getElem?_eq_none h]] at this; cases this
  have HN5 : Hid (∀ o, SeenO w3.heap.size hB (.slice xo nx cx) (.slice yo ny cy) (w4.alloc o) ∧ Below w3.heap.size w3 (w4.alloc o)) := fun o => ⟨seenO_keep HN4.out ((Below.refl _ _).alloc (Nat.le_refl _) o), HB34.out.alloc (by omega) o⟩
  go_wp2_with (first | (go_at_call 14; refine (no_any _ _).mono ?_; rintro e w' ⟨rfl, rfl⟩))
  refine (H7.out _ _ _ [4407, 8192, 2, 7] (HP3.out.2.2.later (HN5.out _).2) (slice_arr w4.heap.size rfl [4407, 8192, 2, 7] 4 rfl _ rfl) (by decide)).mono ?_
  rintro e w5 ⟨rfl, hb5⟩
  have HN6 : Hid (SeenO w3.heap.size hB (.slice xo nx cx) (.slice yo ny cy) w5) := seenO_keep (HN5.out _).1 hb5
  have HB35 : Hid (Below w3.heap.size w3 w5) := (HN5.out _).2.trans (hb5.mono (HN5.out _).2.size)
  have HSB5 : Hid (SeenO (w1.heap.size + 1) hB (.slice none 0 0) (.slice (some ⟨w1.heap.size, 0, none⟩) 1 1) w5) := seenO_keep HSB3.out HB35.out
  clear hb5 HN5 HN4 HB34 H7
  obtain ⟨p0, p1, p2, p3, p4, p5, p6, p7, p8, p9⟩ := HN6.out
  obtain ⟨q0, q1, q2, q3, q4, q5, q6, q7, q8, q9⟩ := HSB5.out
  go_wp2_with (first | (go_at_call 14; refine (no_any _ _).mono ?_; rintro e w' ⟨rfl, rfl⟩))
  refine (H4.out _ xo nx cx yo ny cy w1.heap.size (HX3.out.1.later HB35.out) (HX3.out.2.later HB35.out) (HP3.out.1.later HB35.out)).mono ?_
  rintro e w6 ⟨rfl, hb6⟩
  have HB36 : Hid (Below w3.heap.size w3 w6) := HB35.out.trans (hb6.mono HB35.out.size)
  have HSB6 : Hid (SeenO (w1.heap.size + 1) hB (.slice none 0 0) (.slice (some ⟨w1.heap.size, 0, none⟩) 1 1) w6) := seenO_keep HSB3.out HB36.out
  clear hb6 HB35 HSB5 HN6 H4 p0 p1 p2 p3 p4 p5 p6 p7 p8 p9 q0 q1 q2 q3 q4 q5 q6 q7 q8 q9
  obtain ⟨q0, q1, q2, q3, q4, q5, q6, q7, q8, q9⟩ := HSB6.out
  go_wp2_with fail
  refine (H5.out _ w1.heap.size (HP3.out.1.later HB36.out)).mono ?_
  rintro e w7 ⟨rfl, hb7⟩
  have HB37 : Hid (Below w3.heap.size w3 w7) := HB36.out.trans (hb7.mono HB36.out.size)
  have HSB7 : Hid (SeenO (w1.heap.size + 1) hB (.slice none 0 0) (.slice (some ⟨w1.heap.size, 0, none⟩) 1 1) w7) := seenO_keep HSB3.out HB37.out
  clear hb7 HB36 HSB6 H5 q0 q1 q2 q3 q4 q5 q6 q7 q8 q9
  obtain ⟨q0, q1, q2, q3, q4, q5, q6, q7, q8, q9⟩ := HSB7.out
  go_wp2_with (first | (go_at_call 14; refine (no_any _ _).mono ?_; rintro e w' ⟨rfl, rfl⟩))
  refine (H6.out _).mono ?_
  rintro e w8 ⟨rfl, hb8⟩
  have HB8 : Hid (Below w.heap.size w w8) := HB3.out.trans ((HB37.out.trans (hb8.mono HB37.out.size)).mono hz3w)
  clear hb8 HB37 HSB7 H6 HSB3 HP3 HX3 q0 q1 q2 q3 q4 q5 q6 q7 q8 q9
  go_wp2
  go_ret
  exact ⟨rfl, HB8.out⟩
end Go.Proofs.Ytnmchcanijkggaa
