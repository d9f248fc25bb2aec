/- alive. -/
import Derived.Test.YtidokamfppdnaaaGreatDoorD3
namespace Go.Proofs.YtidokamfppdnaaaGreatDoor
open Go.RowKit
set_option linter.unusedSimpArgs false
set_option linter.unusedVariables false

theorem TRow.form {w : World} {B : Nat} {v : Value} {L : List Tk} (h : TRow w B v L) (hL : 0 < L.length) : ∃ g cap, v = .slice (some ⟨g, 0, none⟩) L.length cap ∧ L.length ≤ cap ∧ B ≤ g ∧ g < w.heap.size ∧ ∀ i, i < L.length * 7 → w.cell? ⟨g, i, none⟩ = (fl L)[i]? := by
  obtain ⟨h1, ⟨h2, h2'⟩ | ⟨g, cap, cur, h3, h4, h5, h6, h7, h8, h9⟩⟩ := h
  · omega
  · refine ⟨g, cap, h3, h6, h4, hp_lt h5, fun i hi => ?_⟩
    rw [cell_of h5, ← h9, List.getElem?_take, if_pos hi, Array.getElem?_toList]
theorem lex1 (w : World) (he : ErrIs w) (hg : SgIs w) : Calls Tryz.prog 4 #[.string ⟨#[97, 61, 49, 46, 46, 50]⟩] w fun r w' => (∃ g cap, r = .returned (.tuple #[.slice (some ⟨g, 0, none⟩) 5 cap, .int .i64 0, .int .i64 0]) ∧ w'.cell? ⟨g, 22, none⟩ = some (.string ⟨#[46, 46]⟩)) ∧ Kept No w w' := by
  obtain ⟨a, b, c, d, h⟩ := ex1
  refine (Lex_is s1 w he hg hs1 h).mono ?_
  rintro r w' ⟨⟨v, rfl, hr⟩, hk⟩
  obtain ⟨g, cap, rfl, _, _, _, hc⟩ := hr.form (by simp)
  refine ⟨⟨g, cap, rfl, ?_⟩, hk⟩
  rw [hc 22 (by simp)]
  rfl
theorem lex2 (w : World) (he : ErrIs w) (hg : SgIs w) : Calls Tryz.prog 4 #[.string ⟨#[120, 45, 45, 121]⟩] w fun r w' => (∃ g cap, r = .returned (.tuple #[.slice (some ⟨g, 0, none⟩) 1 cap, .int .i64 0, .int .i64 0])) ∧ Kept No w w' := by
  refine (Lex_is s2 w he hg hs2 ex2).mono ?_
  rintro r w' ⟨⟨v, rfl, hr⟩, hk⟩
  obtain ⟨g, cap, rfl, _⟩ := hr.form (by simp)
  exact ⟨⟨g, cap, rfl⟩, hk⟩
theorem lex3 (w : World) (he : ErrIs w) (hg : SgIs w) : Calls Tryz.prog 4 #[.string ⟨#[97, 32, 36]⟩] w fun r w' => r = .returned (.tuple #[.slice none 0 0, .int .i64 2, .int .i64 15]) ∧ Kept No w w' := by
  refine (Lex_is s3 w he hg hs3 ex3).mono ?_
  rintro r w' ⟨hr, hk⟩
  exact ⟨hr, hk⟩
theorem lex4 (w : World) (he : ErrIs w) (hg : SgIs w) : Calls Tryz.prog 4 #[.string ⟨#[34, 97]⟩] w fun r w' => r = .returned (.tuple #[.slice none 0 0, .int .i64 0, .int .i64 16]) ∧ Kept No w w' := by
  refine (Lex_is s4 w he hg hs4 ex4).mono ?_
  rintro r w' ⟨hr, hk⟩
  exact ⟨hr, hk⟩
theorem wd1 (w : World) : Calls Tryz.prog 14 #[.string ⟨#[119, 104, 105, 108, 101]⟩] w fun e w' => e = .returned (.bool true) ∧ Kept No w w' := Word_any ⟨#[119, 104, 105, 108, 101]⟩ w (by decide)
theorem wd2 (w : World) : Calls Tryz.prog 14 #[.string ⟨#[120]⟩] w fun e w' => e = .returned (.bool false) ∧ Kept No w w' := Word_any ⟨#[120]⟩ w (by decide)

set_option maxRecDepth 20000 in
set_option maxHeartbeats 4000000 in
theorem alive_any (w : World) (he : ErrIs w) (hg : SgIs w) :
    Calls Tryz.prog 8 #[] w fun r w' => r = .returned (.bool true) ∧ Kept No w w' := by
  have HE : Hid (∀ w', Kept No w w' → ErrIs w' ∧ SgIs w') := fun w' hk => ⟨he.no hk, hg.no hk⟩
  have HN : Hid (∀ (x : Int) w, Calls Tryz.prog 7 #[.int .i64 x] w fun e w' => e = .returned (.int .i64 x) ∧ w = w') := no_any
  clear he hg
  go_enter Tryz.func8, Tryz.ntmps8
  go_wp2_with fail
  refine Calls.mono (lex1 w (HE.out w (Kept.refl _ _)).1 (HE.out w (Kept.refl _ _)).2) ?_
  rintro e W1 ⟨⟨g, cap, rfl, hc⟩, hk1⟩
  have H1 : Hid (Kept No w W1 ∧ W1.cell? ⟨g, 22, none⟩ = some (.string ⟨#[46, 46]⟩)) := ⟨hk1, hc⟩
  clear hk1 hc
  go_wp2_with fail
  refine Calls.mono (lex2 _ (HE.out _ H1.out.1).1 (HE.out _ H1.out.1).2) ?_
  rintro e W2 ⟨⟨g2, cap2, rfl⟩, hk2⟩
  have H2 : Hid (Kept No w W2 ∧ W2.cell? ⟨g, 22, none⟩ = some (.string ⟨#[46, 46]⟩)) := ⟨H1.out.1.trans hk2, cell_kept H1.out.2 hk2⟩
  clear hk2 H1
  go_wp2_with fail
  refine Calls.mono (lex3 _ (HE.out _ H2.out.1).1 (HE.out _ H2.out.1).2) ?_
  rintro e W3 ⟨rfl, hk3⟩
  have H3 : Hid (Kept No w W3 ∧ W3.cell? ⟨g, 22, none⟩ = some (.string ⟨#[46, 46]⟩)) := ⟨H2.out.1.trans hk3, cell_kept H2.out.2 hk3⟩
  clear hk3 H2
  go_wp2_with fail
  refine Calls.mono (lex4 _ (HE.out _ H3.out.1).1 (HE.out _ H3.out.1).2) ?_
  rintro e W4 ⟨rfl, hk4⟩
  have c4 := cell_kept H3.out.2 hk4
  have HK4 : Hid (Kept No w W4) := H3.out.1.trans hk4
  clear hk4 H3 HE
  go_wp2_with (go_at_call 7; refine Calls.mono (HN.out _ _) ?_; rintro e w' ⟨rfl, rfl⟩)
  refine Calls.mono (wd1 _) ?_
  rintro e W5 ⟨rfl, hk5⟩
  have HK5 : Hid (Kept No w W5) := HK4.out.trans hk5
  clear hk5 HK4 c4
  go_wp2_with fail
  refine Calls.mono (wd2 _) ?_
  rintro e W6 ⟨rfl, hk6⟩
  have HK6 : Hid (Kept No w W6) := HK5.out.trans hk6
  clear hk6 HK5
  go_wp2_with fail
  go_ret
  exact ⟨rfl, HK6.out⟩
end Go.Proofs.YtidokamfppdnaaaGreatDoor
