/- Rows of tokens that can be read. -/
import Derived.Test.YtidokamfppdnaaaGreatDoorG1
namespace Go.Proofs.YtidokamfppdnaaaGreatDoor
open Go.RowKit
set_option linter.unusedSimpArgs false
set_option linter.unusedVariables false

theorem bl_mk (l : List UInt8) : bl (⟨l.toArray⟩ : ByteArray) = l := by simp [bl]
theorem fl_at (L : List Tk) (j : Nat) (hj : j < L.length) (i : Nat) (hi : i < 7) : (fl L)[j * 7 + i]? = (tc L[j])[i]? := by
  induction L generalizing j with
  | nil => simp at hj
  | cons x r ih =>
    have e : fl (x :: r) = tc x ++ fl r := by simp [fl]
    have hl : (tc x).length = 7 := rfl
    rw [e]
    cases j with
    | zero => rw [List.getElem?_append_left (by rw [hl]; omega)]; simp
    | succ j =>
      rw [List.getElem?_append_right (by rw [hl]; omega), hl, show (j + 1) * 7 + i - 7 = j * 7 + i by omega, ih j (by simpa using hj)]
      simp
theorem TRow.any {w : World} {B : Nat} {v : Value} {L : List Tk} (h : TRow w B v L) : ∃ ao cap, v = .slice ao L.length cap ∧ ∀ j (hj : j < L.length), ∃ g, ao = some ⟨g, 0, none⟩ ∧ ∀ w', Kept No w w' → ∀ i, i < 7 → w'.cell? ⟨g, j * 7 + i, none⟩ = (tc L[j])[i]? := by
  by_cases hL : 0 < L.length
  · obtain ⟨g, cap, rfl, h1, h2, h3, h4⟩ := h.form hL
    refine ⟨_, cap, rfl, fun j hj => ⟨g, rfl, fun w' hk i hi => ?_⟩⟩
    have e := h4 (j * 7 + i) (by omega)
    rw [fl_at L j hj i hi] at e
    rw [← e]
    have : (tc L[j])[i]? = some ((tc L[j])[i]'(by show i < 7; exact hi)) := List.getElem?_eq_getElem _
    rw [this] at e
    rw [e]
    exact cell_kept e hk
  · obtain ⟨h1, ⟨h2, h2'⟩ | ⟨g, cap, cur, h3, h4⟩⟩ := h
    · exact ⟨none, 0, by rw [h2, h2'], fun j hj => by omega⟩
    · exact ⟨_, cap, h3, fun j hj => by omega⟩

theorem TRow.srow {w : World} {B : Nat} {v : Value} {L : List Tk} (h : TRow w B v L) : ∃ ao cap, v = .slice ao L.length cap ∧ SRow w ao L := by
  obtain ⟨ao, cap, hv, hc⟩ := h.any
  refine ⟨ao, cap, hv, fun j hj => ?_⟩
  obtain ⟨g, hg, hcc⟩ := hc j hj
  exact ⟨g, 0, hg, fun w' hk i hi => by rw [Nat.zero_add]; exact hcc w' hk i hi⟩
theorem SRow.no {w w' : World} {ao : Option Addr} {L : List Tk} (h : SRow w ao L) (hk : Kept No w w') : SRow w' ao L := fun j hj => by
  obtain ⟨g, o, hg, hc⟩ := h j hj
  exact ⟨g, o, hg, fun w'' hk' => hc w'' (hk.trans hk')⟩
end Go.Proofs.YtidokamfppdnaaaGreatDoor
