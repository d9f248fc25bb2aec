/- The document's token. -/
import Derived.Test.YtidokamfppdnaaaGreatDoorQ5
import Derived.Test.YtidokamfppdnaaaGreatDoorQ6
namespace Go.Proofs.YtidokamfppdnaaaGreatDoor
open Go.RowKit
set_option linter.unusedSimpArgs false
set_option linter.unusedVariables false

/-- What one gives: the token, or the error. -/
def OneR (p : Tk × Int) (r : Ending) : Prop := ∃ X, r = .returned (.tuple #[tv X, .int .i64 p.2]) ∧ (p.2 = 0 → X = p.1)
theorem one_any (s : ByteArray) (k : Nat) (hk : k < s.size) (hs : s.size ≤ 8192) (w : World) :
    Calls Tryz.prog 13 #[.string s, .int .i64 (k : Int)] w fun r w' => OneR (tkAt s k hs) r ∧ Kept No w w' := by
  cases h1 : isLt s[k] with
  | true =>
    rw [tk_name hk hs h1]
    refine (one_name s k hk hs h1 w).mono ?_
    rintro e w' ⟨rfl, hw⟩
    exact ⟨⟨_, rfl, fun _ => rfl⟩, hw⟩
  | false =>
    cases h2 : isDg s[k] with
    | true =>
      rw [tk_numX hk hs h1 h2]
      unfold nuX
      rw [bl_getD s hk, h2, if_pos rfl]
      dsimp only
      generalize hr : rd (s.extract k (k + numL ((bl s).drop k))) _ = R
      obtain ⟨⟨t, v, x⟩, hp⟩ := R
      refine (one_number s k hk hs h1 h2 t v x hp.2 w).mono ?_
      rintro e w' ⟨rfl, hw⟩
      refine ⟨⟨_, rfl, fun h => ?_⟩, hw⟩
      have h' : x = 0 := h
      show _ = (if x = 0 then _ else _)
      rw [if_pos h']
    | false =>
      by_cases h3 : s[k].toNat = 34
      · rw [tk_quote hk hs h1 h2 h3]
        unfold quX
        rw [bl_getD s hk, if_pos h3]
        refine (one_text s k hk hs h1 h2 h3 w).mono ?_
        rintro e w' ⟨hq, hw⟩
        refine ⟨?_, hw⟩
        unfold QP at hq
        cases hl : qL ((bl s).drop (k + 1)) with
        | none =>
          rw [hl] at hq
          obtain ⟨X, rfl⟩ := hq
          exact ⟨X, rfl, fun h => absurd (show (16 : Int) = 0 from h) (by decide)⟩
        | some n =>
          rw [hl] at hq
          dsimp only at hq ⊢
          cases hu : uq (s.extract k (k + n + 2)) with
          | none =>
            rw [hu] at hq
            obtain ⟨X, rfl⟩ := hq
            exact ⟨X, rfl, fun h => absurd (show (16 : Int) = 0 from h) (by decide)⟩
          | some u =>
            rw [hu] at hq
            subst hq
            exact ⟨_, rfl, fun _ => rfl⟩
      · rw [tk_sign hk hs h1 h2 h3]
        cases hg : sgF ((bl s).drop k) sgs with
        | none =>
          refine (one_none s k hk hs h1 h2 h3 hg w).mono ?_
          rintro e w' ⟨⟨X, rfl⟩, hw⟩
          exact ⟨⟨X, rfl, fun h => absurd (show (15 : Int) = 0 from h) (by decide)⟩, hw⟩
        | some g =>
          refine (one_sign s k hk hs h1 h2 h3 g hg w).mono ?_
          rintro e w' ⟨rfl, hw⟩
          exact ⟨⟨_, rfl, fun _ => rfl⟩, hw⟩
end Go.Proofs.YtidokamfppdnaaaGreatDoor
