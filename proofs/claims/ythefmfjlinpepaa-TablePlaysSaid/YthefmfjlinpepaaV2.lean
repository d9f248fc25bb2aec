/- Len. -/
import Derived.Test.YthefmfjlinpepaaP2
namespace Go.Proofs.Ythefmfjlinpepaa
open Go.RowKit Go.Shelf
set_option linter.unusedSimpArgs false
set_option linter.unusedVariables false
attribute [local go_sem] Oper.semAt_some

set_option maxRecDepth 20000 in
set_option maxHeartbeats 4000000 in
theorem Len_any {w : World} {P : Nat} {most : Int} {a n nn : Nat} {sl : Sl} (h : Tb w P most a n nn sl) (m : Nat) (hm : m ≤ 1000000) (h0 : (getR a n sl 2 ((m : Int) + 1)).1 = 0) (h1 : ∀ j : Nat, j < m → (getR a n sl 2 ((j : Int) + 1)).1 ≠ 0) :
    Calls Try.prog 23 #[MI P] w fun e w' => e = .returned (.int .i64 (m : Int)) ∧ Kept No w w' := by
  have HT : Hid (Tb w P most a n nn sl) := h
  have H0 : Hid ((getR a n sl 2 ((m : Int) + 1)).1 = 0) := h0
  have H1 : Hid (∀ j : Nat, j < m → (getR a n sl 2 ((j : Int) + 1)).1 ≠ 0) := h1
  clear h h0 h1
  go_enter Try.func23, Try.ntmps23
  go_wp2_with fail
  go_loopw [3] (fun i wr => ∃ j : Nat, j ≤ m ∧ i = .int .i64 j ∧ Hid (Kept No w wr)) (fun i _ => m - (intOf i).toNat)
  case atStart => exact ⟨0, Nat.zero_le _, rfl, Kept.refl _ _⟩
  case round =>
    obtain ⟨j, hj, rfl, HK⟩ := hrel
    go_wp2_with fail
    refine (Int_any _ _).mono ?_
    rintro e w1 ⟨rfl, hb1⟩
    have HK1 : Hid (Kept No w w1) := HK.out.trans (Kept.of_below hb1)
    have HG := @Get_any w1 P most a n nn sl (HT.out.no HK1.out) 2 ((j : Int) + 1) (by constructor <;> omega)
    have HZ : Hid ((getR a n sl 2 ((j : Int) + 1)).1 = 0 ↔ j = m) := by
      constructor
      · intro hz
        rcases Nat.lt_or_ge j m with h | h
        · exact absurd hz (H1.out j h)
        · omega
      · rintro rfl; exact H0.out
    clear hb1
    generalize getR a n sl 2 ((j : Int) + 1) = g at HG HZ
    obtain ⟨g1, g2⟩ := g
    have HG' : Hid (Calls Try.prog 19 #[MI P, AV 2 ((j : Int) + 1)] w1 fun e w' => e = .returned (iV (g1, g2)) ∧ Kept No w1 w') := HG
    clear HG
    go_wp2_with fail
    refine HG'.out.mono ?_
    rintro e w2 ⟨rfl, hk2⟩
    have HK2 : Hid (Kept No w w2) := HK1.out.trans hk2
    clear hk2 HG'
    go_wp2_with fail
    refine (isNil_any g1 g2 _).mono ?_
    rintro e w3 ⟨rfl, hb3⟩
    have HK3 : Hid (Kept No w w3) := HK2.out.trans (Kept.of_below hb3)
    clear hb3
    cases hg : (g1 == 0)
    · have hne : j ≠ m := by
        intro e
        have := HZ.out.2 e
        simp [this] at hg
      go_wp2
      go_roundw
      case rel => exact ⟨j + 1, by omega, by go_num, HK3.out⟩
      case measure => simp [intOf]; omega
    · have he : j = m := HZ.out.1 (by simpa using hg)
      subst he
      go_wp2
      go_ret
      exact ⟨rfl, HK3.out⟩
end Go.Proofs.Ythefmfjlinpepaa
