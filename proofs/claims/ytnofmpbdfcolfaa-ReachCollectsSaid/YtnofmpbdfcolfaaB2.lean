/- rightThing. -/
import Derived.Test.YtnofmpbdfcolfaaB1
namespace Go.Proofs.Ytnofmpbdfcolfaa
open Go.RowKit Go.Shelf
set_option linter.unusedSimpArgs false
set_option linter.unusedVariables false

set_option maxRecDepth 20000 in
set_option maxHeartbeats 4000000 in
theorem rightThing_any (t : Th) (ao : Option Addr) (cap : Nat) (hl : t.sl.length ≤ 1000000) (w : World) :
    Calls Try.prog 32 #[AT t (.slice ao t.sl.length cap)] w fun e w' => e = .returned (.bool (rThing t)) ∧ Kept No w w' := by
  obtain ⟨k, wk, ar, sl, fi⟩ := t
  dsimp only at hl ⊢
  obtain ⟨n, hn⟩ : ∃ n, sl.length = n := ⟨_, rfl⟩
  have HK : Hid (∀ o, Kept No w (w.alloc o)) := fun o => (Kept.refl _ _).alloc _
  have he : rThing ⟨k, wk, ar, sl, fi⟩ = (oT k && (!decide (ar < 0) && (!decide ((if 1 < (n : Int) then (n : Int) - 1 else 0) < ar) && (if k = 5 then decide (0 ≤ wk) && (decide (wk ≤ 3) && decide (0 ≤ fi)) else decide (wk = 0) && decide (fi = 0))))) := by rw [← hn]; rfl
  obtain ⟨r, HR⟩ : ∃ r, Hid (rThing ⟨k, wk, ar, sl, fi⟩ = r) := ⟨_, rfl⟩
  rw [HR.out]
  rw [he] at HR
  rw [hn] at hl ⊢
  clear he hn
  obtain ⟨b, hb⟩ : ∃ b, oT k = b := ⟨_, rfl⟩
  have HO : Hid (∀ W, Calls Try.prog 44 #[.int .i64 k] W fun e w' => e = .returned (.bool b) ∧ W = w') := fun W => by rw [← hb]; exact objectType_any k W
  rw [hb] at HR
  clear hb
  cases b
  · go_enter Try.func32, Try.ntmps32
    go_wp2_with (go_at_call 44; refine (HO.out _).mono ?_; rintro e w' ⟨rfl, rfl⟩)
    go_ret
    exact ⟨by rw [← HR.out]; simp, HK.out _⟩
  · obtain ⟨mx, hmx⟩ : ∃ mx : Int, (if 1 < (n : Int) then (n : Int) - 1 else 0) = mx := ⟨_, rfl⟩
    rw [hmx] at HR
    go_enter Try.func32, Try.ntmps32
    go_wp2_with (first | (go_at_call 44; refine (HO.out _).mono ?_; rintro e w' ⟨rfl, rfl⟩))
    all_goals go_ret
    all_goals refine ⟨?_, HK.out _⟩
    all_goals rw [← HR.out]
    all_goals clear HR HO HK hmx
    all_goals (by_cases hk : k = 5 <;> simp_all <;> first | omega | (rw [Bool.eq_iff_iff]; simp; omega) | (rw [Bool.eq_iff_iff]; simp))
end Go.Proofs.Ytnofmpbdfcolfaa
