/- earlier: two handles, compared by when their texts were put; a row of ints that is sorted. -/
import Derived.Test.YtnfamebihpnjlaaT1
import Derived.Deep.RegionHeld3
import Derived.StillTail
namespace Go.Proofs.Ytnfamebihpnjlaa
open Go.RowKit
set_option linter.unusedSimpArgs false
set_option linter.unusedVariables false

/-- cmp.Compare of ints. -/
def cmp3 (x y : Int) : Int := if x < y then -1 else if y < x then 1 else 0
theorem isNaN_any (x : Int) (w : World) : Calls Try.prog 56 #[.int .i64 x] w fun e w' => e = .returned (.bool false) ∧ w = w' := by
  go_enter Try.func56, Try.ntmps56
  go_wp2
  go_ret
  exact ⟨rfl, rfl⟩
theorem Compare_any (x y : Int) (w : World) : Calls Try.prog 52 #[.int .i64 x, .int .i64 y] w fun e w' => e = .returned (.int .i64 (cmp3 x y)) ∧ w = w' := by
  obtain ⟨c, hc⟩ : ∃ c, Hid (cmp3 x y = c) := ⟨_, rfl⟩
  rw [hc.out]
  by_cases h1 : x < y
  · have e : c = -1 := by rw [← hc.out]; simp [cmp3, h1]
    subst e
    go_enter Try.func52, Try.ntmps52
    go_wp2_with (go_at_call 56; refine (isNaN_any _ _).mono ?_; rintro e w' ⟨rfl, rfl⟩)
    go_ret
    exact ⟨rfl, rfl⟩
  · by_cases h2 : y < x
    · have e : c = 1 := by rw [← hc.out]; simp [cmp3, h1, h2]
      subst e
      go_enter Try.func52, Try.ntmps52
      go_wp2_with (go_at_call 56; refine (isNaN_any _ _).mono ?_; rintro e w' ⟨rfl, rfl⟩)
      go_ret
      exact ⟨rfl, rfl⟩
    · have e : c = 0 := by rw [← hc.out]; simp [cmp3, h1, h2]
      subst e
      go_enter Try.func52, Try.ntmps52
      go_wp2_with (go_at_call 56; refine (isNaN_any _ _).mono ?_; rintro e w' ⟨rfl, rfl⟩)
      go_ret
      exact ⟨rfl, rfl⟩

/-- When a handle's text was put. -/
def whenE (g : Int → Option (ByteArray × Nat)) (x : Int) : Int := (((g x).getD i0).2 : Nat)

set_option maxRecDepth 20000 in
set_option maxHeartbeats 1000000 in
theorem earlier_any {w : World} {A C n M p nn c : Nat} {g : Int → Option (ByteArray × Nat)} (hA : w.heap[A]? = some (tb C n M p)) (hM : MapIs w M nn c g) {x y : Int} (hx : wf x) (hy : wf y) :
    Calls Try.prog 48 #[.pointer (some ⟨A, 0, none⟩), .int .i64 x, .int .i64 y] w fun e w' => e = .returned (.int .i64 (cmp3 (whenE g x) (whenE g y))) ∧ ∃ m, w' = w.drewN m := by
  obtain ⟨a0, a1, a2⟩ := tb_cells hA
  have l1 : ∀ m, (Instr.lookup 59 (.map (some M)) (.int .i64 x) false).run Try.prog (w.drewN m) = .ok (iV ((g x).getD i0)) (w.drewN m) := fun m => (hM.kept ((Kept.refl No w).drewN m) id).look hx
  have l2 : ∀ m, (Instr.lookup 59 (.map (some M)) (.int .i64 y) false).run Try.prog (w.drewN m) = .ok (iV ((g y).getD i0)) (w.drewN m) := fun m => (hM.kept ((Kept.refl No w).drewN m) id).look hy
  unfold whenE
  generalize (g x).getD i0 = u at l1 ⊢
  generalize (g y).getD i0 = v at l2 ⊢
  obtain ⟨u1, u2⟩ := u
  obtain ⟨v1, v2⟩ := v
  unfold iV at l1 l2
  dsimp only at l1 l2 ⊢
  have f1 := fd64q u1 u2
  have f2 := fd64q v1 v2
  clear hA hM
  go_enter Try.func48, Try.ntmps48
  go_wp2_with fail
  go_quiet (first | (go_at_call 52; exact quiet_same (Compare_any _ _ _)))
  go_wp2
  go_ret
  exact ⟨rfl, _, rfl⟩
end Go.Proofs.Ytnfamebihpnjlaa
