/- Same, of objects. -/
import Derived.Test.YtnmchcanijkggaaS1
import Derived.Test.YtnmchcanijkggaaE1
namespace Go.Proofs.Ytnmchcanijkggaa
open Go.RowKit Go.Lib
set_option linter.unusedVariables false

theorem guard38 : Try.prog.eqGuardType Try.prog.depth 38 = false := by kernel_rfl
theorem stood38 : Try.prog.stoodInHeld 38 = false := by kernel_rfl
theorem fields38 : Try.prog.underlying 38 = some (.struct (Try.prog.fieldsOf 38)) := by kernel_rfl

set_option maxHeartbeats 2000000 in
theorem RSame_head (g h : Hd) (a1 s1 a2 s2 : Value) (w : World) (hn : g ≠ h) :
    Calls Try.prog 31 #[AO g a1 s1, AO h a2 s2] w fun e w' => e = .returned (.bool false) ∧ Below w.heap.size w w' := by
  have hg := guard23
  have he : ∀ w, (Op.equalIn 10000 23 (AH g) (AH h)).run Try.prog w = .ok false w := fun w => by rw [eq23, decide_eq_false hn]
  clear hn
  go_enter Try.func31, Try.ntmps31
  go_wp2
  go_ret
  exact ⟨rfl, ((Below.refl _ _).alloc (Nat.le_refl _) _).alloc (by simp) _⟩

set_option maxHeartbeats 2000000 in
theorem RSame_len (g : Hd) (x1 y1 x2 y2 : Option Addr) (n1 c1 m1 d1 n2 c2 m2 d2 : Nat) (w : World) (hn : ¬ (n1 = n2 ∧ m1 = m2)) :
    Calls Try.prog 31 #[AO g (.slice x1 n1 c1) (.slice y1 m1 d1), AO g (.slice x2 n2 c2) (.slice y2 m2 d2)] w fun e w' => e = .returned (.bool false) ∧ Below w.heap.size w w' := by
  have hg := guard23
  have he : ∀ w, (Op.equalIn 10000 23 (AH g) (AH g)).run Try.prog w = .ok true w := fun w => by rw [eq23]; simp
  by_cases h1 : n1 = n2
  · subst h1
    have e2 : ((m1 : Int) != (m2 : Int)) = true := by simp; omega
    clear hn
    go_enter Try.func31, Try.ntmps31
    go_wp2
    go_ret
    exact ⟨rfl, ((Below.refl _ _).alloc (Nat.le_refl _) _).alloc (by simp) _⟩
  · have e1 : ((n1 : Int) != (n2 : Int)) = true := by simp; omega
    clear hn h1
    go_enter Try.func31, Try.ntmps31
    go_wp2
    go_ret
    exact ⟨rfl, ((Below.refl _ _).alloc (Nat.le_refl _) _).alloc (by simp) _⟩
end Go.Proofs.Ytnmchcanijkggaa
