import Derived.Test.YtmoiikpjegbokaaGreatDoorGA
/- A call has one answer. -/
namespace Go.Proofs.YtmoiikpjegbokaaGreatDoor
open Go.RowKit
theorem ends_det {P : Program} : ∀ (n k : Nat) (m m1 m2 : Machine) (o1 o2 : Outcome) (w1 w2 : World), runN P n m = .next m1 → step P m1 = .ended o1 w1 → runN P k m = .next m2 → step P m2 = .ended o2 w2 → o1 = o2 ∧ w1 = w2 := by
  intro n;induction n with
  | zero =>
    intro k m m1 m2 o1 o2 w1 w2 h1 s1 h2 s2;simp [runN] at h1
    subst h1;cases k with
    | zero =>
      simp [runN] at h2
      subst h2;rw [s1] at s2;simp at s2;exact s2
    | succ k =>
      simp only [runN] at h2;rw [s1] at h2;simp at h2
  | succ n ih =>
    intro k m m1 m2 o1 o2 w1 w2 h1 s1 h2 s2;simp only [runN] at h1;cases hs : step P m with
    | ended o w => rw [hs] at h1; simp at h1
    | next m' =>
      rw [hs] at h1;cases k with
      | zero =>
        simp [runN] at h2
        subst h2;rw [hs] at s2;simp at s2
      | succ k =>
        simp only [runN] at h2;rw [hs] at h2;exact ih k m' m1 m2 o1 o2 w1 w2 h1 s1 h2 s2
theorem call_det {P : Program} {f : FuncId} {args : Array Value} {w : World} {v1 v2 : Value} {R1 R2 : World → Prop} (hi : P.inits.idxOf? f = none) (h1 : Calls P f args w fun e w' => e = .returned v1 ∧ R1 w') (h2 : Calls P f args w fun e w' => e = .returned v2 ∧ R2 w') : v1 = v2 := by
  obtain ⟨e1, w1, f1, ⟨rfl, _⟩, c1, n1, l1⟩ := h1 [];obtain ⟨e2, w2, f2, ⟨rfl, _⟩, c2, n2, l2⟩ := h2 [];have s1 := step_leave_done l1 (by rw [n1]; exact hi);have s2 := step_leave_done l2 (by rw [n2]; exact hi);obtain ⟨k1, r1⟩ := c1;obtain ⟨k2, r2⟩ := c2;have := (ends_det k1 k2 _ _ _ _ _ _ _ r1 s1 r2 s2).1;simpa using this
end Go.Proofs.YtmoiikpjegbokaaGreatDoor
