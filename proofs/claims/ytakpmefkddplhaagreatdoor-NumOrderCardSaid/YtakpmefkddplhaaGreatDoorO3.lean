/- NumOrder, all cases together. -/
import Derived.Test.YtakpmefkddplhaaGreatDoorO2
namespace Go.Proofs.YtakpmefkddplhaaGreatDoor
open Go.RowKit

theorem cpB_comm (s m t n : Int) : cpB t n s m = cpB s m t n := by unfold cpB; rw [Bool.and_comm]
theorem cpN_no {s m t n : Int} (h : cpB s m t n = false) : cpN s m t n = 0 := by unfold cpN; unfold cpB at h; rw [h]; rfl
theorem cpN_yes {s m t n : Int} (h : cpB s m t n = true) : cpN s m t n = Fm.cmpV (vv s m) (vv t n) := by unfold cpN; unfold cpB at h; rw [h]; rfl
theorem cpB_trans {s m t n u k : Int} (h : cpB s m t n = true) (h' : cpB t n u k = true) : cpB s m u k = true := by
  unfold cpB at *; simp at *; exact ⟨h.1, h'.2⟩

theorem NumOrder_any (s m t n u k : Int) (w : World) (g1 : -9223372036854775808 ≤ m) (g2 : m ≤ 9223372036854775807) (h1 : -9223372036854775808 ≤ n) (h2 : n ≤ 9223372036854775807) (i1 : -9223372036854775808 ≤ k) (i2 : k ≤ 9223372036854775807) (ht : TabIs4 w) :
    Calls Tryz.prog 9 #[AV s m, AV t n, AV u k] w fun e w' => e = .returned (.bool true) ∧ Below w.heap.size w w' := by
  cases p : cpB s m t n
  · have p' : cpB t n s m = false := by rw [cpB_comm]; exact p
    exact order_none s m t n u k w g1 g2 h1 h2 i1 i2 _ _ _ _ ht (cpN_no p) p rfl rfl rfl rfl (cpN_no p') p'
  · have p' : cpB t n s m = true := by rw [cpB_comm]; exact p
    have x1 := cpN_yes p
    have x2 := cpN_yes p'
    rw [Fm.cmpV_neg (vv s m) (vv t n)] at x2
    cases q : cpB t n u k
    · rcases Fm.cmpV_cases (vv s m) (vv t n) with ⟨_, h⟩ | ⟨_, h⟩ | ⟨_, h⟩ <;> rw [h] at x1 x2
      · exact order_halfl s m t n u k w g1 g2 h1 h2 i1 i2 _ _ _ ht x1 p rfl q rfl rfl x2 p'
      · exact order_halfe s m t n u k w g1 g2 h1 h2 i1 i2 _ _ _ ht x1 p rfl q rfl rfl x2 p'
      · exact order_halfg s m t n u k w g1 g2 h1 h2 i1 i2 _ _ _ ht x1 p rfl q rfl rfl x2 p'
    · have r := cpB_trans p q
      have y1 := cpN_yes q
      have z1 := cpN_yes r
      rcases Fm.cmpV_cases (vv s m) (vv t n) with ⟨a1, h⟩ | ⟨a1, h⟩ | ⟨a1, h⟩ <;> rw [h] at x1 x2 <;>
        rcases Fm.cmpV_cases (vv t n) (vv u k) with ⟨a2, h'⟩ | ⟨a2, h'⟩ | ⟨a2, h'⟩ <;> rw [h'] at y1 <;>
        rcases Fm.cmpV_cases (vv s m) (vv u k) with ⟨a3, h''⟩ | ⟨a3, h''⟩ | ⟨a3, h''⟩ <;> rw [h''] at z1 <;> first
        | (exfalso; omega)
        | exact order_lll s m t n u k w g1 g2 h1 h2 i1 i2 ht x1 p y1 q z1 r x2 p'
        | exact order_lel s m t n u k w g1 g2 h1 h2 i1 i2 ht x1 p y1 q z1 r x2 p'
        | exact order_lgl s m t n u k w g1 g2 h1 h2 i1 i2 ht x1 p y1 q z1 r x2 p'
        | exact order_lge s m t n u k w g1 g2 h1 h2 i1 i2 ht x1 p y1 q z1 r x2 p'
        | exact order_lgg s m t n u k w g1 g2 h1 h2 i1 i2 ht x1 p y1 q z1 r x2 p'
        | exact order_ell s m t n u k w g1 g2 h1 h2 i1 i2 ht x1 p y1 q z1 r x2 p'
        | exact order_eee s m t n u k w g1 g2 h1 h2 i1 i2 ht x1 p y1 q z1 r x2 p'
        | exact order_egg s m t n u k w g1 g2 h1 h2 i1 i2 ht x1 p y1 q z1 r x2 p'
        | exact order_gll s m t n u k w g1 g2 h1 h2 i1 i2 ht x1 p y1 q z1 r x2 p'
        | exact order_gle s m t n u k w g1 g2 h1 h2 i1 i2 ht x1 p y1 q z1 r x2 p'
        | exact order_glg s m t n u k w g1 g2 h1 h2 i1 i2 ht x1 p y1 q z1 r x2 p'
        | exact order_geg s m t n u k w g1 g2 h1 h2 i1 i2 ht x1 p y1 q z1 r x2 p'
        | exact order_ggg s m t n u k w g1 g2 h1 h2 i1 i2 ht x1 p y1 q z1 r x2 p'

end Go.Proofs.YtakpmefkddplhaaGreatDoor
