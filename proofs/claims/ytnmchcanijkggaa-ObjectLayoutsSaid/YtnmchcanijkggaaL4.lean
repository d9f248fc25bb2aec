/- The layout of an object of kind 4. -/
import Derived.Test.YtnmchcanijkggaaL2
namespace Go.Proofs.Ytnmchcanijkggaa
open Go.RowKit Go.Lib
set_option linter.unusedVariables false

set_option maxHeartbeats 1000000 in
theorem Layout_4 (h : Hd) (av sv : Value) (zs : List Int) (ps : List (Int × Int)) (w : World) (ha : SliceIs w av zs) (hp : PairsIs w sv ps) (hq : Pall ps) (h1 : zs.length ≤ 100000) (h2 : ps.length ≤ 100000) (hw : wrongE h zs.length ps = 0) (hK : h.k = 4)
    (F D : Bool) (HF : Hid (∀ W, Below w.heap.size w W → Calls Try.prog 56 #[AO h av sv] W fun e w' => e = .returned (.bool F) ∧ Below W.heap.size W w'))
    (HD : Hid (∀ W, F = true → Below w.heap.size w W → Calls Try.prog 49 #[.agg #[.func (.func 56) #[] #[], .nilFunc], AO h av sv] W fun e w' => e = .returned (.bool D) ∧ Below W.heap.size W w')) (R : Int) (hR : R = if F && !D then 0 else 6) :
    Calls Try.prog 32 #[AO h av sv] w fun e w' => e = .returned (.int .i64 R) ∧ Below w.heap.size w w' := by
  have HW : Hid (∀ W, Below w.heap.size w W → Calls Try.prog 45 #[AO h av sv] W fun e w' => e = .returned (.int .i64 0) ∧ Below W.heap.size W w') := fun W hb => by rw [← hw]; exact wrong_any h av sv zs ps W (ha.later hb) (hp.later hb) hq h1 h2
  have HL : Hid (∀ W, Calls Try.prog 48 #[.int .i64 4] W fun e w' => e = .returned (.agg #[.func (.func 56) #[] #[], .nilFunc]) ∧ Below W.heap.size W w') := layoutOf_4
  obtain ⟨ao, ca, rfl⟩ := ha.form
  obtain ⟨so, cs, rfl⟩ := hp.form
  generalize zs.length = na at *
  generalize ps.length = ns at *
  have HK : Hid (h.k = 4) := hK
  have HR : Hid (R = if F && !D then 0 else 6) := hR
  clear ha hp hq h1 h2 hw hK hR
  go_enter Try.func32, Try.ntmps32
  go_wp2_with fail
  refine (HW.out _ ((Below.refl _ _).alloc (Nat.le_refl _) _)).mono ?_
  rintro e w1 ⟨rfl, hb1⟩
  have HS1 : Hid (SeenO w.heap.size h (.slice ao na ca) (.slice so ns cs) w1) := seenO_keep (seenO_new h _ _ w) hb1
  have HB1 : Hid (Below w.heap.size w w1) := ((Below.refl _ _).alloc (Nat.le_refl _) _).trans (hb1.mono (by simp))
  have hz : w.heap.size < w1.heap.size := by have := hb1.size; simp at this; omega
  clear hb1 HW
  have q0 := HS1.out.1
  rw [HK.out] at q0
  go_wp2_with fail
  refine (HL.out _).mono ?_
  rintro e w2 ⟨rfl, hb2⟩
  have HS2 : Hid (SeenO w.heap.size h (.slice ao na ca) (.slice so ns cs) w2) := seenO_keep HS1.out hb2
  have HB2 : Hid (Below w.heap.size w w2) := HB1.out.trans (hb2.mono (by omega))
  have hz2 : w.heap.size < w2.heap.size := by have := hb2.size; omega
  clear hb2 HL HS1 HB1 q0
  have HS3 : Hid (∀ o, SeenO w.heap.size h (.slice ao na ca) (.slice so ns cs) (w2.alloc o)) := fun o => seenO_keep HS2.out ((Below.refl _ _).alloc (Nat.le_refl _) o)
  obtain ⟨q0, q1, q2, q3, q4, q5, q6, q7, q8, q9⟩ := HS2.out
  go_wp2_with fail
  refine (HF.out _ (HB2.out.alloc (by omega) _)).mono ?_
  rintro e w3 ⟨rfl, hb3⟩
  have HS4 : Hid (SeenO w.heap.size h (.slice ao na ca) (.slice so ns cs) w3) := seenO_keep (HS3.out _) hb3
  have HB3 : Hid (Below w.heap.size w w3) := (HB2.out.alloc (by omega) _).trans (hb3.mono (by simp; omega))
  have l0 : w3.cell? ⟨w2.heap.size, 0, none⟩ = some (.func (.func 56) #[] #[]) := cell_later hb3 (by rw [World.cell?_alloc_at _ _ _ _ rfl]; rfl)
  have l1 : w3.cell? ⟨w2.heap.size, 1, none⟩ = some (.nilFunc) := cell_later hb3 (by rw [World.cell?_alloc_at _ _ _ _ rfl]; rfl)
  clear hb3 HF HS2 HB2 HS3 q0 q1 q2 q3 q4 q5 q6 q7 q8 q9
  obtain ⟨q0, q1, q2, q3, q4, q5, q6, q7, q8, q9⟩ := HS4.out
  have hR := HR.out
  cases hF : F
  · rw [hF] at hR
    simp only [Bool.false_and, Bool.false_eq_true, if_false] at hR
    subst hR
    go_wp2
    go_ret
    exact ⟨rfl, HB3.out⟩
  · rw [hF] at hR
    simp only [Bool.true_and] at hR
    go_wp2_with fail
    refine (HD.out _ hF HB3.out).mono ?_
    rintro e w4 ⟨rfl, hb4⟩
    have HB4 : Hid (Below w.heap.size w w4) := HB3.out.trans (hb4.mono HB3.out.size)
    clear hb4 HD HS4 q0 q1 q2 q3 q4 q5 q6 q7 q8 q9
    cases hD : D
    · rw [hD] at hR
      simp only [Bool.not_false, if_true] at hR
      subst hR
      go_wp2
      go_ret
      exact ⟨rfl, HB4.out⟩
    · rw [hD] at hR
      simp only [Bool.not_true, Bool.false_eq_true, if_false] at hR
      subst hR
      go_wp2
      go_ret
      exact ⟨rfl, HB4.out⟩
end Go.Proofs.Ytnmchcanijkggaa
