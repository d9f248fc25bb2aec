/- ObjectHeads: the walk. -/
import Derived.Test.YtnmchcanijkggaaM2
import Derived.Test.YtnmchcanijkggaaO7
namespace Go.Proofs.Ytnmchcanijkggaa
open Go.RowKit Go.Lib
set_option linter.unusedVariables false

set_option maxHeartbeats 2000000 in
theorem ObjectHeads_any (h : Hd) (a b : Int) (w : World) (ha : I64 a) (hb : I64 b) :
    Calls Try.prog 3 #[AH h, .int .i64 a, .int .i64 b] w fun e w' => e = .returned (.bool true) ∧ Below w.heap.size w w' := by
  have HP : Hid (∀ W, Calls Try.prog 12 #[AH h] W fun e w' => e = .returned (.tuple #[.int .i64 (pkA h), .int .i64 (pkB h), .int .i64 (rightE h)]) ∧ Below W.heap.size W w') := Pack_any h
  have HR : Hid (∀ W, Calls Try.prog 13 #[AH h] W fun e w' => e = .returned (.int .i64 (rightE h)) ∧ Below W.heap.size W w') := RRight_any h
  have HR' : Hid (∀ W, Calls Try.prog 15 #[AH h] W fun e w' => e = .returned (.int .i64 (rightE h)) ∧ Below W.heap.size W w') := Right_any h
  have HZ : Hid (∀ W, Calls Try.prog 16 #[AH h] W fun e w' => e = .returned (.int .i64 (sizeN h)) ∧ Below W.heap.size W w') := Size_any h
  have HZ' : Hid (∀ W, Calls Try.prog 17 #[AH h] W fun e w' => e = .returned (.int .i64 (sizeN h)) ∧ Below W.heap.size W w') := RSize_any h
  have HF : Hid (rightE h = 0 → ∀ W, Calls Try.prog 18 #[AH h] W fun e w' => e = .returned (.int .i64 (pkA h)) ∧ Below W.heap.size W w') := fun hr W => by
    have := First_any h W hr; rwa [show pkA h = c1 h by simp [pkA, hr]]
  have HG : Hid (rightE h = 0 → ∀ W, Calls Try.prog 19 #[AH h] W fun e w' => e = .returned (.int .i64 (pkB h)) ∧ Below W.heap.size W w') := fun hr W => by
    have := Second_any h W hr; rwa [show pkB h = c2 h by simp [pkB, hr]]
  have HU : Hid (∀ W, Calls Try.prog 20 #[.int .i64 a, .int .i64 b] W fun e w' => e = .returned (.tuple #[AH (unH a b), .int .i64 (unE a b)]) ∧ Below W.heap.size W w') := Unpack_any a b
  have HV : Hid (∀ W, Calls Try.prog 21 #[.int .i64 a, .int .i64 b] W fun e w' => e = .returned (.tuple #[AH (unH a b), .int .i64 (unE a b)]) ∧ Below W.heap.size W w') := fun W => RUnpack_any a b W ha.2 hb.2
  have hz0 : rightE h ≠ 0 → pkA h = 0 ∧ pkB h = 0 := fun hr => ⟨by simp [pkA, hr], by simp [pkB, hr]⟩
  generalize pkA h = A at HP HF hz0
  generalize pkB h = B at HP HG hz0
  generalize sizeN h = S at HZ HZ'
  generalize unH a b = u at HU HV
  generalize unE a b = U at HU HV
  generalize rightE h = E at HP HR HR' HF HG hz0
  clear ha hb
  have hg23 := guard23
  have he2 : ∀ w, (Op.equalIn 10000 23 (AH u) (AH u)).run Try.prog w = .ok true w := fun w => by rw [eq23]; simp
  have HZ0 : Hid (E ≠ 0 → A = 0 ∧ B = 0) := hz0
  clear hz0
  go_enter Try.func3, Try.ntmps3
  go_wp2_with fail
  refine (HP.out _).mono ?_
  rintro e w1 ⟨rfl, hb1⟩
  have HB1 : Hid (Below w.heap.size w w1) := ((Below.refl _ _).alloc (Nat.le_refl _) _).trans (hb1.mono (by simp))
  have HS1 : Hid (SeenH8 w.heap.size h w1) := by
    refine ⟨?_, ?_, ?_, ?_, ?_, ?_, ?_, ?_⟩
    all_goals exact cell_later hb1 (by rw [World.cell?_alloc_at _ _ _ _ rfl]; rfl)
  clear hb1 HP
  obtain ⟨q0, q1, q2, q3, q4, q5, q6, q7⟩ := HS1.out
  go_wp2_with fail
  refine (HR.out _).mono ?_
  rintro e w2 ⟨rfl, hb2⟩
  have HB2 : Hid (Below w.heap.size w w2) := HB1.out.trans (hb2.mono HB1.out.size)
  have HS2 : Hid (SeenH8 w.heap.size h w2) := seenH8_keep HS1.out hb2
  clear hb2 HR HS1 HB1 q0 q1 q2 q3 q4 q5 q6 q7
  obtain ⟨q0, q1, q2, q3, q4, q5, q6, q7⟩ := HS2.out
  go_wp2_with fail
  refine region_quiet_class (C := fun w' => Below w2.heap.size w2 w') (by kernel_rfl) (by kernel_rfl) (Below.refl _ _).drew ?_
  refine q_op (AH h) (by kernel_rfl) (fun w3 hw3 => by obtain ⟨r0, r1, r2, r3, r4, r5, r6, r7⟩ := seenH8_keep HS2.out hw3; simp [go_sem, r0, r1, r2, r3, r4, r5, r6, r7]) ?_
  simp only [Act.put, List.setIfInBounds_toArray, List.set_cons_zero, List.set_cons_succ]
  refine q_call 15 #[AH h] (.int .i64 E) (by kernel_rfl) (fun w3 hw3 => by simp [go_sem]) (fun w3 hw3 => (HR'.out w3).mono (fun e w4 ⟨he, hb⟩ => ⟨he, Below.trans hw3 (hb.mono (Below.size hw3))⟩)) ?_
  simp only [Act.put, List.setIfInBounds_toArray, List.set_cons_zero, List.set_cons_succ]
  refine q_call 14 #[.int .i64 E] (.int .i64 E) (by kernel_rfl) (fun w3 hw3 => by simp [go_sem]) (fun w3 hw3 => (no_any E w3).mono (fun e w4 ⟨he, hb⟩ => ⟨he, by subst hb; exact hw3⟩)) ?_
  simp only [Act.put, List.setIfInBounds_toArray, List.set_cons_zero, List.set_cons_succ]
  refine q_op (.int .i64 E) (by kernel_rfl) (fun w3 hw3 => by simp [go_sem]) ?_
  simp only [Act.put, List.setIfInBounds_toArray, List.set_cons_zero, List.set_cons_succ]
  refine q_op (.bool false) (by kernel_rfl) (fun w3 hw3 => by simp [go_sem]) ?_
  simp only [Act.put, List.setIfInBounds_toArray, List.set_cons_zero, List.set_cons_succ]
  refine q_op (.bool false) (by kernel_rfl) (fun w3 hw3 => by simp [go_sem]) ?_
  simp only [Act.put, List.setIfInBounds_toArray, List.set_cons_zero, List.set_cons_succ]
  refine q_op (.int .i64 E) (by kernel_rfl) (fun w3 hw3 => by simp [go_sem]) ?_
  simp only [Act.put, List.setIfInBounds_toArray, List.set_cons_zero, List.set_cons_succ]
  refine q_call 14 #[.int .i64 E] (.int .i64 E) (by kernel_rfl) (fun w3 hw3 => by simp [go_sem]) (fun w3 hw3 => (no_any E w3).mono (fun e w4 ⟨he, hb⟩ => ⟨he, by subst hb; exact hw3⟩)) ?_
  simp only [Act.put, List.setIfInBounds_toArray, List.set_cons_zero, List.set_cons_succ]
  refine q_op (.int .i64 E) (by kernel_rfl) (fun w3 hw3 => by simp [go_sem]) ?_
  simp only [Act.put, List.setIfInBounds_toArray, List.set_cons_zero, List.set_cons_succ]
  refine q_op (.bool false) (by kernel_rfl) (fun w3 hw3 => by simp [go_sem]) ?_
  simp only [Act.put, List.setIfInBounds_toArray, List.set_cons_zero, List.set_cons_succ]
  refine q_op (.bool false) (by kernel_rfl) (fun w3 hw3 => by simp [go_sem]) ?_
  simp only [Act.put, List.setIfInBounds_toArray, List.set_cons_zero, List.set_cons_succ]
  refine q_op (.bool false) (by kernel_rfl) (fun w3 hw3 => by simp [go_sem]) ?_
  simp only [Act.put, List.setIfInBounds_toArray, List.set_cons_zero, List.set_cons_succ]
  refine q_op (AH h) (by kernel_rfl) (fun w3 hw3 => by obtain ⟨r0, r1, r2, r3, r4, r5, r6, r7⟩ := seenH8_keep HS2.out hw3; simp [go_sem, r0, r1, r2, r3, r4, r5, r6, r7]) ?_
  simp only [Act.put, List.setIfInBounds_toArray, List.set_cons_zero, List.set_cons_succ]
  refine q_call 16 #[AH h] (.int .i64 S) (by kernel_rfl) (fun w3 hw3 => by simp [go_sem]) (fun w3 hw3 => (HZ.out w3).mono (fun e w4 ⟨he, hb⟩ => ⟨he, Below.trans hw3 (hb.mono (Below.size hw3))⟩)) ?_
  simp only [Act.put, List.setIfInBounds_toArray, List.set_cons_zero, List.set_cons_succ]
  refine q_op (AH h) (by kernel_rfl) (fun w3 hw3 => by obtain ⟨r0, r1, r2, r3, r4, r5, r6, r7⟩ := seenH8_keep HS2.out hw3; simp [go_sem, r0, r1, r2, r3, r4, r5, r6, r7]) ?_
  simp only [Act.put, List.setIfInBounds_toArray, List.set_cons_zero, List.set_cons_succ]
  refine q_call 17 #[AH h] (.int .i64 S) (by kernel_rfl) (fun w3 hw3 => by simp [go_sem]) (fun w3 hw3 => (HZ'.out w3).mono (fun e w4 ⟨he, hb⟩ => ⟨he, Below.trans hw3 (hb.mono (Below.size hw3))⟩)) ?_
  simp only [Act.put, List.setIfInBounds_toArray, List.set_cons_zero, List.set_cons_succ]
  refine q_op (.bool false) (by kernel_rfl) (fun w3 hw3 => by simp [go_sem]) ?_
  simp only [Act.put, List.setIfInBounds_toArray, List.set_cons_zero, List.set_cons_succ]
  refine q_op (.bool false) (by kernel_rfl) (fun w3 hw3 => by simp [go_sem]) ?_
  simp only [Act.put, List.setIfInBounds_toArray, List.set_cons_zero, List.set_cons_succ]
  refine wpQuiet_nil ?_
  intro w3 H3
  have HB3 : Hid (Below w.heap.size w w3) := HB2.out.trans (Below.mono H3 HB2.out.size)
  have HS3 : Hid (SeenH8 w.heap.size h w3) := seenH8_keep HS2.out H3
  clear H3 HS2 HB2 HZ HZ' HR' q0 q1 q2 q3 q4 q5 q6 q7
  obtain ⟨q0, q1, q2, q3, q4, q5, q6, q7⟩ := HS3.out
  have HW : Hid (∀ (W : World), Below w.heap.size w W → ∀ o, Below w.heap.size w (W.alloc o)) := fun W hb o => hb.alloc hb.size o
  by_cases hE : E = 0
  · subst hE
    have HF0 := HF.out rfl
    have HG0 := HG.out rfl
    have HF1 : Hid (∀ W, Calls Try.prog 18 #[AH h] W fun e w' => e = .returned (.int .i64 A) ∧ Below W.heap.size W w') := HF0
    have HG1 : Hid (∀ W, Calls Try.prog 19 #[AH h] W fun e w' => e = .returned (.int .i64 B) ∧ Below W.heap.size W w') := HG0
    clear HF0 HG0 HF HG
    go_wp2_with fail
    refine (HF1.out _).mono ?_
    rintro e w4 ⟨rfl, hb4⟩
    have HB4 : Hid (Below w.heap.size w w4) := HB3.out.trans (hb4.mono HB3.out.size)
    have HS4 : Hid (SeenH8 w.heap.size h w4) := seenH8_keep HS3.out hb4
    clear hb4 HB3 HS3 HF1 q0 q1 q2 q3 q4 q5 q6 q7
    obtain ⟨q0, q1, q2, q3, q4, q5, q6, q7⟩ := HS4.out
    go_wp2_with fail
    refine (HG1.out _).mono ?_
    rintro e w5 ⟨rfl, hb5⟩
    have HB5 : Hid (Below w.heap.size w w5) := HB4.out.trans (hb5.mono HB4.out.size)
    clear hb5 HB4 HS4 HG1 q0 q1 q2 q3 q4 q5 q6 q7
    go_wp2_with fail
    refine (HU.out _).mono ?_
    rintro e w6 ⟨rfl, hb6⟩
    have HB6 : Hid (Below w.heap.size w w6) := HB5.out.trans (hb6.mono HB5.out.size)
    clear hb6 HB5 HU
    go_wp2_with fail
    refine (HV.out _).mono ?_
    rintro e w7 ⟨rfl, hb7⟩
    have HB7 : Hid (Below w.heap.size w w7) := (HB6.out.alloc HB6.out.size _).trans (hb7.mono (by have := HB6.out.size; simp; omega))
    have HS7 : Hid (SeenH8 w6.heap.size u w7) := by
      refine ⟨?_, ?_, ?_, ?_, ?_, ?_, ?_, ?_⟩
      all_goals exact cell_later hb7 (by rw [World.cell?_alloc_at _ _ _ _ rfl]; rfl)
    have hz7 : w6.heap.size < w7.heap.size := by have := hb7.size; simp at this; omega
    clear hb7 HB6 HV
    obtain ⟨q0, q1, q2, q3, q4, q5, q6, q7⟩ := HS7.out
    go_wp2_with (first | (go_at_call 14; refine (no_any _ _).mono ?_; rintro e w' ⟨rfl, rfl⟩) | (go_at_call 22; refine (alive_any _).mono ?_; rintro e w9 ⟨rfl, hb9⟩))
    go_ret
    exact ⟨rfl, (HW.out _ HB7.out _).trans (hb9.mono (HW.out _ HB7.out _).size)⟩
  · have hE1 : (E != 0) = true := by simp [hE]
    have hE2 : (E == 0) = false := by simp [hE]
    obtain ⟨rfl, rfl⟩ := HZ0.out hE
    clear hE HF HG HZ0 q0 q1 q2 q3 q4 q5 q6 q7
    go_wp2_with fail
    refine (HU.out _).mono ?_
    rintro e w6 ⟨rfl, hb6⟩
    have HB6 : Hid (Below w.heap.size w w6) := HB3.out.trans (hb6.mono HB3.out.size)
    clear hb6 HB3 HU HS3
    go_wp2_with fail
    refine (HV.out _).mono ?_
    rintro e w7 ⟨rfl, hb7⟩
    have HB7 : Hid (Below w.heap.size w w7) := (HB6.out.alloc HB6.out.size _).trans (hb7.mono (by have := HB6.out.size; simp; omega))
    have HS7 : Hid (SeenH8 w6.heap.size u w7) := by
      refine ⟨?_, ?_, ?_, ?_, ?_, ?_, ?_, ?_⟩
      all_goals exact cell_later hb7 (by rw [World.cell?_alloc_at _ _ _ _ rfl]; rfl)
    have hz7 : w6.heap.size < w7.heap.size := by have := hb7.size; simp at this; omega
    clear hb7 HB6 HV
    obtain ⟨q0, q1, q2, q3, q4, q5, q6, q7⟩ := HS7.out
    go_wp2_with (first | (go_at_call 14; refine (no_any _ _).mono ?_; rintro e w' ⟨rfl, rfl⟩) | (go_at_call 22; refine (alive_any _).mono ?_; rintro e w9 ⟨rfl, hb9⟩))
    go_ret
    exact ⟨rfl, (HW.out _ HB7.out _).trans (hb9.mono (HW.out _ HB7.out _).size)⟩
end Go.Proofs.Ytnmchcanijkggaa
