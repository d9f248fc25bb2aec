/- The document's token: no sign, a text. -/
import Derived.Test.YtidokamfppdnaaaGreatDoorQ4
import Derived.Test.YtidokamfppdnaaaGreatDoorU2
namespace Go.Proofs.YtidokamfppdnaaaGreatDoor
open Go.RowKit
set_option linter.unusedSimpArgs false
set_option linter.unusedVariables false

set_option maxRecDepth 20000 in
set_option maxHeartbeats 8000000 in
theorem one_none (s : ByteArray) (k : Nat) (hk : k < s.size) (hs : s.size ≤ 8192) (h1 : isLt s[k] = false) (h2 : isDg s[k] = false) (h3 : ¬ s[k].toNat = 34) (hg : sgF ((bl s).drop k) sgs = none) (w : World) :
    Calls Tryz.prog 13 #[.string s, .int .i64 (k : Int)] w fun r w' => (∃ X, r = .returned (.tuple #[tv X, .int .i64 15])) ∧ Kept No w w' := by
  have hV : sgN ((bl s).drop k) sgs = 0 := by unfold sgN; rw [hg]
  have HSg : Hid (∀ w, Calls Tryz.prog 28 #[.string s, .int .i64 (k : Int)] w fun r w' => r = .returned (.int .i64 0) ∧ Kept No w w') := fun w => by have := signAt_any s k hk hs w; rw [hV] at this; exact this
  clear hV hg
  have HL1 : Hid (∀ w, Calls Tryz.prog 23 #[.int .u8 (s[k].toNat : Int)] w fun e w' => e = .returned (.bool false) ∧ w = w') := fun w => by have := RLetter_any s[k] w; rw [h1] at this; exact this
  have HD1 : Hid (∀ w, Calls Tryz.prog 24 #[.int .u8 (s[k].toNat : Int)] w fun e w' => e = .returned (.bool false) ∧ w = w') := fun w => by have := RDigit_any s[k] w; rw [h2] at this; exact this
  have f34 : ((s[k].toNat : Int) == 34) = false := neI _ 34 h3
  have lk : (k : Int) < (s.size : Int) := by omega
  have HBx : Hid (Bx w ((w.alloc (tb t0)).alloc (tb ⟨0, ⟨#[]⟩, 0, 0, ⟨#[]⟩, k, 0⟩)) w.heap.size (w.heap.size + 1) ⟨0, ⟨#[]⟩, 0, 0, ⟨#[]⟩, k, 0⟩) := Bx.made w _
  obtain ⟨W0, HW0⟩ : ∃ W0, Hid ((w.alloc (tb t0)).alloc (tb ⟨0, ⟨#[]⟩, 0, 0, ⟨#[]⟩, k, 0⟩) = W0) := ⟨_, show _ = _ from rfl⟩
  rw [HW0.out] at HBx
  unfold tb t0 at HW0
  dsimp only at HW0
  clear h1 h2 h3
  go_enter Tryz.func13, Tryz.ntmps13
  go_wp2_with (first | (go_at_call 23; refine Calls.mono (HL1.out _) ?_; rintro e w' ⟨rfl, rfl⟩) | (go_at_call 24; refine Calls.mono (HD1.out _) ?_; rintro e w' ⟨rfl, rfl⟩) | fail)
  rw [HW0.out]
  obtain ⟨R, HRR⟩ : ∃ R, Hid (w.heap.size = R) := ⟨_, show _ = _ from rfl⟩
  obtain ⟨T, HTT⟩ : ∃ T, Hid (R + 1 = T) := ⟨_, show _ = _ from rfl⟩
  rw [HRR.out, HTT.out] at HBx
  try rw [HRR.out]
  try rw [HTT.out]
  clear HW0 HL1 HD1
  refine Calls.mono (HSg.out _) ?_
  rintro e W5 ⟨rfl, hk5⟩
  have HB : Hid (Bx w W5 R T ⟨0, ⟨#[]⟩, 0, 0, ⟨#[]⟩, k, 0⟩) := HBx.out.no hk5
  clear hk5 HSg HBx
  obtain ⟨t3, t4, t5, t6, t7, t8, t9⟩ := tb_cells HB.out.t
  obtain ⟨r3, r4, r5, r6, r7, r8, r9⟩ := tb_cells HB.out.r
  have tf := fun o => tb_frozen HB.out.t o
  have rf := fun o => tb_frozen HB.out.r o
  dsimp only [t0] at t3 t4 t5 t6 t7 t8 t9 r3 r4 r5 r6 r7 r8 r9
  have nRT : R ≠ T := by have := HB.out.lt; omega
  have nTR : T ≠ R := by have := HB.out.lt; omega
  have HKf : Hid (Kept No w W5 ∧ w.heap.size ≤ R) := ⟨HB.out.kept, HB.out.le⟩
  clear HB
  go_wp2_with fail
  refine bodyPost_ret (v := .tuple #[tv ⟨0, ⟨#[]⟩, 0, 0, ⟨#[]⟩, k, 0⟩, .int .i64 15]) (by simp [results, Tryz.results13, go_sem, tv, t3, t4, t5, t6, t7, t8, t9, r3, r4, r5, r6, r7, r8, r9, nRT, nTR]) rfl ⟨⟨_, rfl⟩, ?_⟩
  repeat refine Kept.set ?_ _ _ _ (Or.inr HKf.out.2)
  exact HKf.out.1

/-- What is told of a text whose end is q bytes behind. -/
def QP (s : ByteArray) (k : Nat) (q : Option Nat) (r : Ending) : Prop := match q with
  | none => ∃ X, r = .returned (.tuple #[tv X, .int .i64 16])
  | some n => match uq (s.extract k (k + n + 2)) with
    | some u => r = .returned (.tuple #[tv ⟨4, s.extract k (k + n + 2), 0, 0, u, k, (k + n + 2 : Nat)⟩, .int .i64 0])
    | none => ∃ X, r = .returned (.tuple #[tv X, .int .i64 16])
theorem QP_none (s : ByteArray) (k : Nat) (X : Tk) : QP s k none (.returned (.tuple #[tv X, .int .i64 16])) := ⟨X, rfl⟩
theorem QP_bad {s : ByteArray} {k m : Nat} (h : uq (s.extract k (m + 1)) = none) (hm : k + 1 ≤ m) (X : Tk) : QP s k (some (m - (k + 1))) (.returned (.tuple #[tv X, .int .i64 16])) := by
  unfold QP
  dsimp only
  rw [show k + (m - (k + 1)) + 2 = m + 1 by omega, h]
  exact ⟨X, rfl⟩
theorem QP_ok {s : ByteArray} {k m : Nat} {u : ByteArray} (h : uq (s.extract k (m + 1)) = some u) (hm : k + 1 ≤ m) : QP s k (some (m - (k + 1))) (.returned (.tuple #[tv ⟨4, s.extract k (m + 1), 0, 0, u, k, (m + 1 : Nat)⟩, .int .i64 0])) := by
  unfold QP
  dsimp only
  rw [show k + (m - (k + 1)) + 2 = m + 1 by omega, h]
/-- What stands behind a text's first sign. -/
theorem qL_at (s : ByteArray) {m : Nat} (hm : m < s.size) : (s[m].toNat = 34 → qL ((bl s).drop m) = some 0) ∧ (¬ s[m].toNat = 34 → qL ((bl s).drop m) = (qL ((bl s).drop (m + 1))).map (· + 1)) := by
  rw [bl_drop s hm]
  constructor
  · intro h; unfold qL; rw [if_pos h]
  · intro h; rw [qL, if_neg h]

set_option maxRecDepth 20000 in
set_option maxHeartbeats 16000000 in
theorem one_text (s : ByteArray) (k : Nat) (hk : k < s.size) (hs : s.size ≤ 8192) (h1 : isLt s[k] = false) (h2 : isDg s[k] = false) (h3 : s[k].toNat = 34) (w : World) :
    Calls Tryz.prog 13 #[.string s, .int .i64 (k : Int)] w fun r w' => QP s k (qL ((bl s).drop (k + 1))) r ∧ Kept No w w' := by
  obtain ⟨q, HQ⟩ : ∃ q, Hid (qL ((bl s).drop (k + 1)) = q) := ⟨_, show _ = _ from rfl⟩
  rw [HQ.out]
  have HL1 : Hid (∀ w, Calls Tryz.prog 23 #[.int .u8 (s[k].toNat : Int)] w fun e w' => e = .returned (.bool false) ∧ w = w') := fun w => by have := RLetter_any s[k] w; rw [h1] at this; exact this
  have HD1 : Hid (∀ w, Calls Tryz.prog 24 #[.int .u8 (s[k].toNat : Int)] w fun e w' => e = .returned (.bool false) ∧ w = w') := fun w => by have := RDigit_any s[k] w; rw [h2] at this; exact this
  have f34 : ((s[k].toNat : Int) == 34) = true := eqI _ 34 h3
  have lk : (k : Int) < (s.size : Int) := by omega
  have HBx : Hid (Bx w ((w.alloc (tb t0)).alloc (tb ⟨0, ⟨#[]⟩, 0, 0, ⟨#[]⟩, k, 0⟩)) w.heap.size (w.heap.size + 1) ⟨0, ⟨#[]⟩, 0, 0, ⟨#[]⟩, k, 0⟩) := Bx.made w _
  obtain ⟨W0, HW0⟩ : ∃ W0, Hid ((w.alloc (tb t0)).alloc (tb ⟨0, ⟨#[]⟩, 0, 0, ⟨#[]⟩, k, 0⟩) = W0) := ⟨_, show _ = _ from rfl⟩
  rw [HW0.out] at HBx
  unfold tb t0 at HW0
  dsimp only at HW0
  clear h1 h2 h3
  go_enter Tryz.func13, Tryz.ntmps13
  go_wp2_with (first | (go_at_call 23; refine Calls.mono (HL1.out _) ?_; rintro e w' ⟨rfl, rfl⟩) | (go_at_call 24; refine Calls.mono (HD1.out _) ?_; rintro e w' ⟨rfl, rfl⟩))
  rw [HW0.out]
  obtain ⟨R, HRR⟩ : ∃ R, Hid (w.heap.size = R) := ⟨_, show _ = _ from rfl⟩
  obtain ⟨T, HTT⟩ : ∃ T, Hid (R + 1 = T) := ⟨_, show _ = _ from rfl⟩
  rw [HRR.out, HTT.out] at HBx
  try rw [HRR.out]
  try rw [HTT.out]
  clear HW0 HL1 HD1
  go_loop [7] (fun i => ∃ m : Nat, k + 1 ≤ m ∧ m ≤ s.size ∧ i = .int .i64 m ∧ Hid (q = (qL ((bl s).drop m)).map (· + (m - (k + 1))))) (fun i => s.size - (intOf i).toNat)
  case atStart => exact ⟨k + 1, Nat.le_refl _, by omega, by go_num, by show _ = _; rw [← HQ.out]; simp⟩
  case round =>
    clear HQ
    obtain ⟨m, hm1, hm2, rfl, HM⟩ := hrel
    by_cases hml : m < s.size
    · have dm : decide ((m : Int) < (s.size : Int)) = true := decide_eq_true (by omega)
      have lm : (m : Int) < (s.size : Int) := by omega
      obtain ⟨qa, qb⟩ := qL_at s hml
      by_cases hm34 : s[m].toNat = 34
      · have k34 : ((s[m].toNat : Int) == 34) = true := eqI _ 34 hm34
        have hq : q = some (m - (k + 1)) := by rw [HM.out, qa hm34]; simp
        have hne : ((m : Int) == (s.size : Int)) = false := by rw [beq_eq_false_iff_ne]; omega
        clear HM qa qb
        subst hq
        have ek : (k : Int) ≤ (m : Int) + 1 := by omega
        have em : (m : Int) + 1 ≤ (s.size : Int) := by omega
        have en : ((m : Int) + 1).toNat = m + 1 := by omega
        have u2 : IntKind.i64.wrap ((m : Int) + 1) = (m : Int) + 1 := by rw [IntKind.wrap_i64]; omega
        have HU : Hid (∀ w, Calls Tryz.prog 27 #[.string (s.extract k (m + 1))] w fun e w' => e = .returned (Tx.unquoteT (s.extract k (m + 1))) ∧ Below w.heap.size w w') := fun w => Tx.RUnquote_any _ w (by rw [ByteArray.size_extract]; omega)
        cases hu : uq (s.extract k (m + 1)) with
        | none =>
          rw [uq_none hu] at HU
          have HUq : Hid (uq (s.extract k (m + 1)) = none) := hu
          clear hu
          go_wp2_with fail
          refine Calls.mono (HU.out _) ?_
          rintro e W5 ⟨rfl, hb5⟩
          have HB : Hid (Bx w W5 R T ⟨0, ⟨#[]⟩, 0, 0, ⟨#[]⟩, k, 0⟩) := HBx.out.no (Kept.of_below hb5)
          clear hb5 HU HBx
          obtain ⟨t3, t4, t5, t6, t7, t8, t9⟩ := tb_cells HB.out.t
          obtain ⟨r3, r4, r5, r6, r7, r8, r9⟩ := tb_cells HB.out.r
          have tf := fun o => tb_frozen HB.out.t o
          have rf := fun o => tb_frozen HB.out.r o
          dsimp only [t0] at t3 t4 t5 t6 t7 t8 t9 r3 r4 r5 r6 r7 r8 r9
          have nRT : R ≠ T := by have := HB.out.lt; omega
          have nTR : T ≠ R := by have := HB.out.lt; omega
          have HKf : Hid (Kept No w W5 ∧ w.heap.size ≤ R) := ⟨HB.out.kept, HB.out.le⟩
          clear HB
          go_wp2_with fail
          refine bodyPost_ret (v := .tuple #[tv ⟨0, ⟨#[]⟩, 0, 0, ⟨#[]⟩, k, 0⟩, .int .i64 16]) (by simp [results, Tryz.results13, go_sem, tv, t3, t4, t5, t6, t7, t8, t9, r3, r4, r5, r6, r7, r8, r9, nRT, nTR]) rfl ⟨QP_bad HUq.out hm1 _, ?_⟩
          repeat refine Kept.set ?_ _ _ _ (Or.inr HKf.out.2)
          exact HKf.out.1
        | some u =>
          rw [uq_some hu] at HU
          have HUq : Hid (uq (s.extract k (m + 1)) = some u) := hu
          clear hu
          go_wp2_with fail
          refine Calls.mono (HU.out _) ?_
          rintro e W5 ⟨rfl, hb5⟩
          have HB5 : Hid (Bx w W5.drew R T ⟨0, ⟨#[]⟩, 0, 0, ⟨#[]⟩, k, 0⟩) := (HBx.out.no (Kept.of_below hb5)).no (Kept.refl _ _).drew
          clear hb5 HU HBx
          go_wp2_with fail
          refine wp_region_held_drew (S := fun _ => True) (by kernel_rfl) trivial (fun hSS => ?_)
          generalize W5.drew = W6 at HB5 ⊢
          have HB : Hid _ := HB5.out
          clear HB5
          refine wpAnyH_take (i := 0) (v := .string s) rfl (by kernel_rfl) (by kernel_rfl) (by kernel_rfl) (fun _ _ _ h => h) (Or.inl ⟨by rfl, by intro w' hw; go_simp⟩) hSS ?_
          try simp only [Act.put, List.setIfInBounds_toArray, List.set_cons_zero, List.set_cons_succ, List.getElem_toArray, List.getElem_cons_zero, List.getElem_cons_succ]
          refine wpAnyH_take (i := 1) (v := .int .i64 (k : Int)) rfl (by kernel_rfl) (by kernel_rfl) (by kernel_rfl) (fun _ _ _ h => h) (Or.inl ⟨by rfl, by intro w' hw; go_simp⟩) hSS ?_
          try simp only [Act.put, List.setIfInBounds_toArray, List.set_cons_zero, List.set_cons_succ, List.getElem_toArray, List.getElem_cons_zero, List.getElem_cons_succ]
          refine wpAnyH_take (i := 2) (v := .int .i64 (m : Int)) rfl (by kernel_rfl) (by kernel_rfl) (by kernel_rfl) (fun _ _ _ h => h) (Or.inl ⟨by rfl, by intro w' hw; go_simp⟩) hSS ?_
          try simp only [Act.put, List.setIfInBounds_toArray, List.set_cons_zero, List.set_cons_succ, List.getElem_toArray, List.getElem_cons_zero, List.getElem_cons_succ]
          refine wpAnyH_take (i := 3) (v := .int .i64 ((m : Int) + 1)) rfl (by kernel_rfl) (by kernel_rfl) (by kernel_rfl) (fun _ _ _ h => h) (Or.inl ⟨by rfl, by intro w' hw; go_simp⟩) hSS ?_
          try simp only [Act.put, List.setIfInBounds_toArray, List.set_cons_zero, List.set_cons_succ, List.getElem_toArray, List.getElem_cons_zero, List.getElem_cons_succ]
          refine wpAnyH_take (i := 4) (v := .string (s.extract k (m + 1))) rfl (by kernel_rfl) (by kernel_rfl) (by kernel_rfl) (fun _ _ _ h => h) (Or.inl ⟨by rfl, by intro w' hw; go_simp⟩) hSS ?_
          try simp only [Act.put, List.setIfInBounds_toArray, List.set_cons_zero, List.set_cons_succ, List.getElem_toArray, List.getElem_cons_zero, List.getElem_cons_succ]
          refine wpAnyH_take (i := 5) (v := .int .i64 (m : Int)) rfl (by kernel_rfl) (by kernel_rfl) (by kernel_rfl) (fun _ _ _ h => h) (Or.inl ⟨by rfl, by intro w' hw; go_simp⟩) hSS ?_
          try simp only [Act.put, List.setIfInBounds_toArray, List.set_cons_zero, List.set_cons_succ, List.getElem_toArray, List.getElem_cons_zero, List.getElem_cons_succ]
          refine wpAnyH_take (i := 6) (v := .int .i64 ((m : Int) + 1)) rfl (by kernel_rfl) (by kernel_rfl) (by kernel_rfl) (fun _ _ _ h => h) (Or.inl ⟨by rfl, by intro w' hw; go_simp⟩) hSS ?_
          try simp only [Act.put, List.setIfInBounds_toArray, List.set_cons_zero, List.set_cons_succ, List.getElem_toArray, List.getElem_cons_zero, List.getElem_cons_succ]
          refine wpAnyH_take (i := 7) (v := .string u) rfl (by kernel_rfl) (by kernel_rfl) (by kernel_rfl) (fun _ _ _ h => h) (Or.inl ⟨by rfl, by intro w' hw; go_simp⟩) hSS ?_
          try simp only [Act.put, List.setIfInBounds_toArray, List.set_cons_zero, List.set_cons_succ, List.getElem_toArray, List.getElem_cons_zero, List.getElem_cons_succ]
          refine wpAnyH_take (i := 8) (v := .pointer (some ⟨T, 0, none⟩)) rfl (by kernel_rfl) (by kernel_rfl) (by kernel_rfl) (fun _ _ _ h => h) (Or.inl ⟨by rfl, by intro w' hw; go_simp⟩) hSS ?_
          try simp only [Act.put, List.setIfInBounds_toArray, List.set_cons_zero, List.set_cons_succ, List.getElem_toArray, List.getElem_cons_zero, List.getElem_cons_succ]
          refine wpAnyH_ready (rs := [9]) (by kernel_rfl) (by simp) ?_
          refine AllReadyH.cons rfl (fun K hK => ?_) AllReadyH.nil
          obtain ⟨t3, t4, t5, t6, t7, t8, t9⟩ := tb_cells HB.out.t
          have tf := fun o => tb_frozen HB.out.t o
          dsimp only at t3 t4 t5 t6 t7 t8 t9
          have HB' : Hid _ := HB.out.kind 4
          clear HB
          have HB : Hid _ := HB'.out
          clear HB'
          go_simp
          try go_wp2_with fail
          refine hK.out _ _ (trivial) (fun hSS => ?_)
          clear hK K t3 t4 t5 t6 t7 t8 t9 tf
          try simp only [Act.put, List.setIfInBounds_toArray, List.set_cons_zero, List.set_cons_succ, List.getElem_toArray, List.getElem_cons_zero, List.getElem_cons_succ]
          refine wpAnyH_take (i := 10) (v := .pointer (some ⟨T, 1, none⟩)) rfl (by kernel_rfl) (by kernel_rfl) (by kernel_rfl) (fun _ _ _ h => h) (Or.inl ⟨by rfl, by intro w' hw; go_simp⟩) hSS ?_
          try simp only [Act.put, List.setIfInBounds_toArray, List.set_cons_zero, List.set_cons_succ, List.getElem_toArray, List.getElem_cons_zero, List.getElem_cons_succ]
          refine wpAnyH_ready (rs := [11]) (by kernel_rfl) (by simp) ?_
          refine AllReadyH.cons rfl (fun K hK => ?_) AllReadyH.nil
          obtain ⟨t3, t4, t5, t6, t7, t8, t9⟩ := tb_cells HB.out.t
          have tf := fun o => tb_frozen HB.out.t o
          dsimp only at t3 t4 t5 t6 t7 t8 t9
          have HB' : Hid _ := HB.out.text (s.extract k (m + 1))
          clear HB
          have HB : Hid _ := HB'.out
          clear HB'
          go_simp
          try go_wp2_with fail
          refine hK.out _ _ (trivial) (fun hSS => ?_)
          clear hK K t3 t4 t5 t6 t7 t8 t9 tf
          try simp only [Act.put, List.setIfInBounds_toArray, List.set_cons_zero, List.set_cons_succ, List.getElem_toArray, List.getElem_cons_zero, List.getElem_cons_succ]
          refine wpAnyH_take (i := 12) (v := .pointer (some ⟨T, 6, none⟩)) rfl (by kernel_rfl) (by kernel_rfl) (by kernel_rfl) (fun _ _ _ h => h) (Or.inl ⟨by rfl, by intro w' hw; go_simp⟩) hSS ?_
          try simp only [Act.put, List.setIfInBounds_toArray, List.set_cons_zero, List.set_cons_succ, List.getElem_toArray, List.getElem_cons_zero, List.getElem_cons_succ]
          refine wpAnyH_ready (rs := [13]) (by kernel_rfl) (by simp) ?_
          refine AllReadyH.cons rfl (fun K hK => ?_) AllReadyH.nil
          obtain ⟨t3, t4, t5, t6, t7, t8, t9⟩ := tb_cells HB.out.t
          have tf := fun o => tb_frozen HB.out.t o
          dsimp only at t3 t4 t5 t6 t7 t8 t9
          have HB' : Hid _ := HB.out.fin ((m : Int) + 1)
          clear HB
          have HB : Hid _ := HB'.out
          clear HB'
          go_simp
          try go_wp2_with fail
          refine hK.out _ _ (trivial) (fun hSS => ?_)
          clear hK K t3 t4 t5 t6 t7 t8 t9 tf
          try simp only [Act.put, List.setIfInBounds_toArray, List.set_cons_zero, List.set_cons_succ, List.getElem_toArray, List.getElem_cons_zero, List.getElem_cons_succ]
          refine wpAnyH_take (i := 14) (v := .pointer (some ⟨T, 4, none⟩)) rfl (by kernel_rfl) (by kernel_rfl) (by kernel_rfl) (fun _ _ _ h => h) (Or.inl ⟨by rfl, by intro w' hw; go_simp⟩) hSS ?_
          try simp only [Act.put, List.setIfInBounds_toArray, List.set_cons_zero, List.set_cons_succ, List.getElem_toArray, List.getElem_cons_zero, List.getElem_cons_succ]
          refine wpAnyH_ready (rs := [15]) (by kernel_rfl) (by simp) ?_
          refine AllReadyH.cons rfl (fun K hK => ?_) AllReadyH.nil
          obtain ⟨t3, t4, t5, t6, t7, t8, t9⟩ := tb_cells HB.out.t
          have tf := fun o => tb_frozen HB.out.t o
          dsimp only at t3 t4 t5 t6 t7 t8 t9
          have HB' : Hid _ := HB.out.says u
          clear HB
          have HB : Hid _ := HB'.out
          clear HB'
          go_simp
          try go_wp2_with fail
          refine hK.out _ _ (trivial) (fun hSS => ?_)
          clear hK K t3 t4 t5 t6 t7 t8 t9 tf
          try simp only [Act.put, List.setIfInBounds_toArray, List.set_cons_zero, List.set_cons_succ, List.getElem_toArray, List.getElem_cons_zero, List.getElem_cons_succ]
          refine wpAnyH_done (by kernel_rfl) ?_ _
          generalize (((W6.setCell ⟨T, 0, none⟩ (.int .i64 4)).setCell ⟨T, 1, none⟩ (.string (s.extract k (m + 1)))).setCell ⟨T, 6, none⟩ (.int .i64 ((m : Int) + 1))).setCell ⟨T, 4, none⟩ (.string u) = W7 at HB ⊢
          obtain ⟨t3, t4, t5, t6, t7, t8, t9⟩ := tb_cells HB.out.t
          obtain ⟨r3, r4, r5, r6, r7, r8, r9⟩ := tb_cells HB.out.r
          have tf := fun o => tb_frozen HB.out.t o
          have rf := fun o => tb_frozen HB.out.r o
          dsimp only [t0] at t3 t4 t5 t6 t7 t8 t9 r3 r4 r5 r6 r7 r8 r9
          have nRT : R ≠ T := by have := HB.out.lt; omega
          have nTR : T ≠ R := by have := HB.out.lt; omega
          have HKf : Hid (Kept No w W7 ∧ w.heap.size ≤ R) := ⟨HB.out.kept, HB.out.le⟩
          clear HB
          go_wp2_with fail
          refine bodyPost_ret (v := .tuple #[tv ⟨4, s.extract k (m + 1), 0, 0, u, k, (m + 1 : Nat)⟩, .int .i64 0]) (by simp [results, Tryz.results13, go_sem, tv, t3, t4, t5, t6, t7, t8, t9, r3, r4, r5, r6, r7, r8, r9, nRT, nTR]) rfl ⟨QP_ok HUq.out hm1, ?_⟩
          repeat refine Kept.set ?_ _ _ _ (Or.inr HKf.out.2)
          exact HKf.out.1
      · have k34 : ((s[m].toNat : Int) == 34) = false := neI _ 34 hm34
        have HM2 : Hid (q = (qL ((bl s).drop (m + 1))).map (· + (m + 1 - (k + 1)))) := by
          show _ = _
          rw [HM.out, qb hm34]
          cases qL ((bl s).drop (m + 1)) with
          | none => rfl
          | some a => simp; omega
        clear HM qa qb
        go_wp2_with fail
        exact ⟨⟨m + 1, by omega, by omega, by go_num, HM2.out⟩, by simp [intOf]; omega⟩
    · have dm : decide ((m : Int) < (s.size : Int)) = false := decide_eq_false (by omega)
      have hms : m = s.size := by omega
      have hq : q = none := by
        rw [HM.out, List.drop_eq_nil_of_le (by rw [bl_len]; omega)]; rfl
      clear HM
      subst hq
      subst hms
      have heq : ((s.size : Int) == (s.size : Int)) = true := by simp
      have HB : Hid (Bx w W0 R T ⟨0, ⟨#[]⟩, 0, 0, ⟨#[]⟩, k, 0⟩) := HBx.out
      clear HBx
      obtain ⟨t3, t4, t5, t6, t7, t8, t9⟩ := tb_cells HB.out.t
      obtain ⟨r3, r4, r5, r6, r7, r8, r9⟩ := tb_cells HB.out.r
      have tf := fun o => tb_frozen HB.out.t o
      have rf := fun o => tb_frozen HB.out.r o
      dsimp only [t0] at t3 t4 t5 t6 t7 t8 t9 r3 r4 r5 r6 r7 r8 r9
      have nRT : R ≠ T := by have := HB.out.lt; omega
      have nTR : T ≠ R := by have := HB.out.lt; omega
      have HKf : Hid (Kept No w W0 ∧ w.heap.size ≤ R) := ⟨HB.out.kept, HB.out.le⟩
      clear HB
      go_wp2_with fail
      refine bodyPost_ret (v := .tuple #[tv ⟨0, ⟨#[]⟩, 0, 0, ⟨#[]⟩, k, 0⟩, .int .i64 16]) (by simp [results, Tryz.results13, go_sem, tv, t3, t4, t5, t6, t7, t8, t9, r3, r4, r5, r6, r7, r8, r9, nRT, nTR]) rfl ⟨QP_none s k _, ?_⟩
      repeat refine Kept.set ?_ _ _ _ (Or.inr HKf.out.2)
      exact HKf.out.1
end Go.Proofs.YtidokamfppdnaaaGreatDoor
