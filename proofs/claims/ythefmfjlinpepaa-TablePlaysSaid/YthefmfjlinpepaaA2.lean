/- sizes. -/
import Derived.Test.YthefmfjlinpepaaA1
namespace Go.Proofs.Ythefmfjlinpepaa
open Go.RowKit Go.Shelf
set_option linter.unusedSimpArgs false
set_option linter.unusedVariables false
attribute [local go_sem] Oper.semAt_some

/-- Behind p powers: the array's size, the keys within it, all keys so far. -/
def szS (c : Nat → Nat) : Nat → Nat × Nat × Nat
  | 0 => (0, 0, 0)
  | p + 1 => if 2 ^ p < 2 * ((szS c p).2.2 + c p) then (2 ^ p, (szS c p).2.2 + c p, (szS c p).2.2 + c p) else ((szS c p).1, (szS c p).2.1, (szS c p).2.2 + c p)
/-- The array's size for these keys. -/
def szA (L : List Ent) : Nat := (szS (cnt L) 13).1
/-- The nodes for these keys. -/
def szN (L : List Ent) : Nat := pw2 (L.length - (szS (cnt L) 13).2.1)

theorem szS_le (c : Nat → Nat) : ∀ p, (szS c p).2.1 ≤ (szS c p).2.2 ∧ (szS c p).1 ≤ 2 ^ p
  | 0 => by simp [szS]
  | p + 1 => by
    have ih := szS_le c p
    have h2 : 2 ^ (p + 1) = 2 * 2 ^ p := by rw [Nat.pow_succ]; omega
    unfold szS
    split <;> simp <;> omega
/-- All keys of at most p powers. -/
theorem szS_all (L : List Ent) : ∀ p, (szS (cnt L) p).2.2 ≤ (L.filter fun e => powB e.1 && decide (lenK e.1 < p)).length
  | 0 => by simp [szS]
  | p + 1 => by
    have ih := szS_all L p
    have e : (szS (cnt L) (p + 1)).2.2 = (szS (cnt L) p).2.2 + cnt L p := by
      conv => lhs; unfold szS
      split <;> rfl
    rw [e]
    have hs : ∀ M : List Ent, (M.filter fun e => powB e.1 && decide (lenK e.1 < p + 1)).length = (M.filter fun e => powB e.1 && decide (lenK e.1 < p)).length + cnt M p := by
      intro M
      induction M with
      | nil => rfl
      | cons x M ih =>
        unfold cnt at ih ⊢
        simp only [List.filter_cons]
        cases hx : powB x.1
        · simpa using ih
        · rcases Nat.lt_trichotomy (lenK x.1) p with h | h | h
          · have h1 : lenK x.1 < p + 1 := by omega
            have h2 : (lenK x.1 == p) = false := by simp; omega
            simp [h, h1, h2]; omega
          · have h1 : lenK x.1 < p + 1 := by omega
            have h2 : (lenK x.1 == p) = true := by simp [h]
            have h3 : ¬ lenK x.1 < p := by omega
            simp [h1, h2, h3]; omega
          · have h1 : ¬ lenK x.1 < p + 1 := by omega
            have h2 : (lenK x.1 == p) = false := by simp; omega
            have h3 : ¬ lenK x.1 < p := by omega
            simp [h1, h2, h3]; omega
    rw [hs]; omega
theorem szS_len (L : List Ent) (p : Nat) : (szS (cnt L) p).2.1 ≤ L.length ∧ (szS (cnt L) p).2.2 ≤ L.length := by
  have h1 := szS_all L p
  have h2 := szS_le (cnt L) p
  have h3 := List.length_filter_le (fun e => powB e.1 && decide (lenK e.1 < p)) L
  omega

theorem ix123 (c : Nat → Nat) (j : Nat) (hj : j < 13) (w : World) : (Instr.index 123 (.agg (cntO c)) (.int .i64 (j : Int))).run Try.prog w = .ok (.int .i64 (c j : Int)) w := by
  obtain rfl | rfl | rfl | rfl | rfl | rfl | rfl | rfl | rfl | rfl | rfl | rfl | rfl : j = 0 ∨ j = 1 ∨ j = 2 ∨ j = 3 ∨ j = 4 ∨ j = 5 ∨ j = 6 ∨ j = 7 ∨ j = 8 ∨ j = 9 ∨ j = 10 ∨ j = 11 ∨ j = 12 := by omega
  all_goals kernel_rfl

set_option maxRecDepth 20000 in
set_option maxHeartbeats 4000000 in
theorem sizes_any (L : List Ent) (v : Value) (w : World) (hv : EntsIs w v L) (hL : L.length ≤ 256) :
    Calls Try.prog 75 #[v] w fun e w' => e = .returned (.tuple #[.int .i64 (szA L : Nat), .int .i64 (szN L : Nat)]) ∧ Kept No w w' := by
  have HP : Hid (Calls Try.prog 84 #[v] w fun e w' => e = .returned (.agg (cntO (cnt L))) ∧ Kept No w w') := atPowers_any L (by omega) v w hv
  obtain ⟨ao, cap, rfl⟩ : ∃ ao cap, v = .slice ao L.length cap := by
    rcases hv with ⟨rfl, rfl⟩ | ⟨b, c, rfl, _⟩
    · exact ⟨_, _, rfl⟩
    · exact ⟨_, _, rfl⟩
  have HS : Hid (∀ p, (szS (cnt L) p).2.1 ≤ L.length ∧ (szS (cnt L) p).2.2 ≤ L.length) := szS_len L
  have HC : Hid (∀ p, cnt L p ≤ L.length) := cnt_le L
  have HA : Hid (∀ w, Calls Try.prog 85 #[.int .i64 ((L.length - (szS (cnt L) 13).2.1 : Nat) : Int)] w fun e w' => e = .returned (.int .i64 (szN L : Nat)) ∧ w = w') := atLeast_any _ (by omega)
  have HZ : Hid (szA L = (szS (cnt L) 13).1) := by show _ = _; rfl
  generalize szA L = ra at HZ ⊢
  generalize szN L = rn at HA ⊢
  generalize cnt L = c at HP HS HC HA HZ
  generalize L.length = N at *
  clear hv
  have HIX : Hid (∀ j : Nat, j < 13 → ∀ w, (Instr.index 123 (.agg (cntO c)) (.int .i64 (j : Int))).run Try.prog w = .ok (.int .i64 (c j : Int)) w) := ix123 c
  generalize cntO c = CC at HP HIX
  go_enter Try.func75, Try.ntmps75
  go_wp2_with fail
  refine HP.out.mono ?_
  rintro e w1 ⟨rfl, hk1⟩
  have HK : Hid (Kept No w w1) := hk1
  clear hk1 HP
  go_wp2_with fail
  go_loop [2, 4, 5, 10] (fun ta ti ts tj => ∃ j : Nat, j ≤ 13 ∧ ta = .int .i64 ((szS c j).1 : Nat) ∧ ti = .int .i64 ((szS c j).2.1 : Nat) ∧ ts = .int .i64 ((szS c j).2.2 : Nat) ∧ tj = .int .i64 j) (fun _ _ _ tj => 13 - (intOf tj).toNat)
  case atStart => exact ⟨0, by omega, rfl, rfl, rfl, rfl⟩
  case round =>
    obtain ⟨j, hj, rfl, rfl, rfl, rfl⟩ := hrel
    have hs1 := HS.out j
    have hs2 := (szS_le c j).2
    have hs3 : c j ≤ N := HC.out j
    have HU : Hid (szS c (j + 1) = if 2 ^ j < 2 * ((szS c j).2.2 + c j) then (2 ^ j, (szS c j).2.2 + c j, (szS c j).2.2 + c j) else ((szS c j).1, (szS c j).2.1, (szS c j).2.2 + c j)) := by show _ = _; rw [szS]
    by_cases h13 : j = 13
    · subst h13
      rw [← HZ.out]
      generalize (szS c 13).2.1 = i13 at hs1 HA ⊢
      have e1 : (N : Int) - (i13 : Int) = ((N - i13 : Nat) : Int) := by omega
      clear HU hs2 hs3
      go_wp2_with fail
      refine (HA.out _).mono ?_
      rintro e w' ⟨rfl, rfl⟩
      go_wp2
      go_ret2
      exact ⟨rfl, HK.out⟩
    · have hix := HIX.out j (by omega)
      obtain ⟨j1, HJ1⟩ : ∃ j1, Hid (j1 = j + 1) := ⟨_, show _ = _ from rfl⟩
      rw [← HJ1.out] at HU
      generalize hst : szS c j = st at hs1 hs2 HU ⊢
      clear hst
      obtain ⟨ra', ri, rs⟩ := st
      simp only at hs1 hs2 HU ⊢
      rcases Nat.lt_or_ge (2 ^ j) (2 * (rs + c j)) with hb | hb
      · have HU' : Hid (szS c j1 = (2 ^ j, rs + c j, rs + c j)) := by show _ = _; rw [HU.out, if_pos hb]
        have hb' : ((2 ^ j : Nat) : Int) < 2 * ((rs : Int) + (c j : Int)) := by omega
        clear hb HU
        obtain rfl | rfl | rfl | rfl | rfl | rfl | rfl | rfl | rfl | rfl | rfl | rfl | rfl : j = 0 ∨ j = 1 ∨ j = 2 ∨ j = 3 ∨ j = 4 ∨ j = 5 ∨ j = 6 ∨ j = 7 ∨ j = 8 ∨ j = 9 ∨ j = 10 ∨ j = 11 ∨ j = 12 := by omega
        all_goals (
          clear hj h13
          simp only [Nat.reducePow, Int.cast_ofNat_Int, Int.natCast_one, Nat.reduceAdd] at hb' HU' hix HJ1
          go_wp2
          go_round
          case rel => exact ⟨j1, by have := HJ1.out; omega, by rw [HU'.out] <;> first | rfl | simp, by rw [HU'.out] <;> first | rfl | simp, by rw [HU'.out] <;> first | rfl | simp, by rw [HJ1.out] <;> first | rfl | simp⟩
          case measure => first | decide | (simp [intOf]; done) | (simp [intOf]; omega))
      · have HU' : Hid (szS c j1 = (ra', ri, rs + c j)) := by show _ = _; rw [HU.out, if_neg (by omega)]
        have hb' : ¬ ((2 ^ j : Nat) : Int) < 2 * ((rs : Int) + (c j : Int)) := by omega
        clear hb HU
        obtain rfl | rfl | rfl | rfl | rfl | rfl | rfl | rfl | rfl | rfl | rfl | rfl | rfl : j = 0 ∨ j = 1 ∨ j = 2 ∨ j = 3 ∨ j = 4 ∨ j = 5 ∨ j = 6 ∨ j = 7 ∨ j = 8 ∨ j = 9 ∨ j = 10 ∨ j = 11 ∨ j = 12 := by omega
        all_goals (
          clear hj h13
          simp only [Nat.reducePow, Int.cast_ofNat_Int, Int.natCast_one, Nat.reduceAdd] at hb' HU' hix HJ1
          go_wp2
          go_round
          case rel => exact ⟨j1, by have := HJ1.out; omega, by rw [HU'.out] <;> first | rfl | simp, by rw [HU'.out] <;> first | rfl | simp, by rw [HU'.out] <;> first | rfl | simp, by rw [HJ1.out] <;> first | rfl | simp⟩
          case measure => first | decide | (simp [intOf]; done) | (simp [intOf]; omega))
end Go.Proofs.Ythefmfjlinpepaa
