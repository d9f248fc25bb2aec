/- The document's digits; its Fits. -/
import Derived.Test.YtbhmgmbgplkkeaaDoorU9
namespace Go.Proofs.YtbhmgmbgplkkeaaDoor
open Go.RowKit
set_option linter.unusedSimpArgs false
set_option linter.unusedVariables false

theorem dec_step (m : Nat) : Lib.decDigits m = decN (m / 10) ++ [UInt8.ofNat (48 + m % 10)] := by
  by_cases h : 0 < m
  · have := decN_step m h
    unfold decN at this ⊢
    rw [if_neg (by omega)] at this
    exact this
  · obtain rfl : m = 0 := by omega
    rw [dec_small (by omega)]; rfl
abbrev tenS : ByteArray := ⟨#[48, 49, 50, 51, 52, 53, 54, 55, 56, 57]⟩
set_option maxRecDepth 20000 in
theorem ten_cut : ∀ i : Fin 10, bl (tenS.extract i.val (i.val + 1)) = [UInt8.ofNat (48 + i.val)] ∧ (tenS.extract i.val (i.val + 1)).size = 1 := by decide +kernel

set_option maxRecDepth 20000 in
set_option maxHeartbeats 400000 in
theorem Digits_any (N : Nat) (hN : N ≤ 1000000000) (w : World) :
    Calls Tryd.prog 45 #[.int .u64 N] w fun e w' => e = .returned (.string (mk (Lib.decDigits N))) ∧ w = w' := by
  obtain ⟨c, hc⟩ : ∃ c, N % 10 = c := ⟨_, rfl⟩
  obtain ⟨d, hd⟩ : ∃ d, N / 10 = d := ⟨_, rfl⟩
  have c10 : c < 10 := by omega
  have ic1 : (N : Int) % 10 = (c : Int) := by omega
  have id1 : (N : Int) / 10 = (d : Int) := by omega
  have hs := dec_step N
  rw [hc, hd] at hs
  have hd9 : d ≤ 100000000 := by omega
  have HS : Hid (decN d ++ bl (tenS.extract c (c + 1)) = Lib.decDigits N) := by rw [hs, (ten_cut ⟨c, c10⟩).1]; rfl
  have sS : (tenS.extract c (c + 1)).size = 1 := (ten_cut ⟨c, c10⟩).2
  have HL : Hid ((Lib.decDigits N).length ≤ 10) := by show _ ≤ _; rw [Lib.decDigits_length]; exact nDigits_le 9 N (by omega)
  have hN64 : (N : Int) ≤ 1000000000 := by omega
  have hN0 : (0 : Int) ≤ (N : Int) := by omega
  clear hs hc hd
  go_enter Tryd.func45, Tryd.ntmps45
  go_wp2_with fail
  go_loopw [0, 3] (fun v0 v3 wr => ∃ (m : Nat) (S : ByteArray), v0 = .int .u64 m ∧ v3 = .string S ∧ m ≤ 100000000 ∧ S.size ≤ 10 ∧ Hid (decN m ++ bl S = Lib.decDigits N) ∧ w = wr) (fun v0 _ _ => (intOf v0).toNat)
  case atStart => exact ⟨d, _, rfl, rfl, hd9, Nat.le_trans (Nat.le_of_eq sS) (by decide), HS, rfl⟩
  case round =>
    clear sS HS ic1 id1 c10 hd9
    obtain ⟨m, S, rfl, rfl, hm9, hS, HJ, hw⟩ := hrel
    subst hw
    by_cases hm0 : 0 < m
    · have im : (0 : Int) < (m : Int) := by omega
      obtain ⟨c, hc⟩ : ∃ c, m % 10 = c := ⟨_, rfl⟩
      obtain ⟨d, hd⟩ : ∃ d, m / 10 = d := ⟨_, rfl⟩
      have c10 : c < 10 := by omega
      have ic1 : (m : Int) % 10 = (c : Int) := by omega
      have id1 : (m : Int) / 10 = (d : Int) := by omega
      have sS : (tenS.extract c (c + 1)).size = 1 := (ten_cut ⟨c, c10⟩).2
      have HN : Hid (decN d ++ bl (tenS.extract c (c + 1) ++ S) = Lib.decDigits N) := by
        show _ = _
        have := HJ.out
        rw [decN_step m hm0, hc, hd] at this
        rw [← this]
        have e2 : bl (tenS.extract c (c + 1) ++ S) = bl (tenS.extract c (c + 1)) ++ bl S := by simp [bl]
        rw [e2, (ten_cut ⟨c, c10⟩).1, List.append_assoc]
      have sN : (tenS.extract c (c + 1) ++ S).size ≤ 10 := by
        have := congrArg List.length HN.out
        rw [List.length_append, bl_len] at this; have := HL.out; omega
      have hdN : d ≤ 100000000 := by omega
      have hmd : d < m := by omega
      clear HJ hc hd
      go_wp2_with fail
      go_roundw
      case rel => exact ⟨d, _, rfl, rfl, hdN, sN, HN, by first | rfl | trivial⟩
      case measure => simp [intOf] <;> omega
    · obtain rfl : m = 0 := by omega
      have hbS : Hid (S = mk (Lib.decDigits N)) := by
        show _ = _
        have := HJ.out
        rw [← this]
        exact (mk_bl S).symm
      clear HJ
      go_wp2_with fail
      go_ret
      exact ⟨by rw [hbS.out]; rfl, rfl⟩

set_option maxRecDepth 20000 in
set_option maxHeartbeats 400000 in
theorem dec_any (n : Int) (h0 : 0 ≤ n) (h1 : n ≤ 999999999) (w : World) :
    Calls Tryd.prog 32 #[.int .i64 n] w fun e w' => e = .returned (.string (mk (Lib.itoa n))) ∧ w = w' := by
  obtain ⟨m, rfl, e⟩ := itoa_pos h0
  rw [e]
  have HD : Hid (∀ X, Calls Tryd.prog 45 #[.int .u64 (m : Int)] X fun e w' => e = .returned (.string (mk (Lib.decDigits m))) ∧ X = w') := fun X => Digits_any m (by omega) X
  go_enter Tryd.func32, Tryd.ntmps32
  go_wp2_with fail
  refine Calls.mono (HD.out _) ?_
  rintro e w1 ⟨rfl, rfl⟩
  go_wp2
  go_ret
  exact ⟨rfl, rfl⟩

theorem rowK_no (k : Int) (h : k < 0 ∨ 5 < k) : rowK k = none := by
  unfold rowK rowsL
  have e : ∀ i : Int, 0 ≤ i → i ≤ 5 → (i == k) = false := fun i h0 h1 => by rw [beq_eq_false_iff_ne]; omega
  simp only [List.find?_cons, e 0 (by omega) (by omega), e 1 (by omega) (by omega), e 2 (by omega) (by omega), e 3 (by omega) (by omega), e 4 (by omega) (by omega), e 5 (by omega) (by omega), List.find?_nil]
/-- What the document's Fits tells. -/
theorem fits_1 (n : Int) : fitsP (1, n) = (decide (0 ≤ n) && decide (n ≤ 999999999)) := rfl
theorem fits_4 (n : Int) : fitsP (4, n) = (decide (0 ≤ n) && decide (n ≤ 1)) := rfl
theorem fits_0 (k n : Int) (h : k = 0 ∨ k = 2 ∨ k = 3 ∨ k = 5) : fitsP (k, n) = decide (n = 0) := by
  have e : ∀ k n, fitsP (k, n) = (decide (0 ≤ n) && decide (n ≤ 0)) → fitsP (k, n) = decide (n = 0) := fun k n h => by
    rw [h, ← Bool.decide_and]
    congr 1; apply propext; omega
  rcases h with rfl | rfl | rfl | rfl <;> exact e _ _ rfl
theorem fits_no (k n : Int) (h : k < 0 ∨ 5 < k) : fitsP (k, n) = false := by unfold fitsP; rw [rowK_no k h]

set_option maxRecDepth 20000 in
set_option maxHeartbeats 400000 in
theorem Fits_any (p1 p2 : Int) (w : World) :
    Calls Tryd.prog 33 #[AV (p1, p2)] w fun e w' => e = .returned (.bool (fitsP (p1, p2))) ∧ Kept No w w' := by
  have HK : Hid (∀ o, Kept No w (w.alloc o)) := fun o => (Kept.refl No w).alloc o
  by_cases h1 : p1 = 1
  · subst h1
    rw [fits_1]
    by_cases a : (0 : Int) ≤ p2 <;> by_cases b : p2 ≤ 999999999
    · rw [decide_eq_true a, decide_eq_true b]
      go_enter Tryd.func33, Tryd.ntmps33
      go_wp2
      go_ret
      exact ⟨rfl, HK.out _⟩
    · rw [decide_eq_true a, decide_eq_false b]
      go_enter Tryd.func33, Tryd.ntmps33
      go_wp2
      go_ret
      exact ⟨rfl, HK.out _⟩
    · rw [decide_eq_false a]
      go_enter Tryd.func33, Tryd.ntmps33
      go_wp2
      go_ret
      exact ⟨rfl, HK.out _⟩
    · omega
  · have i1 : (p1 == 1) = false := by rw [beq_eq_false_iff_ne]; exact h1
    by_cases h4 : p1 = 4
    · subst h4
      rw [fits_4]
      go_enter Tryd.func33, Tryd.ntmps33
      by_cases a : p2 = 0
      · subst a
        go_wp2
        go_ret
        exact ⟨rfl, HK.out _⟩
      · have a' : (p2 == 0) = false := by rw [beq_eq_false_iff_ne]; exact a
        by_cases b : p2 = 1
        · subst b
          go_wp2
          go_ret
          exact ⟨rfl, HK.out _⟩
        · have b' : (p2 == 1) = false := by rw [beq_eq_false_iff_ne]; exact b
          have e : (decide ((0 : Int) ≤ p2) && decide (p2 ≤ 1)) = false := by
            rw [Bool.and_eq_false_iff, decide_eq_false_iff_not, decide_eq_false_iff_not]; omega
          rw [e]
          go_wp2
          go_ret
          exact ⟨rfl, HK.out _⟩
    · have i4 : (p1 == 4) = false := by rw [beq_eq_false_iff_ne]; exact h4
      by_cases hk : (0 : Int) ≤ p1 ∧ p1 ≤ 5
      · obtain ⟨k0, k5⟩ := hk
        rw [fits_0 p1 p2 (by omega)]
        by_cases a : p2 = 0
        · subst a
          go_enter Tryd.func33, Tryd.ntmps33
          go_wp2
          go_ret
          exact ⟨rfl, HK.out _⟩
        · have a' : (p2 == 0) = false := by rw [beq_eq_false_iff_ne]; exact a
          rw [decide_eq_false a]
          go_enter Tryd.func33, Tryd.ntmps33
          go_wp2
          go_ret
          exact ⟨rfl, HK.out _⟩
      · rw [fits_no p1 p2 (by omega)]
        by_cases k0 : (0 : Int) ≤ p1
        · have k5 : ¬ p1 ≤ 5 := fun e => hk ⟨k0, e⟩
          go_enter Tryd.func33, Tryd.ntmps33
          go_wp2
          go_ret
          exact ⟨rfl, HK.out _⟩
        · go_enter Tryd.func33, Tryd.ntmps33
          go_wp2
          go_ret
          exact ⟨rfl, HK.out _⟩
end Go.Proofs.YtbhmgmbgplkkeaaDoor
