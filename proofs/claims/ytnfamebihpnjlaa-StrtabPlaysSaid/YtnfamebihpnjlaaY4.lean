/- StrtabSpreads. -/
import Derived.Test.YtnfamebihpnjlaaY3
namespace Go.Proofs.Ytnfamebihpnjlaa
open Go.RowKit
set_option linter.unusedVariables false
set_option linter.unusedSimpArgs false

theorem pw_bits : ∀ k, k ≤ 12 → bits .and .i64 ((2 ^ (k + 2) : Nat) : Int) (((2 ^ (k + 2) : Nat) : Int) - 1) = 0 := by decide +kernel
theorem pw_le {n k b : Nat} (h : n = 2 ^ (k + 2)) (hb : n ≤ 16000) : k ≤ 12 := by
  rcases Nat.lt_or_ge k 13 with h1 | h1
  · omega
  · have : 2 ^ (13 + 2) ≤ 2 ^ (k + 2) := Nat.pow_le_pow_right (by omega) (by omega)
    rw [← h] at this
    have e : 2 ^ (13 + 2) = 32768 := by decide
    omega

/-- What is told of the buckets. -/
theorem Tab.looks {w0 w : World} {A b : Nat} {C : Ct} (h : Tab w0 w A b C) (hb : b ≤ 5000) : ∃ n l : Nat, l = C.length ∧ (Calls Try.prog 16 #[.pointer (some ⟨A, 0, none⟩)] w fun e w' => e = .returned (.int .i64 (n : Int)) ∧ w = w') ∧
    (Calls Try.prog 15 #[.pointer (some ⟨A, 0, none⟩)] w fun e w' => e = .returned (.int .i64 (l : Int)) ∧ w = w') ∧ 4 ≤ n ∧ n ≤ 16000 ∧ l ≤ n ∧ (n ≤ 4 ∨ n ≤ 4 * l) ∧ bits .and .i64 (n : Int) ((n : Int) - 1) = 0 := by
  obtain ⟨p, n, L, hp, hR, hI, hc⟩ := h
  obtain ⟨k, hk⟩ := hI.pw
  have hbd := hI.bd
  have h4 : 4 ≤ n := by
    rw [hk, Nat.pow_add]
    have : 1 ≤ 2 ^ k := Nat.one_le_two_pow
    omega
  refine ⟨n, L.length, by rw [← hc.length_eq]; simp [ct], hR.buckets, hR.len, h4, by omega, hI.fits, hI.low, ?_⟩
  have := pw_bits k (pw_le (b := b) hk (by omega))
  rw [← hk] at this; exact this

set_option maxRecDepth 20000 in
set_option maxHeartbeats 1000000 in
theorem StrtabSpreads_any (v : Value) (L : List Ac) (w : World) (hL : Acts w v L) : Calls Try.prog 5 #[v] w fun e w' => e = .returned (.bool true) ∧ Kept No w w' := by
  have HA : Hid (Acts w v L) := hL
  obtain ⟨ao, cap, rfl, hwf, hcl⟩ := hL
  clear hcl
  have HW : Hid (∀ a ∈ L, wf a.h ∧ a.s.size ≤ maxLen) := hwf
  clear hwf
  go_enter Try.func5, Try.ntmps5
  go_wp2_with fail
  refine (Tab.new w).mono ?_
  rintro e w1 ⟨A, rfl, h1⟩
  have H1 : Hid (Tab w w1 A 0 []) := h1
  clear h1
  go_wp2_with fail
  refine (alive_any _).mono ?_
  rintro e w2 ⟨rfl, hk2⟩
  have H2 : Hid (Tab w w2 A 0 (playC (L.take 0))) := H1.out.kept hk2
  clear hk2 H1
  have HLg : Hid _ := long_any (HA.out.kept H2.out.since)
  go_wp2_with fail
  refine Calls.mono HLg.out ?_
  rintro e w3 ⟨t, rfl, hl, rfl⟩
  clear HLg
  cases t with
  | true =>
    go_wp2
    go_ret
    exact ⟨rfl, H2.out.since⟩
  | false =>
    have hl := hl rfl
    go_wp2_with fail
    go_loopw [4, 5] (fun i _ wr => ∃ j : Nat, j ≤ L.length ∧ i = .int .i64 j ∧ Hid (Tab w wr A j (playC (L.take j)))) (fun i _ _ => L.length - (ivO i).toNat)
    case atStart => exact ⟨0, Nat.zero_le _, rfl, H2.out⟩
    case round =>
      clear H2
      obtain ⟨j, hj, rfl, HT⟩ := hrel
      by_cases h1 : j < L.length
      · have k1 : (j : Int) < (L.length : Int) := by omega
        obtain ⟨ao', cap', hv, _, hcl⟩ := HA.out.kept HT.out.since
        injection hv with e1 e2 e3
        subst e1
        clear e2 e3
        obtain ⟨b, off, rfl, hcell⟩ := hcl (by omega)
        obtain ⟨a, ha⟩ : ∃ a, L[j]? = some a := ⟨L[j], List.getElem?_eq_getElem _⟩
        obtain ⟨c0, c1, c2⟩ := hcell j a ha
        have HX : Hid (playC (L.take (j + 1)) = doC (playC (L.take j)) a) := by
          show _ = _
          rw [List.take_add_one, ha]; exact playC_snoc _ _
        have HWa := HW.out a (List.mem_of_getElem? ha)
        have HD : Hid _ := HT.out.do (by omega) a HWa.1 HWa.2
        clear HWa ha hcell hcl HT
        obtain ⟨kind, s, x⟩ := a
        go_wp2_with fail
        refine Calls.mono HD.out ?_
        rintro e w2 ⟨⟨v, rfl⟩, h2⟩
        rw [← HX.out] at h2
        have HT : Hid (Tab w w2 A (j + 1) (playC (L.take (j + 1)))) := h2
        clear h2 HD c0 c1 c2
        obtain ⟨n, l, _, hB, hN, n4, n16, hln, hlow, hbits⟩ := HT.out.looks (by omega)
        have HB : Hid (Calls Try.prog 16 #[.pointer (some ⟨A, 0, none⟩)] w2 fun e w' => e = .returned (.int .i64 (n : Int)) ∧ w2 = w') := hB
        have HN : Hid (Calls Try.prog 15 #[.pointer (some ⟨A, 0, none⟩)] w2 fun e w' => e = .returned (.int .i64 (l : Int)) ∧ w2 = w') := hN
        clear hB hN
        have q1 : ¬ (n : Int) < 4 := by omega
        have q2 : ¬ (n : Int) < (l : Int) := by omega
        by_cases h8 : 8 < n
        · have q3 : (8 : Int) < (n : Int) := by omega
          have q4 : Int.tdiv (n : Int) 2 = (n : Int) / 2 := Int.tdiv_eq_ediv_of_nonneg (by omega)
          have q5 : ¬ 4 * (l : Int) < (n : Int) / 2 := by omega
          go_wp2_with (first | (go_at_call 16; refine HB.out.mono ?_; rintro e w' ⟨rfl, rfl⟩) | (go_at_call 15; refine HN.out.mono ?_; rintro e w' ⟨rfl, rfl⟩))
          go_round
          case rel => exact ⟨j + 1, by omega, by first | rfl | go_num, HT.out⟩
          case measure => simp [ivO] <;> omega
        · have q3 : ¬ (8 : Int) < (n : Int) := by omega
          go_wp2_with (first | (go_at_call 16; refine HB.out.mono ?_; rintro e w' ⟨rfl, rfl⟩) | (go_at_call 15; refine HN.out.mono ?_; rintro e w' ⟨rfl, rfl⟩))
          go_round
          case rel => exact ⟨j + 1, by omega, by first | rfl | go_num, HT.out⟩
          case measure => simp [ivO] <;> omega
      · have k1 : ¬ (j : Int) < (L.length : Int) := by omega
        go_wp2
        go_ret
        exact ⟨rfl, HT.out.since⟩
end Go.Proofs.Ytnfamebihpnjlaa
