/- Scope: many variables, the walk. -/
import Derived.Test.YtgkgpjbbmnfnmaaGreatDoorS29
namespace Go.Proofs.YtgkgpjbbmnfnmaaGreatDoor
open Go.RowKit
set_option linter.unusedSimpArgs false
set_option linter.unusedVariables false

set_option maxRecDepth 20000 in
set_option maxHeartbeats 4000000 in
theorem ScopeMany_any (n : Int) (w : World) (he : ErrIs w) (hg : SgIs w) : Calls Tryz.prog 6 #[.int .i64 n] w fun r w' => r = .returned (.bool true) ∧ Kept No w w' := by
  have HA : Hid (∀ W, Kept No w W → Calls Tryz.prog 9 #[] W fun r w' => r = .returned (.bool true) ∧ Kept No W w') := fun W hk => alive_any (he.no hk) (hg.no hk)
  by_cases hout : n < 0 ∨ 200 < n
  · clear he hg
    have HC : Hid _ := HA.out w (Kept.refl _ _)
    clear HA
    go_enter Tryz.func6, Tryz.ntmps6
    rcases hout with h | h
    · go_wp2_with fail
      refine Calls.mono HC.out ?_
      rintro r W2 ⟨rfl, hk2⟩
      have HK2 : Hid _ := hk2
      clear hk2 HC
      go_wp2_with fail
      go_ret
      exact ⟨rfl, HK2.out⟩
    · have h0 : ¬ n < 0 := by omega
      go_wp2_with fail
      refine Calls.mono HC.out ?_
      rintro r W2 ⟨rfl, hk2⟩
      have HK2 : Hid _ := hk2
      clear hk2 HC
      go_wp2_with fail
      go_ret
      exact ⟨rfl, HK2.out⟩
  · obtain ⟨m, rfl⟩ : ∃ m : Nat, n = (m : Int) := ⟨n.toNat, by omega⟩
    have hm : m ≤ 200 := by omega
    clear hout
    obtain ⟨T1, hT1, hf1, hm1⟩ := res1 m hm
    obtain ⟨T2, hT2, st2, hr2, hu2⟩ := res2 m hm
    have HP1 : Hid (∀ W, Kept No w W → Calls Tryz.prog 7 #[.string (sp1 m)] W (RvRes W T1)) := fun W hk => Resolve_any _ W (he.no hk) (hg.no hk) hT1
    have HP2 : Hid (∀ W, Kept No w W → Calls Tryz.prog 7 #[.string (sp2 m)] W (RvRes W T2)) := fun W hk => Resolve_any _ W (he.no hk) (hg.no hk) hT2
    have HR1 : Hid ((m ≤ 60 → ∃ st, resM T1 = .ok st ∧ st.us.length = m) ∧ (60 < m → resM T1 = .error (486, 4))) := ⟨hf1, hm1⟩
    have HR2 : Hid (resM T2 = .ok st2 ∧ st2.us.length = m) := ⟨hr2, hu2⟩
    clear he hg hT1 hf1 hm1 hT2 hr2 hu2
    have h0 : ¬ (m : Int) < 0 := by omega
    have h1 : ¬ (200 : Int) < (m : Int) := by omega
    go_enter Tryz.func6, Tryz.ntmps6
    go_wp2_with fail
    go_loopw [5, 4, 3] (fun i t s wr => ∃ j : Nat, j ≤ m ∧ i = .int .i64 (j : Int) ∧ t = .string (sp2 j) ∧ s = .string (sp1 j) ∧ Hid (Kept No w wr)) (fun i _ _ _ => m - (intOf i).toNat)
    case atStart => exact ⟨0, by omega, rfl, rfl, rfl, Kept.refl _ _⟩
    case round =>
      obtain ⟨j, hj, rfl, rfl, rfl, HK⟩ := hrel
      by_cases hlt : j < m
      · have k1 : (j : Int) < (m : Int) := by omega
        have k0 : (0 : Int) ≤ (j : Int) := by omega
        have z1 := sp1_size j
        have z2 := sp2_size j
        go_wp2_with fail
        go_roundw
        case rel => exact ⟨j + 1, by omega, by go_num, by rw [sp2_succ], by rw [sp1_succ], HK.out⟩
        all_goals (simp only [intOf, Int.toNat_natCast]; omega)
      · have k1 : ¬ (j : Int) < (m : Int) := by omega
        obtain rfl : j = m := by omega
        have HC1 : Hid _ := HP1.out wr HK.out
        go_wp2_with fail
        refine Calls.mono HC1.out ?_
        rintro e W1 ⟨hk1, e1⟩
        have HK1 : Hid (Kept No w W1) := HK.out.trans hk1
        have HC2 : Hid _ := HP2.out W1 HK1.out
        clear HP1 HP2 HC1 hk1 hlt
        rcases Nat.lt_or_ge 60 j with q | q
        · rw [HR1.out.2 q] at e1
          dsimp only at e1
          subst e1
          have q1 : (60 : Int) < (j : Int) := by omega
          go_wp2_with fail
          refine Calls.mono HC2.out ?_
          rintro e W2 ⟨hk2, e2⟩
          rw [HR2.out.1] at e2
          obtain ⟨u, rfl, U, ao, cap, B, rfl, _, hp, _, _⟩ := e2
          have hU : U.length = j := by rw [hp.length_eq, List.length_map]; exact HR2.out.2
          rw [hU]
          have HK2 : Hid (Kept No w W2) := HK1.out.trans hk2
          have HC3 : Hid _ := HA.out W2 HK2.out
          have q2 : ((j : Int) != (j : Int)) = false := by simp
          clear hk2 hp hU HC2 HA HR1 HR2
          go_wp2_with (first | (go_at_call 8; refine Calls.mono (no_any _ _) ?_; rintro e w1 ⟨rfl, rfl⟩))
          refine Calls.mono HC3.out ?_
          rintro r W3 ⟨rfl, hk3⟩
          have HK3 : Hid _ := HK2.out.trans hk3
          clear hk3 HC3
          go_wp2_with fail
          go_ret
          exact ⟨rfl, HK3.out⟩
        · obtain ⟨st1, r1, r2⟩ := HR1.out.1 q
          rw [r1] at e1
          obtain ⟨u1, rfl, U1, ao1, cap1, B1, rfl, _, hp1, _, _⟩ := e1
          have hU1 : U1.length = j := by rw [hp1.length_eq, List.length_map]; exact r2
          rw [hU1]
          have q1 : ¬ (60 : Int) < (j : Int) := by omega
          clear hp1 hU1 r1 r2
          go_wp2_with fail
          refine Calls.mono HC2.out ?_
          rintro e W2 ⟨hk2, e2⟩
          rw [HR2.out.1] at e2
          obtain ⟨u, rfl, U, ao, cap, B, rfl, _, hp, _, _⟩ := e2
          have hU : U.length = j := by rw [hp.length_eq, List.length_map]; exact HR2.out.2
          rw [hU]
          have HK2 : Hid (Kept No w W2) := HK1.out.trans hk2
          have HC3 : Hid _ := HA.out W2 HK2.out
          have q2 : ((j : Int) != (j : Int)) = false := by simp
          clear hk2 hp hU HC2 HA HR1 HR2
          go_wp2_with (first | (go_at_call 8; refine Calls.mono (no_any _ _) ?_; rintro e w1 ⟨rfl, rfl⟩))
          refine Calls.mono HC3.out ?_
          rintro r W3 ⟨rfl, hk3⟩
          have HK3 : Hid _ := HK2.out.trans hk3
          clear hk3 HC3
          go_wp2_with fail
          go_ret
          exact ⟨rfl, HK3.out⟩
end Go.Proofs.YtgkgpjbbmnfnmaaGreatDoor
