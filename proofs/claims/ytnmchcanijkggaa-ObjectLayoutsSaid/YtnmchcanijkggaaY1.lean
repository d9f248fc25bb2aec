/- The document's Layout. -/
import Derived.Test.YtnmchcanijkggaaX10
import Derived.Test.YtnmchcanijkggaaM6
namespace Go.Proofs.Ytnmchcanijkggaa
open Go.RowKit Go.Lib
set_option linter.unusedVariables false
set_option linter.unusedSimpArgs false

set_option maxHeartbeats 1000000 in
theorem RLayout_bad (h : Hd) (av sv : Value) (zs : List Int) (ps : List (Int × Int)) (w : World) (ha : SliceIs w av zs) (hp : PairsIs w sv ps) (hq : Pall ps) (h1 : zs.length ≤ 100000) (h2 : ps.length ≤ 100000) (hw : wrongE h zs.length ps ≠ 0) :
    Calls Try.prog 33 #[AO h av sv] w fun e w' => e = .returned (.int .i64 (wrongE h zs.length ps)) ∧ Below w.heap.size w w' := by
  have hw' : (wrongE h zs.length ps != 0) = true := by simp [hw]
  have HW : Hid (∀ W, Below w.heap.size w W → Calls Try.prog 27 #[AO h av sv] W fun e w' => e = .returned (.tuple #[.slice none 0 0, .int .i64 (wrongE h zs.length ps)]) ∧ Below W.heap.size W w') := by
    intro W hb
    refine (RCells_any h av sv zs ps W (ha.later hb) (hp.later hb) hq h1 h2).mono ?_
    rintro e w' ⟨h3 | h3, hb'⟩
    · exact absurd h3.1 hw
    · exact ⟨h3.2, hb'⟩
  generalize wrongE h zs.length ps = E at HW hw' ⊢
  clear ha hp hq h1 h2 hw
  go_enter Try.func33, Try.ntmps33
  go_wp2_with fail
  refine (HW.out _ ((Below.refl _ _).alloc (Nat.le_refl _) _)).mono ?_
  rintro e w1 ⟨rfl, hb1⟩
  have HB1 : Hid (Below w.heap.size w w1) := ((Below.refl _ _).alloc (Nat.le_refl _) _).trans (hb1.mono (by simp))
  clear hb1
  go_wp2
  go_ret
  exact ⟨rfl, HB1.out⟩

/-- What the walk of a right object needs. -/
def RGood (w : World) (h : Hd) (av sv : Value) (F : Bool) : Prop :=
  (∀ W, Below w.heap.size w W → Calls Try.prog 27 #[AO h av sv] W fun e w' => (∃ uo nu cu, e = .returned (.tuple #[.slice uo nu cu, .int .i64 0])) ∧ Below W.heap.size W w') ∧
  (∀ W, Below w.heap.size w W → Calls Try.prog 50 #[AO h av sv] W fun e w' => e = .returned (.bool F) ∧ Below W.heap.size W w')

theorem rgood {h : Hd} {av sv : Value} {zs : List Int} {ps : List (Int × Int)} {w : World} (ha : SliceIs w av zs) (hp : PairsIs w sv ps) (hq : Pall ps) (h1 : zs.length ≤ 100000) (h2 : ps.length ≤ 100000) (hw : wrongE h zs.length ps = 0) {F : Bool}
    (hf : ∀ W, Below w.heap.size w W → Calls Try.prog 50 #[AO h av sv] W fun e w' => e = .returned (.bool F) ∧ Below W.heap.size W w') : RGood w h av sv F := by
  refine ⟨fun W hb => ?_, hf⟩
  refine (RCells_any h av sv zs ps W (ha.later hb) (hp.later hb) hq h1 h2).mono ?_
  rintro e w' ⟨h3 | h3, hb'⟩
  · obtain ⟨_, v, he, hrow⟩ := h3
    obtain ⟨uo, cu, hv⟩ := hrow.slice.form
    rw [hv] at he
    exact ⟨⟨uo, _, cu, he⟩, hb'⟩
  · exact absurd hw h3.1

set_option maxHeartbeats 1000000 in
theorem RLayout_no (h : Hd) (ao so : Option Addr) (na ca ns cs : Nat) (w : World) (hg : RGood w h (.slice ao na ca) (.slice so ns cs) false) :
    Calls Try.prog 33 #[AO h (.slice ao na ca) (.slice so ns cs)] w fun e w' => e = .returned (.int .i64 6) ∧ Below w.heap.size w w' := by
  have HG : Hid (RGood w h (.slice ao na ca) (.slice so ns cs) false) := hg
  clear hg
  go_enter Try.func33, Try.ntmps33
  go_wp2_with fail
  refine (HG.out.1 _ ((Below.refl _ _).alloc (Nat.le_refl _) _)).mono ?_
  rintro e w1 ⟨⟨uo, nu, cu, rfl⟩, hb1⟩
  have HB1 : Hid (Below w.heap.size w w1) := ((Below.refl _ _).alloc (Nat.le_refl _) _).trans (hb1.mono (by simp))
  have HS1 : Hid (SeenO w.heap.size h (.slice ao na ca) (.slice so ns cs) w1) := seenO_keep (seenO_new h _ _ w) hb1
  clear hb1
  obtain ⟨q0, q1, q2, q3, q4, q5, q6, q7, q8, q9⟩ := HS1.out
  go_wp2_with fail
  refine (HG.out.2 _ HB1.out).mono ?_
  rintro e w2 ⟨rfl, hb2⟩
  have HB2 : Hid (Below w.heap.size w w2) := HB1.out.trans (hb2.mono HB1.out.size)
  clear hb2
  go_wp2
  go_ret
  exact ⟨rfl, HB2.out⟩

set_option maxHeartbeats 2000000 in
/-- Of what is no table. -/
theorem RLayout_n (h : Hd) (ao so : Option Addr) (na ca ns cs : Nat) (ps : List (Int × Int)) (w : World) (hp : PairsIs w (.slice so ns cs) ps) (hl : ps.length = ns) (h2 : ns ≤ 100000) (hk : (h.k != 5) = true) (hg : RGood w h (.slice ao na ca) (.slice so ns cs) true) :
    Calls Try.prog 33 #[AO h (.slice ao na ca) (.slice so ns cs)] w fun e w' => e = .returned (.int .i64 (if deadN ps then 6 else 0)) ∧ Below w.heap.size w w' := by
  have HG : Hid (RGood w h (.slice ao na ca) (.slice so ns cs) true) := hg
  have HP : Hid (PairsIs w (.slice so ns cs) ps ∧ ps.length = ns) := ⟨hp, hl⟩
  obtain ⟨R, HR⟩ : ∃ R : Int, Hid (R = if deadN ps then 6 else 0) := ⟨_, rfl⟩
  rw [← HR.out]
  clear hg hp hl
  go_enter Try.func33, Try.ntmps33
  go_wp2_with fail
  refine (HG.out.1 _ ((Below.refl _ _).alloc (Nat.le_refl _) _)).mono ?_
  rintro e w1 ⟨⟨uo, nu, cu, rfl⟩, hb1⟩
  have HB1 : Hid (Below w.heap.size w w1) := ((Below.refl _ _).alloc (Nat.le_refl _) _).trans (hb1.mono (by simp))
  have HS1 : Hid (SeenO w.heap.size h (.slice ao na ca) (.slice so ns cs) w1) := seenO_keep (seenO_new h _ _ w) hb1
  clear hb1
  obtain ⟨q0, q1, q2, q3, q4, q5, q6, q7, q8, q9⟩ := HS1.out
  go_wp2_with fail
  refine (HG.out.2 _ HB1.out).mono ?_
  rintro e w2 ⟨rfl, hb2⟩
  have HB2 : Hid (Below w.heap.size w w2) := HB1.out.trans (hb2.mono HB1.out.size)
  have HS2 : Hid (SeenO w.heap.size h (.slice ao na ca) (.slice so ns cs) w2) := seenO_keep HS1.out hb2
  clear hb2 HG HB1 HS1 q0 q1 q2 q3 q4 q5 q6 q7 q8 q9
  obtain ⟨q0, q1, q2, q3, q4, q5, q6, q7, q8, q9⟩ := HS2.out
  clear q1 q2 q3 q4 q5 q6 q7 q8
  go_wp2_with fail
  go_loop [2, 5, 6] (fun _ i _ => ∃ k : Nat, k ≤ ns ∧ i = .int .i64 k ∧ Hid (deadN (ps.take k) = false)) (fun _ i _ => ns - (intOf i).toNat)
  case atStart => exact ⟨0, Nat.zero_le _, rfl, rfl⟩
  case round =>
    obtain ⟨k, hk', rfl, HA⟩ := hrel
    by_cases hlt : k < ns
    · obtain ⟨b, off, hso, d1, d2⟩ := (HP.out.1.later HB2.out).at' (k := k) (by have := HP.out.2; omega)
      subst hso
      obtain ⟨t, ht⟩ : ∃ t, t = (ps.getD k (0, 0)).1 := ⟨_, rfl⟩
      rw [← ht] at d1
      have HT : Hid (t = (ps.getD k (0, 0)).1) := ht
      have k1 : (0 : Int) ≤ (k : Int) := by omega
      have k2 : (k : Int) < (ns : Int) := by omega
      clear ht d2
      cases h11 : (t == 11)
      · have h11' : (t != 11) = true := by rw [bne, h11]; rfl
        have HA2 : Hid (deadN (ps.take (k + 1)) = false) := any_snoc (by have := HP.out.2; omega) HA.out (by rw [← HT.out]; exact h11)
        clear h11 HA
        go_wp2
        go_round
        case rel => exact ⟨k + 1, by omega, by go_num, HA2.out⟩
        case measure => simp [intOf]; omega
      · have h11' : (t != 11) = false := by rw [bne, h11]; rfl
        have HD : Hid (R = 6) := by
          show _ = _
          rw [HR.out, any_yes (k := k) (by have := HP.out.2; omega) (by rw [← HT.out]; exact h11)]; rfl
        go_wp2
        go_ret
        exact ⟨by rw [HD.out]; rfl, HB2.out⟩
    · have he : k = ns := by omega
      subst he
      have HD : Hid (R = 0) := by
        have h3 := HA.out
        rw [List.take_of_length_le (by rw [HP.out.2]; exact Nat.le_refl _)] at h3
        show _ = _
        rw [HR.out, h3]; rfl
      have k2 : ¬ ((k : Int) < (k : Int)) := by omega
      go_wp2
      go_ret
      exact ⟨by rw [HD.out]; rfl, HB2.out⟩

set_option maxHeartbeats 2000000 in
/-- Of a table. -/
theorem RLayout_5 (h : Hd) (b' off' : Nat) (so : Option Addr) (na ca ns cs A : Nat) (ps : List (Int × Int)) (w : World) (hp : PairsIs w (.slice so ns cs) ps) (hl : ps.length = ns) (h2 : ns ≤ 100000) (hA : A ≤ 100000) (hna : 0 < na) (hc : w.cell? ⟨b', off', none⟩ = some (.int .i64 (A : Int))) (hk : h.k = 5) (hg : RGood w h (.slice (some ⟨b', off', none⟩) na ca) (.slice so ns cs) true) :
    Calls Try.prog 33 #[AO h (.slice (some ⟨b', off', none⟩) na ca) (.slice so ns cs)] w fun e w' => e = .returned (.int .i64 (if deadK A ps ns then 6 else 0)) ∧ Below w.heap.size w w' := by
  have HG : Hid (RGood w h (.slice (some ⟨b', off', none⟩) na ca) (.slice so ns cs) true) := hg
  have HP : Hid (PairsIs w (.slice so ns cs) ps ∧ ps.length = ns) := ⟨hp, hl⟩
  have HC : Hid (w.cell? ⟨b', off', none⟩ = some (.int .i64 (A : Int))) := hc
  have HK : Hid (h.k = 5) := hk
  obtain ⟨R, HR⟩ : ∃ R : Int, Hid (R = if deadK A ps ns then 6 else 0) := ⟨_, rfl⟩
  rw [← HR.out]
  have hna' : (0 : Int) < (na : Int) := by omega
  have hna0 : ¬ na = 0 := by omega
  clear hg hp hl hc hk
  go_enter Try.func33, Try.ntmps33
  go_wp2_with fail
  refine (HG.out.1 _ ((Below.refl _ _).alloc (Nat.le_refl _) _)).mono ?_
  rintro e w1 ⟨⟨uo, nu, cu, rfl⟩, hb1⟩
  have HB1 : Hid (Below w.heap.size w w1) := ((Below.refl _ _).alloc (Nat.le_refl _) _).trans (hb1.mono (by simp))
  have HS1 : Hid (SeenO w.heap.size h (.slice (some ⟨b', off', none⟩) na ca) (.slice so ns cs) w1) := seenO_keep (seenO_new h _ _ w) hb1
  clear hb1
  obtain ⟨q0, q1, q2, q3, q4, q5, q6, q7, q8, q9⟩ := HS1.out
  go_wp2_with fail
  refine (HG.out.2 _ HB1.out).mono ?_
  rintro e w2 ⟨rfl, hb2⟩
  have HB2 : Hid (Below w.heap.size w w2) := HB1.out.trans (hb2.mono HB1.out.size)
  have HS2 : Hid (SeenO w.heap.size h (.slice (some ⟨b', off', none⟩) na ca) (.slice so ns cs) w2) := seenO_keep HS1.out hb2
  clear hb2 HG HB1 HS1 q0 q1 q2 q3 q4 q5 q6 q7 q8 q9
  obtain ⟨q0, q1, q2, q3, q4, q5, q6, q7, q8, q9⟩ := HS2.out
  rw [HK.out] at q0
  have cA : w2.cell? ⟨b', off', none⟩ = some (.int .i64 (A : Int)) := cell_later HB2.out HC.out
  clear q1 q2 q3 q4 q5 q6 q7
  go_wp2_with fail
  go_loop [2, 5, 6] (fun _ i _ => ∃ k : Nat, k ≤ ns ∧ i = .int .i64 k ∧ Hid (deadK A ps k = false)) (fun _ i _ => ns - (intOf i).toNat)
  case atStart => exact ⟨0, Nat.zero_le _, rfl, rfl⟩
  case round =>
    obtain ⟨k, hk', rfl, HA⟩ := hrel
    by_cases hlt : k < ns
    · obtain ⟨b, off, hso, d1, d2⟩ := (HP.out.1.later HB2.out).at' (k := k) (by have := HP.out.2; omega)
      subst hso
      obtain ⟨t, ht⟩ : ∃ t, t = (ps.getD k (0, 0)).1 := ⟨_, rfl⟩
      rw [← ht] at d1
      have HT : Hid (t = (ps.getD k (0, 0)).1) := ht
      have k1 : (0 : Int) ≤ (k : Int) := by omega
      have k2 : (k : Int) < (ns : Int) := by omega
      clear ht d2
      cases h11 : (t == 11)
      · have h11' : (t != 11) = true := by rw [bne, h11]; rfl
        have HA2 : Hid (deadK A ps (k + 1) = false) := by show _ = _; rw [deadK_snoc, HA.out, ← HT.out, h11]; rfl
        clear h11 HA
        go_wp2
        go_round
        case rel => exact ⟨k + 1, by omega, by go_num, HA2.out⟩
        case measure => simp [intOf]; omega
      · have h11' : (t != 11) = false := by rw [bne, h11]; rfl
        have HD : Hid (keyB A k = false → R = 6) := by
          intro hkb
          rw [HR.out, deadK_yes hlt (by rw [← HT.out, h11, hkb]; rfl)]; rfl
        have HY : Hid (keyB A k = true → deadK A ps (k + 1) = false) := by
          intro hkb; rw [deadK_snoc, HA.out, hkb]; simp
        clear h11 HA
        by_cases hlow : k < 1 + A
        · have HD6 : Hid (R = 6) := HD.out (by simp [keyB]; omega)
          have g1 : (k : Int) - 1 - (A : Int) < 0 := by omega
          go_wp2
          go_ret
          exact ⟨by rw [HD6.out]; rfl, HB2.out⟩
        · obtain ⟨d, hd⟩ : ∃ d : Nat, d = k - (1 + A) := ⟨_, rfl⟩
          have g1 : (k : Int) - 1 - (A : Int) = (d : Int) := by omega
          have g2 : d ≤ 100000 := by omega
          have g3 : ¬ ((d : Int) < 0) := by omega
          have g4 : (d : Int).tmod 2 = ((d % 2 : Nat) : Int) := by rw [Int.tmod_eq_emod_of_nonneg (by omega)]; omega
          by_cases hev : d % 2 = 0
          · have g5 : (((d % 2 : Nat) : Int) != 0) = false := by simp [hev]
            have HA2 : Hid (deadK A ps (k + 1) = false) := HY.out (by simp only [keyB, Bool.and_eq_true, decide_eq_true_eq]; omega)
            clear HD HY hd hev hlow
            go_wp2
            go_round
            case rel => exact ⟨k + 1, by omega, by go_num, HA2.out⟩
            case measure => simp [intOf]; omega
          · have g5 : (((d % 2 : Nat) : Int) != 0) = true := by simp; omega
            have HD6 : Hid (R = 6) := HD.out (by simp only [keyB, Bool.and_eq_false_iff, decide_eq_false_iff_not]; omega)
            clear HD HY hd hev hlow
            go_wp2
            go_ret
            exact ⟨by rw [HD6.out]; rfl, HB2.out⟩
    · have he : k = ns := by omega
      subst he
      have HD : Hid (R = 0) := by show _ = _; rw [HR.out, HA.out]; rfl
      have k2 : ¬ ((k : Int) < (k : Int)) := by omega
      go_wp2
      go_ret
      exact ⟨by rw [HD.out]; rfl, HB2.out⟩
end Go.Proofs.Ytnmchcanijkggaa
