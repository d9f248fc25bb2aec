/- LexJoins. -/
import Derived.Test.YtidokamfppdnaaaDoorP2
namespace Go.Proofs.YtidokamfppdnaaaDoor
open Go.RowKit
set_option linter.unusedSimpArgs false
set_option linter.unusedVariables false

/-- How many bytes the first j have. -/
def sm (L : List Tk) (j : Nat) : Nat := ((L.take j).map (fun X => X.t.size)).sum
theorem sm_succ (L : List Tk) (j : Nat) (hj : j < L.length) : sm L (j + 1) = sm L j + L[j].t.size := by
  unfold sm; rw [List.take_succ_eq_append_getElem hj, List.map_append, List.sum_append]; simp only [List.map_cons, List.map_nil, List.sum_cons, List.sum_nil, Nat.add_zero]
theorem sm_tot : ∀ L : List Tk, tot L = sm L L.length + L.length
  | [] => rfl
  | X :: L => by
    have := sm_tot L
    have e : tot (X :: L) = X.t.size + 1 + tot L := by simp [tot]
    have e2 : sm (X :: L) (X :: L).length = X.t.size + sm L L.length := by simp [sm]
    rw [e, e2, List.length_cons]; omega
theorem sm_le (L : List Tk) (R : Nat) (h : ∀ X ∈ L, X.t.size ≤ R) : ∀ j, j ≤ L.length → sm L j ≤ j * R
  | 0, _ => by simp [sm]
  | j + 1, hj => by
    have h1 := sm_le L R h j (by omega)
    rw [sm_succ L j (by omega), Nat.add_mul, Nat.one_mul]
    have := h L[j] (List.getElem_mem _)
    omega

set_option maxRecDepth 20000 in
set_option maxHeartbeats 8000000 in
theorem LexJoins_any (ao : Option Addr) (L : List Tk) (cap : Nat) (s : ByteArray) (w : World) (hS : SRow w ao L) (hX : ∀ X ∈ L, X.t.size ≤ 140737488351232) (hn : L.length ≤ maxLen) (hz : s.size ≤ 140737488351232) (he : ErrIs w) (hg : SgIs w) :
    Calls Tryd.prog 3 #[.slice ao L.length cap, .string s] w fun r w' => r = .returned (.bool true) ∧ Kept No w w' := by
  have HS : Hid (SRow w ao L) := hS
  have HX : Hid (∀ X ∈ L, X.t.size ≤ 140737488351232) := hX
  have HA : Hid (∀ w', Kept No w w' → Calls Tryd.prog 8 #[] w' fun r w'' => r = .returned (.bool true) ∧ Kept No w' w'') := fun w' hk => alive_any w' (he.no hk) (hg.no hk)
  have HM : Hid (s.size ≤ maxLen) := by show s.size ≤ maxLen; unfold maxLen; omega
  have hn2 : L.length ≤ 9223372036854775807 := by unfold maxLen at hn; omega
  clear hS hX he hg hn hz
  go_enter Tryd.func3, Tryd.ntmps3
  go_wp2_with fail
  go_loopw [5, 6] (fun n i wr => ∃ j : Nat, j ≤ L.length ∧ j ≤ 501 ∧ i = .int .i64 j ∧ n = .int .i64 (sm L j : Int) ∧ Hid (wr = w)) (fun _ i _ => 501 - (intOf i).toNat)
  case atStart => exact ⟨0, by omega, by omega, rfl, rfl, rfl⟩
  case round =>
    obtain ⟨j, hj, hj5, rfl, rfl, HW⟩ := hrel
    obtain rfl := HW.out
    have hsm := sm_le L _ HX.out j hj
    have hsm2 : sm L j ≤ 501 * 140737488351232 := Nat.le_trans hsm (Nat.mul_le_mul_right _ hj5)
    clear hsm
    by_cases hlt : j < L.length ∧ j ≤ 500
    · obtain ⟨hlt, h500⟩ := hlt
      have dlt : decide ((j : Int) < (L.length : Int)) = true := decide_eq_true (by omega)
      have lt : (j : Int) < (L.length : Int) := by omega
      have d500 : decide ((j : Int) ≤ 500) = true := decide_eq_true (by omega)
      obtain ⟨g, o, rfl, hc⟩ := HS.out j hlt
      have a1 := hc wr (Kept.refl _ _) 1 (by omega)
      have hsz := HX.out _ (List.getElem_mem hlt)
      have hS := sm_succ L j hlt
      clear hc
      simp only [tc, List.getElem?_cons_zero, List.getElem?_cons_succ, Nat.add_zero] at a1
      generalize L[j].t = xt at a1 hsz hS
      have e1 : wrap64 ((sm L j : Int) + (xt.size : Int)) = ((sm L (j + 1) : Nat) : Int) := by rw [wrap_ok (by omega) (by omega), hS]; omega
      have e2 : IntKind.i64.wrap ((sm L j : Int) + (xt.size : Int)) = ((sm L (j + 1) : Nat) : Int) := by rw [wrap_i (by omega) (by omega), hS]; omega
      go_wp2_with fail
      exact ⟨⟨j + 1, by omega, by omega, by go_num, by rw [hS, Int.natCast_add], trivial⟩, by simp [intOf]; omega⟩
    · by_cases hl : j < L.length
      · have dlt : decide ((j : Int) < (L.length : Int)) = true := decide_eq_true (by omega)
        have d500 : decide ((j : Int) ≤ 500) = false := decide_eq_false (by omega)
        have dbig : decide ((500 : Int) < (L.length : Int)) = true := decide_eq_true (by omega)
        go_wp2_with fail
        refine Calls.mono (HA.out _ (Kept.refl No _)) ?_
        rintro e W5 ⟨rfl, hk5⟩
        have HK6 : Hid (Kept No wr W5) := hk5
        clear hk5 HA
        go_wp2_with fail
        go_ret
        exact ⟨rfl, HK6.out⟩
      · have dlt : decide ((j : Int) < (L.length : Int)) = false := decide_eq_false (by omega)
        by_cases hb : 500 < L.length
        · have dbig : decide ((500 : Int) < (L.length : Int)) = true := decide_eq_true (by omega)
          go_wp2_with fail
          refine Calls.mono (HA.out _ (Kept.refl No _)) ?_
          rintro e W5 ⟨rfl, hk5⟩
          have HK6 : Hid (Kept No wr W5) := hk5
          clear hk5 HA
          go_wp2_with fail
          go_ret
          exact ⟨rfl, HK6.out⟩
        · have dbig : decide ((500 : Int) < (L.length : Int)) = false := decide_eq_false (by omega)
          by_cases hc : 20000 < sm L j
          · have dn : decide ((20000 : Int) < (sm L j : Int)) = true := decide_eq_true (by omega)
            go_wp2_with fail
            refine Calls.mono (HA.out _ (Kept.refl No _)) ?_
            rintro e W5 ⟨rfl, hk5⟩
            have HK6 : Hid (Kept No wr W5) := hk5
            clear hk5 HA
            go_wp2_with fail
            go_ret
            exact ⟨rfl, HK6.out⟩
          · have dn : decide ((20000 : Int) < (sm L j : Int)) = false := decide_eq_false (by omega)
            have hje : j = L.length := by omega
            have ht : tot L ≤ 10000000 := by rw [sm_tot L, ← hje]; omega
            clear hje
            go_wp2_with fail
            refine Calls.mono (Join_any HS.out (by omega) ht cap) ?_
            rintro e W1 ⟨rfl, hk1⟩
            have HK1 : Hid (Kept No wr W1) := hk1
            clear hk1
            go_wp2_with fail
            refine Calls.mono (RJoin_any (HS.out.no HK1.out) (by omega) ht cap) ?_
            rintro e W2 ⟨rfl, hk2⟩
            have HK2 : Hid (Kept No wr W2) := HK1.out.trans hk2
            clear hk2 HK1
            go_wp2_with fail
            refine Calls.mono (Word_any s W2 HM.out) ?_
            rintro e W3 ⟨rfl, hk3⟩
            have HK3 : Hid (Kept No wr W3) := HK2.out.trans hk3
            clear hk3 HK2
            go_wp2_with fail
            refine Calls.mono (RWord_any s W3) ?_
            rintro e W4 ⟨rfl, hk4⟩
            have HK4 : Hid (Kept No wr W4) := HK3.out.trans hk4
            clear hk4 HK3
            generalize isWd s = b
            go_wp2_with fail
            refine Calls.mono (HA.out _ HK4.out) ?_
            rintro e W5 ⟨rfl, hk5⟩
            have HK6 : Hid (Kept No wr W5) := HK4.out.trans hk5
            clear hk5 HA
            go_wp2_with fail
            go_ret
            exact ⟨rfl, HK6.out⟩
end Go.Proofs.YtidokamfppdnaaaDoor
