/- Scope: each name of a source has one use. -/
import Derived.Test.YtgkgpjbbmnfnmaaGreatDoorS23
namespace Go.Proofs.YtgkgpjbbmnfnmaaGreatDoor
open Go.RowKit
set_option linter.unusedSimpArgs false
set_option linter.unusedVariables false

/-- The tokens' cells. -/
theorem TRow.cells {w : World} {B : Nat} {v : Value} {L : List Tk} (h : TRow w B v L) : ∃ ao cap, v = .slice ao L.length cap ∧ ∀ W, Kept No w W → ∀ j (hj : j < L.length), ∃ g o, ao = some ⟨g, o, none⟩ ∧ W.cell? ⟨g, o + j * 7, none⟩ = some (.int .i64 L[j].k) ∧ W.cell? ⟨g, o + j * 7 + 1, none⟩ = some (.string L[j].t) ∧ W.cell? ⟨g, o + j * 7 + 5, none⟩ = some (.int .i64 L[j].a) := by
  obtain ⟨ao, cap, rfl, h1⟩ := h.read
  refine ⟨ao, cap, rfl, fun W hk j hj => ?_⟩
  obtain ⟨g, o, e, _, h2⟩ := h1 j hj
  exact ⟨g, o, e, kept_cell hk id (h2 0 (by omega)), kept_cell hk id (h2 1 (by omega)), kept_cell hk id (h2 5 (by omega))⟩
/-- The uses' cells. -/
theorem uses_cells {w : World} {B cap : Nat} {ao : Option Addr} {U : List Us} (h : w.ownsRow B 36 6 (.slice ao U.length cap) U.length (flU U)) : ∀ W, Kept No w W → ∀ j (hj : j < U.length), ∃ g, ao = some ⟨g, 0, none⟩ ∧ W.cell? ⟨g, j * 6, none⟩ = some (.int .i64 U[j].a) ∧ W.cell? ⟨g, j * 6 + 1, none⟩ = some (.string U[j].t) ∧ W.cell? ⟨g, j * 6 + 2, none⟩ = some (.int .i64 U[j].f) ∧ W.cell? ⟨g, j * 6 + 3, none⟩ = some (.int .i64 U[j].o) ∧ W.cell? ⟨g, j * 6 + 4, none⟩ = some (.int .i64 U[j].v) ∧ W.cell? ⟨g, j * 6 + 5, none⟩ = some (.bool U[j].h) := by
  intro W hk j hj
  have e6 := h
  obtain ⟨o1, ⟨o2, o3⟩ | ⟨g, cap', cur, o3, _⟩⟩ := h
  · omega
  · injection o3 with o4 o5 o6
    subst o4 o6
    have hc : ∀ k, k < 6 → W.cell? ⟨g, j * 6 + k, none⟩ = (usC U[j])[k]? := fun k hk' => by
      have h1 := World.ownsRow.cellAt e6 (j * 6 + k) (by omega)
      rw [flU_at U j hj k hk', List.getElem?_eq_getElem (by simp [usC]; omega)] at h1
      rw [List.getElem?_eq_getElem (by simp [usC]; omega)]
      exact kept_cell hk id h1
    exact ⟨g, rfl, hc 0 (by omega), hc 1 (by omega), hc 2 (by omega), hc 3 (by omega), hc 4 (by omega), hc 5 (by omega)⟩
/-- A region of a code. -/
def regOf (n : Nat) : Code → Option (Array Oper)
  | .region id ops _ => if id = n then some ops else none
  | .seq a b => (regOf n a).orElse fun _ => regOf n b
  | .cond _ a b => (regOf n a).orElse fun _ => regOf n b
  | .block _ b => regOf n b
  | .loop b => regOf n b
  | .scope b => regOf n b
  | _ => none
theorem lex3_11 : Region.lexB .any (((Tryz.f3.body).bind (regOf 11)).getD #[]) = true := by kernel_rfl
theorem rise_ge {I : List Nat} (h : I.Pairwise (· < ·)) : ∀ j (hj : j < I.length), j ≤ I[j]
  | 0, _ => Nat.zero_le _
  | j + 1, hj => by
    have h1 := rise_ge h j (by omega)
    have h2 := List.pairwise_iff_getElem.1 h j (j + 1) (by omega) hj (by omega)
    omega
set_option maxRecDepth 20000 in
set_option maxHeartbeats 4000000 in
theorem ScopeNames_any (s : ByteArray) (w : World) (he : ErrIs w) (hg : SgIs w) : Calls Tryz.prog 3 #[.string s] w fun r w' => r = .returned (.bool true) ∧ Kept No w w' := by
  obtain ⟨T, hT⟩ := PsR.all s
  have HP : Hid _ := Resolve_any s w he hg hT
  have HA : Hid (∀ W, Kept No w W → Calls Tryz.prog 9 #[] W fun r w' => r = .returned (.bool true) ∧ Kept No W w') := fun W hk => alive_any (he.no hk) (hg.no hk)
  have HE : Hid (ErrIs w ∧ SgIs w) := ⟨he, hg⟩
  clear he hg
  cases hr : resM T with
  | error e =>
    obtain ⟨a, c⟩ := e
    obtain ⟨h1, k1, k2⟩ := resM_err hT hr
    have q1 : (c == 0) = false := by simpa using h1
    clear hT h1
    go_enter Tryz.func3, Tryz.ntmps3
    go_wp2_with fail
    refine Calls.mono HP.out ?_
    rintro e W1 ⟨hk, h1⟩
    rw [hr] at h1
    dsimp only at h1
    subst h1
    have HC : Hid _ := HA.out _ hk
    have HK : Hid (Kept No w W1) := hk
    clear hk HP HA hr
    go_wp2_with (first | (go_at_call 8; refine Calls.mono (no_any _ _) ?_; rintro e w1 ⟨rfl, rfl⟩))
    refine Calls.mono HC.out ?_
    rintro r W2 ⟨rfl, hk2⟩
    have HK2 : Hid _ := HK.out.trans hk2
    clear hk2 HK HC
    go_wp2_with fail
    go_ret
    exact ⟨rfl, HK2.out⟩
  | ok st =>
    have hx : ∃ x, T = .ok x ∧ st = wk x s0 := by
      cases T with
      | error e => cases hr
      | ok x =>
        refine ⟨x, rfl, ?_⟩
        unfold resM at hr
        dsimp only at hr
        split at hr
        · exact (Except.ok.inj hr).symm
        · cases hr
    obtain ⟨x, rfl, rfl⟩ := hx
    obtain ⟨TL, hS⟩ := psr_src hT
    have HS : Hid (Src s x TL) := hS
    clear hT hS
    go_enter Tryz.func3, Tryz.ntmps3
    go_wp2_with fail
    refine Calls.mono HP.out ?_
    rintro e W1 ⟨hk1, h1⟩
    rw [hr] at h1
    obtain ⟨u, rfl, U, ao, cap, B, rfl, hB, hp, hs, hrow⟩ := h1
    obtain ⟨I, hI1, hI2, hI3⟩ := HS.out.found hp hs
    have HLx : Hid _ := Lex_is s W1 (HE.out.1.no hk1) (HE.out.2.no hk1) HS.out.le HS.out.lx
    have HUc : Hid _ := uses_cells hrow
    have HK1 : Hid (Kept No w W1) := hk1
    have HI : Hid (I.length = U.length ∧ I.Pairwise (· < ·) ∧ ∀ j (hj : j < U.length) (hi : j < I.length), ∃ hk : I[j] < TL.length, TL[I[j]].k = 1 ∧ U[j].a = TL[I[j]].a ∧ U[j].t = TL[I[j]].t) := ⟨hI1, hI2, hI3⟩
    clear hk1 hp hs hrow hI1 hI2 hI3 HP hr hB HE
    go_wp2_with (first | (go_at_call 8; refine Calls.mono (no_any _ _) ?_; rintro e w1 ⟨rfl, rfl⟩))
    refine Calls.mono HLx.out ?_
    rintro e W2 ⟨⟨v, rfl, hrow⟩, hk2⟩
    obtain ⟨ao', cap', rfl, hTc⟩ := hrow.cells
    have HTc : Hid _ := hTc
    have HK2 : Hid (Kept No W1 W2) := hk2
    have hlen : TL.length ≤ 8192 := Nat.le_trans HS.out.lx.len (by have := HS.out.le; omega)
    have HRise : Hid (∀ i j (hi : i < TL.length) (hj : j < TL.length), i < j → TL[i].a < TL[j].a) := fun i j hi hj hij => List.pairwise_iff_getElem.1 HS.out.lx.rise.2 i j hi hj hij
    have hUl : U.length ≤ 8192 := by
      have h0 := HI.out.1
      rcases Nat.lt_or_ge TL.length I.length with h1 | h1
      · have h2 := rise_ge HI.out.2.1 TL.length h1
        obtain ⟨h3, _⟩ := HI.out.2.2 TL.length (by omega) h1
        omega
      · omega
    obtain ⟨n, HN⟩ : ∃ n, Hid (U.length = n) := ⟨_, show _ = _ from rfl⟩
    obtain ⟨m, HM⟩ : ∃ m, Hid (TL.length = m) := ⟨_, show _ = _ from rfl⟩
    rw [HN.out] at hUl ⊢
    rw [HM.out] at hlen ⊢
    clear hk2 hTc hrow HLx
    go_wp2_with fail
    go_loopw [10, 9] (fun i k wr => ∃ j q : Nat, j ≤ n ∧ i = .int .i64 (j : Int) ∧ k = .int .i64 (q : Int) ∧ Hid (q ≤ m ∧ ∀ h : j < I.length, q ≤ I[j]) ∧ Hid (Kept No W2 wr)) (fun i _ _ => n - (intOf i).toNat)
    case atStart => exact ⟨0, 0, by omega, rfl, rfl, ⟨by omega, fun _ => by omega⟩, Kept.refl _ _⟩
    case round =>
      obtain ⟨j, q, hj, rfl, rfl, HQ, HK⟩ := hrel
      by_cases hlt : j < n
      · have k1 : (j : Int) < (n : Int) := by omega
        have j1 : j < U.length := by rw [HN.out]; exact hlt
        have j2 : j < I.length := by rw [HI.out.1]; exact j1
        obtain ⟨hi, hi1, hi2, hi3⟩ := HI.out.2.2 j j1 j2
        obtain ⟨p, HP⟩ : ∃ p, Hid (I[j] = p) := ⟨_, show _ = _ from rfl⟩
        have HP1 : Hid (p < m ∧ q ≤ p) := by
          refine ⟨?_, ?_⟩
          · rw [← HM.out, ← HP.out]; exact hi
          · rw [← HP.out]; exact HQ.out.2 j2
        obtain ⟨wa, hwa⟩ : ∃ wa, wa = wr := ⟨_, rfl⟩
        subst hwa
        go_wp2_with fail
        go_loopw [9] (fun k wr => ∃ q : Nat, q ≤ p ∧ k = .int .i64 (q : Int) ∧ Hid (Kept No W2 wr)) (fun k _ => p - (intOf k).toNat)
        case atStart => exact ⟨q, HP1.out.2, rfl, HK.out⟩
        case round =>
          obtain ⟨q, hq, rfl, HKi⟩ := hrel
          have hk : Kept No W1 wr := HK2.out.trans HKi.out
          have hpl : p < TL.length := by rw [HM.out]; exact HP1.out.1
          have hi1' : (TL[p]'hpl).k = 1 := by have := hi1; simp only [HP.out] at this; exact this
          have hi2' : U[j].a = (TL[p]'hpl).a := by have := hi2; simp only [HP.out] at this; exact this
          have hi3' : U[j].t = (TL[p]'hpl).t := by have := hi3; simp only [HP.out] at this; exact this
          obtain ⟨g, rfl, u0, u1, _⟩ := HUc.out wr hk j j1
          rw [hi2'] at u0
          rw [hi3'] at u1
          rcases Nat.lt_or_ge q p with hqp | hqp
          · have hql : q < TL.length := by omega
            obtain ⟨g', o', rfl, t0, t1, t5⟩ := HTc.out wr HKi.out q hql
            have k2 : (q : Int) < (m : Int) := by have := HP1.out.1; omega
            have k3 : (TL[q]'hql).a < (TL[p]'hpl).a := HRise.out q p hql hpl hqp
            have k4 : (0 : Int) ≤ (q : Int) := by omega
            have k5 : (0 : Int) ≤ (j : Int) := by omega
            have w1 : wrap64 ((q : Int) + 1) = (q : Int) + 1 := by unfold wrap64; omega
            generalize (TL[q]'hql).a = tq at t5 k3
            generalize (TL[p]'hpl).a = tp at u0 k3
            clear t0 t1 u1 hi1' hi2' hi3' hi1 hi2 hi3
            go_wp2_with fail
            go_quiet (fail)
            go_wp2_with fail
            have HKr : Hid (Kept No W2 (wr.drewN nq)) := HKi.out.drewN nq
            go_roundw
            case rel => exact ⟨q + 1, by omega, by go_num, HKr.out⟩
            all_goals (simp only [intOf, Int.toNat_natCast]; omega)
          · obtain rfl : q = p := by omega
            obtain ⟨g', o', rfl, t0, t1, t5⟩ := HTc.out wr HKi.out q hpl
            have k2 : (q : Int) < (m : Int) := by have := HP1.out.1; omega
            have k2' : decide ((m : Int) ≤ (q : Int)) = false := decide_eq_false (by omega)
            have k2n : decide (m ≤ q) = false := decide_eq_false (by omega)
            have k4 : (0 : Int) ≤ (q : Int) := by omega
            have k5 : (0 : Int) ≤ (j : Int) := by omega
            rw [hi1'] at t0
            have HNx : Hid (q ≤ m ∧ ∀ h : j + 1 < I.length, q ≤ I[j + 1]) := by
              refine ⟨by have := HP1.out.1; omega, fun h => ?_⟩
              have := List.pairwise_iff_getElem.1 HI.out.2.1 j (j + 1) j2 h (by omega)
              have := HP.out
              omega
            have hpv : ∀ h : 0 < j, ∃ y : Int, wr.cell? ⟨g, (j - 1) * 6, none⟩ = some (.int .i64 y) ∧ y < (TL[q]'hpl).a := fun h => by
              have j3 : j - 1 < U.length := by omega
              obtain ⟨g2, e2, v0, _⟩ := HUc.out wr hk (j - 1) j3
              simp only [Option.some.injEq, Addr.mk.injEq, and_true] at e2
              obtain ⟨rfl⟩ := e2
              obtain ⟨hz, _, z2, _⟩ := HI.out.2.2 (j - 1) j3 (by rw [HI.out.1]; exact j3)
              refine ⟨_, v0, ?_⟩
              rw [z2]
              refine HRise.out _ q hz hpl ?_
              have := List.pairwise_iff_getElem.1 HI.out.2.1 (j - 1) j (by omega) j2 (by omega)
              have := HP.out
              omega
            generalize (TL[q]'hpl).a = tq at t5 u0 hpv
            generalize (TL[q]'hpl).t = tt at t1 u1
            have q1 : decide (tq < tq) = false := decide_eq_false (by omega)
            have q2 : (tq != tq) = false := by simp
            have q3 : (tt.toList == tt.toList) = true := by simp
            have q4 : (tt.toList != tt.toList) = false := by simp
            clear hi1' hi2' hi3' hi1 hi2 hi3
            go_wp2_with fail
            go_quiet (fail)
            go_wp2_with fail
            rcases Nat.eq_zero_or_pos j with hj0 | hj0
            · have k6 : decide ((0 : Int) < (j : Int)) = false := decide_eq_false (by omega)
              have k6n : decide (0 < j) = false := decide_eq_false (by omega)
              have w2 : wrap64 ((j : Int) + 1) = (j : Int) + 1 := by unfold wrap64; omega
              clear hpv hj0
              try simp only [List.append_eq, List.cons_append, List.nil_append]
              refine wp_region_quiet_lit (by kernel_rfl) (Eq.trans (congrArg (Region.lexB .any) (?e : _ = ((Tryz.f3.body).bind (regOf 11)).getD #[])) lex3_11) ?_
              case e => kernel_rfl
              repeat (go_big_quiet_step (fail))
              refine wpQuiet_nil ?_
              intro _ hw'
              obtain ⟨nr, hw''⟩ := hw'
              subst hw''
              go_wp2_with fail
              go_roundw
              case rel => exact ⟨j + 1, q, by omega, by go_num, rfl, HNx.out, HKi.out.drewN _⟩
              all_goals (simp only [intOf, Int.toNat_natCast]; omega)
            · obtain ⟨y, v0, hy⟩ := hpv hj0
              obtain ⟨i, rfl⟩ : ∃ i, j = i + 1 := ⟨j - 1, by omega⟩
              rw [Nat.add_sub_cancel] at v0
              have k6 : (0 : Int) < (i : Int) + 1 := by omega
              have k7 : (0 : Int) ≤ (i : Int) := by omega
              have k8 : (i : Int) < (n : Int) := by omega
              have k9 : (i : Int) + 1 < (n : Int) := by omega
              have k10 : (0 : Int) ≤ (i : Int) + 1 := by omega
              have q6 : decide (tq ≤ y) = false := decide_eq_false (by omega)
              clear hpv hj0 k1 k5
              try simp only [List.append_eq, List.cons_append, List.nil_append]
              refine wp_region_quiet_lit (by kernel_rfl) (Eq.trans (congrArg (Region.lexB .any) (?e : _ = ((Tryz.f3.body).bind (regOf 11)).getD #[])) lex3_11) ?_
              case e => kernel_rfl
              repeat (go_big_quiet_step (fail))
              refine wpQuiet_nil ?_
              intro _ hw'
              obtain ⟨nr, hw''⟩ := hw'
              subst hw''
              clear v0 hy k6 k7 k8 k9 k10 q6
              generalize hJ : i + 1 = J at *
              have HJ : Hid (i + 1 = J) := hJ
              clear hJ
              have w2 : wrap64 ((J : Int) + 1) = (J : Int) + 1 := by unfold wrap64; omega
              go_wp2_with fail
              go_roundw
              case rel => exact ⟨J + 1, q, by omega, by go_num, rfl, HNx.out, HKi.out.drewN _⟩
              all_goals (have hJ := HJ.out; simp only [intOf, Int.toNat_natCast]; omega)
      · have k1 : ¬ (j : Int) < (n : Int) := by omega
        have HC : Hid _ := HA.out wr ((HK1.out.trans HK2.out).trans HK.out)
        go_wp2_with fail
        refine Calls.mono HC.out ?_
        rintro r W3 ⟨rfl, hk3⟩
        have HK3 : Hid _ := ((HK1.out.trans HK2.out).trans HK.out).trans hk3
        clear hk3 HC
        go_wp2_with fail
        go_ret
        exact ⟨rfl, HK3.out⟩
end Go.Proofs.YtgkgpjbbmnfnmaaGreatDoor
