/- slices.pdqsortCmpFunc sorts. -/
import Derived.Test.YtnfamebihpnjlaaK1
import Derived.Test.YtnfamebihpnjlaaK3
import Derived.Test.YtnfamebihpnjlaaK4
import Derived.Test.YtnfamebihpnjlaaK5
import Derived.Test.YtnfamebihpnjlaaK6
import Derived.Test.YtnfamebihpnjlaaK7
namespace Go.Proofs.Ytnfamebihpnjlaa
open Go.RowKit
set_option linter.unusedSimpArgs false
set_option linter.unusedVariables false

theorem pivot_k {w0 w : World} {g cap A : Nat} {l0 : List Int} {cf : Int → Int → Int} {K : Int → Int} {P : (Nat → Int) → Prop} (X : CtxK w0 g A l0 cf K) (S : SRP w0 g cap l0 K w P) {a b : Nat} (hab : a + 12 < b) (hb : b ≤ l0.length) :
    Calls Try.prog 60 #[.slice (some ⟨g, 0, none⟩) l0.length cap, .int .i64 a, .int .i64 b, cv A] w fun e w' =>
      ∃ m h : Nat, e = .returned (.tuple #[.int .i64 m, .int .i64 h]) ∧ a ≤ m ∧ m < b ∧ h ≤ 2 ∧ SRP w0 g cap l0 K w' P := by
  obtain ⟨l, h1, h2⟩ := S
  refine (pivot_l X.toCtx h1 hab hb).mono ?_
  rintro e w' ⟨m, h, he, k1, k2, k3, k4⟩
  exact ⟨m, h, he, k1, k2, k3, l, k4, h2⟩

set_option maxRecDepth 20000 in
set_option maxHeartbeats 4000000 in
theorem pdq_small_srt {w0 w : World} {g cap A : Nat} {l0 : List Int} {cf : Int → Int → Int} {K : Int → Int} {f0 : Nat → Int} (X : CtxK w0 g A l0 cf K) (S : SRP w0 g cap l0 K w (fun f => f = f0)) {a b : Nat} (h12 : b ≤ a + 12) (hab : a ≤ b) (hb : b ≤ l0.length) (lim : Nat) :
    Calls Try.prog 54 #[.slice (some ⟨g, 0, none⟩) l0.length cap, .int .i64 a, .int .i64 b, .int .i64 lim, cv A] w fun e w' => e = .returned (.tuple #[]) ∧ SRP w0 g cap l0 K w' (fun f => Win a b f0 f ∧ Srt a b f) := by
  have hlen := X.len
  have HX : Hid (CtxK w0 g A l0 cf K) := X
  have HS : Hid (SRP w0 g cap l0 K w (fun f => f = f0)) := S
  clear X S
  go_enter Try.func54, Try.ntmps54
  go_wp2_with fail
  go_loopw [1, 2, 3, 10, 11, 12, 13, 14, 15, 16, 17, 18, 19, 20] (fun v1 v2 _ _ _ _ _ _ _ _ _ _ _ _ wx => v1 = .int .i64 a ∧ v2 = .int .i64 b ∧ Hid (SRP w0 g cap l0 K wx (fun f => f = f0))) (fun _ _ _ _ _ _ _ _ _ _ _ _ _ _ _ => 0)
  case atStart => exact ⟨rfl, rfl, HS.out⟩
  case round =>
    clear HS
    obtain ⟨rfl, rfl, HS⟩ := hrel
    have h12z : (b : Int) - (a : Int) ≤ 12 := by omega
    have HCL := hid (ins_srt HX.out HS.out (a := a) (b := b) (by omega) (by omega))
    clear HS
    go_wp2_with fail
    refine Calls.mono HCL.out ?_
    rintro e W1 ⟨rfl, hs⟩
    have HS := hid hs
    clear hs HCL
    go_wp2
    first | (go_end0; exact ⟨rfl, HS.out.mono (fun f h => h)⟩) | (refine bodyPost_ret (results_none rfl _ _ _) rfl ?_; exact ⟨rfl, HS.out.mono (fun f h => h)⟩)

set_option maxRecDepth 100000 in
set_option maxHeartbeats 16000000 in
theorem pdq_srt {w0 : World} {g cap A : Nat} {l0 : List Int} {cf : Int → Int → Int} {K : Int → Int} (X : CtxK w0 g A l0 cf K) (hsm : l0.length ≤ 60000) : ∀ (N a b lim : Nat) (w : World) (f0 : Nat → Int), b ≤ a + N → a ≤ b → b ≤ l0.length → lim ≤ 100 → SRP w0 g cap l0 K w (fun f => f = f0) → Low a b f0 →
    Calls Try.prog 54 #[.slice (some ⟨g, 0, none⟩) l0.length cap, .int .i64 a, .int .i64 b, .int .i64 lim, cv A] w fun e w' => e = .returned (.tuple #[]) ∧ SRP w0 g cap l0 K w' (fun f => Win a b f0 f ∧ Srt a b f) := by
  have mixed : Try.prog.follows .mixedOrders = true := by kernel_rfl
  have hlen := X.len
  have HX : Hid (CtxK w0 g A l0 cf K) := X
  clear X
  intro N
  induction N with
  | zero => exact fun a b lim w f0 hN hab hb hlim S hlo => pdq_small_srt HX.out S (by omega) hab hb lim
  | succ N ih =>
    intro a0 b0 lim w f0 hN hab hb hlim S hlo
    have HS : Hid (SRP w0 g cap l0 K w (fun f => f = f0)) := S
    have HLo : Hid (Low a0 b0 f0) := hlo
    clear S hlo
    go_enter Try.func54, Try.ntmps54
    go_wp2_with fail
    go_loopw [1, 2, 3, 10, 11, 12, 13, 14, 15, 16, 17, 18, 19, 20] (fun v1 v2 v3 v10 v11 _ _ _ _ _ _ _ _ _ wx => ∃ (a b lm : Nat) (wb wp : Bool), a0 ≤ a ∧ a ≤ b ∧ b ≤ b0 ∧ lm ≤ lim ∧ v1 = .int .i64 a ∧ v2 = .int .i64 b ∧ v3 = .int .i64 lm ∧ v10 = .bool wb ∧ v11 = .bool wp ∧ Hid (SRP w0 g cap l0 K wx (fun f => Leads a0 b0 a b f0 f))) (fun v1 v2 _ _ _ _ _ _ _ _ _ _ _ _ _ => (intOf v2).toNat - (intOf v1).toNat)
    case atStart => exact ⟨a0, b0, lim, true, true, by omega, by omega, by omega, by omega, rfl, rfl, rfl, rfl, rfl, HS.out.mono (by rintro f rfl; exact Leads.start HLo.out)⟩
    case round =>
      clear HS
      obtain ⟨a, b, lm, wb, wp, h1, h2, h3, hlm, rfl, rfl, rfl, rfl, rfl, HS⟩ := hrel
      by_cases h12 : b - a ≤ 12
      · have h12z : (b : Int) - (a : Int) ≤ 12 := by omega
        obtain ⟨fa, HPF, HA⟩ := HS.out.at
        have HCL := hid (ins_srt HX.out HA.out (a := a) (b := b) (by omega) (by omega))
        clear HS HA
        go_wp2_with fail
        refine Calls.mono HCL.out ?_
        rintro e W1 ⟨rfl, hs⟩
        have HS := hid hs
        clear hs HCL
        go_wp2
        first | (go_end0; exact ⟨rfl, HS.out.mono (fun f h => HPF.out.2 f h.1 h.2)⟩) | (refine bodyPost_ret (results_none rfl _ _ _) rfl ?_; exact ⟨rfl, HS.out.mono (fun f h => HPF.out.2 f h.1 h.2)⟩)
      · have h12z : ¬ (b : Int) - (a : Int) ≤ 12 := by omega
        by_cases hl0 : lm = 0
        · have hl0z : (lm : Int) = 0 := by omega
          have hl0b : ((lm : Int) == 0) = true := by simp [hl0z]
          obtain ⟨fa, HPF, HA⟩ := HS.out.at
          have HCL := hid (heap_srt HX.out HA.out (a := a) (b := b) (by omega) (by omega))
          clear HS HA
          go_wp2_with fail
          refine Calls.mono HCL.out ?_
          rintro e W1 ⟨rfl, hs⟩
          have HS := hid hs
          clear hs HCL
          go_wp2
          first | (go_end0; exact ⟨rfl, HS.out.mono (fun f h => HPF.out.2 f h.1 h.2)⟩) | (refine bodyPost_ret (results_none rfl _ _ _) rfl ?_; exact ⟨rfl, HS.out.mono (fun f h => HPF.out.2 f h.1 h.2)⟩)
        · have hl0z : ¬ (lm : Int) = 0 := by omega
          have hl0b : ((lm : Int) == 0) = false := by rw [beq_eq_false_iff_ne]; exact hl0z
          go_upto_if 39 with fail
          go_cut [3] (fun v wx => ∃ lm : Nat, lm ≤ lim ∧ v = .int .i64 lm ∧ Hid (SRP w0 g cap l0 K wx (fun f => Leads a0 b0 a b f0 f)))
          case first =>
            cases wb with
            | false =>
              obtain ⟨fa, HPF, HA⟩ := HS.out.at
              have HCL := hid (brk_win HX.out HA.out hsm (a := a) (b := b) (by omega) (by omega))
              clear HS HA
              go_wp2_with fail
              refine Calls.mono HCL.out ?_
              rintro e W1 ⟨rfl, hs⟩
              have HS := hid hs
              clear hs HCL
              have HS0 := hid (HS.out.mono (Q := fun f => Leads a0 b0 a b f0 f) (fun f h => HPF.out.win h))
              clear HS HPF
              have HS := HS0
              clear HS0
              go_wp2
              go_meet
              exact ⟨lm - 1, by omega, by first | rfl | go_num | (congr 1; omega), HS.out⟩
            | true =>
              go_wp2
              go_meet
              exact ⟨lm, by omega, rfl, HS.out⟩
          case rest =>
            clear HS hlm hl0 hl0z hl0b
            obtain ⟨lm, hlm, rfl, HS⟩ := hcut
            have HCL := hid (pivot_k HX.out HS.out (a := a) (b := b) (by omega) (by omega))
            clear HS
            go_wp2_with fail
            refine Calls.mono HCL.out ?_
            rintro e W1 ⟨p, h, rfl, hp1, hp2, hh, hs⟩
            have HS := hid hs
            clear hs HCL
            go_upto_if 56 with fail
            go_cut [13, 14] (fun v v' wx => ∃ p h : Nat, a ≤ p ∧ p < b ∧ h ≤ 2 ∧ v = .int .i64 p ∧ v' = .int .i64 h ∧ Hid (SRP w0 g cap l0 K wx (fun f => Leads a0 b0 a b f0 f)))
            case first =>
              by_cases h2 : h = 2
              · have h2z : (h : Int) = 2 := by omega
                have h2b : ((h : Int) == 2) = true := by simp [h2z]
                obtain ⟨fa, HPF, HA⟩ := HS.out.at
                have HCL := hid (rev_win HX.out HA.out (a := a) (b := b) (by omega) (by omega))
                clear HS HA
                go_wp2_with fail
                refine Calls.mono HCL.out ?_
                rintro e W1 ⟨rfl, hs⟩
                have HS := hid hs
                clear hs HCL
                have HS0 := hid (HS.out.mono (Q := fun f => Leads a0 b0 a b f0 f) (fun f h => HPF.out.win h))
                clear HS HPF
                have HS := HS0
                clear HS0
                go_wp2
                go_meet
                exact ⟨(b - 1) - (p - a), 1, by omega, by omega, by omega, by first | rfl | go_num | (congr 1; omega), rfl, HS.out⟩
              · have h2z : ¬ (h : Int) = 2 := by omega
                have h2b : ((h : Int) == 2) = false := by rw [beq_eq_false_iff_ne]; exact h2z
                go_wp2
                go_meet
                exact ⟨p, h, by omega, by omega, by omega, rfl, rfl, HS.out⟩
            case rest =>
              clear HS
              clear hp1 hp2 hh
              obtain ⟨p, h, hp1, hp2, hh, rfl, rfl, HS⟩ := hcut
              go_upto_region 15 with fail
              go_cut [75] (fun v wx => ∃ t : Bool, v = .bool t ∧ Hid (SRP w0 g cap l0 K wx (fun f => Leads a0 b0 a b f0 f)))
              case first =>
                by_cases h1 : h = 1
                · have h1z : (h : Int) = 1 := by omega
                  have h1b : ((h : Int) == 1) = true := by simp [h1z]
                  cases wb <;> cases wp <;> (go_wp2; go_meet; exact ⟨_, rfl, HS.out⟩)
                · have h1z : ¬ (h : Int) = 1 := by omega
                  have h1b : ((h : Int) == 1) = false := by rw [beq_eq_false_iff_ne]; exact h1z
                  cases wb <;> cases wp <;> (go_wp2; go_meet; exact ⟨_, rfl, HS.out⟩)
              case rest =>
                clear HS
                obtain ⟨t, rfl, HS⟩ := hcut
                go_upto_if 75 with fail
                go_cut [13] (fun v wx => v = .int .i64 p ∧ Hid (SRP w0 g cap l0 K wx (fun f => Leads a0 b0 a b f0 f)))
                case first =>
                  cases t with
                  | true =>
                    obtain ⟨fa, HPF, HA⟩ := HS.out.at
                    have HCL := hid (pins_srt HX.out HA.out (a := a) (b := b) (by omega) (by omega) HPF.out.1)
                    clear HS HA
                    go_wp2_with fail
                    refine Calls.mono HCL.out ?_
                    rintro e W1 ⟨t', rfl, hs⟩
                    have HS := hid hs
                    clear hs HCL
                    cases t' with
                    | true =>
                      go_wp2
                      first | (go_end0; exact ⟨rfl, HS.out.mono (fun f h => HPF.out.2 f h.1 (h.2 (by first | rfl | trivial)))⟩) | (refine bodyPost_ret (results_none rfl _ _ _) rfl ?_; exact ⟨rfl, HS.out.mono (fun f h => HPF.out.2 f h.1 (h.2 (by first | rfl | trivial)))⟩)
                    | false =>
                      go_wp2
                      go_meet
                      exact ⟨rfl, HS.out.mono (fun f h => HPF.out.win h.1)⟩
                  | false =>
                    go_wp2
                    go_meet
                    exact ⟨rfl, HS.out⟩
                case rest =>
                  clear HS
                  obtain ⟨rfl, HS⟩ := hcut
                  go_upto_region 17 with fail
                  go_cut [97] (fun v wx => v = .bool false ∧ Hid (SRP w0 g cap l0 K wx (fun f => Leads a0 b0 a b f0 f)))
                  case first =>
                    by_cases ha0 : 0 < a
                    · obtain ⟨a1, rfl⟩ : ∃ a1, a = a1 + 1 := ⟨a - 1, by omega⟩
                      have haz : (0 : Int) < (a1 : Int) + 1 := by omega
                      obtain ⟨x, y, c1, c2, HC, HT⟩ := HS.out.test HX.out (i := a1) (j := p) (by omega) (by omega) (by omega)
                      clear HS
                      by_cases hc : cf x y < 0
                      · have hd : decide (cf x y < 0) = true := decide_eq_true hc
                        go_wp2_with fail
                        go_quiet (first | (go_at_call 48; exact HC.out _))
                        have HS := hid (HT.out.1 hc nq)
                        clear HT HC c1 c2 hc hd
                        generalize wc.drewN nq = W1 at HS ⊢
                        go_wp2
                        go_meet
                        exact ⟨rfl, HS.out.mono (fun f h => h.1)⟩
                      · have hd : decide (cf x y < 0) = false := decide_eq_false hc
                        go_wp2_with fail
                        go_quiet (first | (go_at_call 48; exact HC.out _))
                        have HS := hid (HT.out.2 hc nq)
                        clear HT HC c1 c2 hc hd
                        generalize wc.drewN nq = W1 at HS ⊢
                        refine (HS.out.no ?_).elim
                        rintro f ⟨h1, h2⟩
                        have h3 := h1.1 p (by omega) (by omega) (by omega)
                        rw [Nat.add_sub_cancel] at h3
                        omega
                    · have hz : decide ((a : Int) > 0) = false := decide_eq_false (by omega)
                      have haz : ¬ (0 : Int) < (a : Int) := by omega
                      have HS1 := hid HS.out.drew
                      clear HS
                      go_wp2_with fail
                      go_big_region_o
                      generalize wc.drew = W1 at HS1 ⊢
                      have HS := HS1
                      clear HS1
                      go_wp2
                      go_meet
                      exact ⟨rfl, HS.out⟩
                  case rest =>
                    clear HS
                    obtain ⟨rfl, HS⟩ := hcut
                    obtain ⟨fa, HPF, HA⟩ := HS.out.at
                    have HCL := hid (part_srt HX.out HA.out hp1 hp2 (by omega))
                    clear HS HA
                    go_wp2_with fail
                    refine Calls.mono HCL.out ?_
                    rintro e W2 ⟨m, t, rfl, hm1, hm2, hs⟩
                    have HS := hid hs
                    clear hs HCL
                    have HS0 := hid (HS.out.mono (Q := fun f => Leads a0 b0 a b f0 f ∧ Mid a b m f) (fun f h => ⟨HPF.out.win h.1, h.2⟩))
                    clear HS HPF
                    have HS := HS0
                    clear HS0
                    by_cases hlr : m - a < b - m
                    · have hlrz : (m : Int) - (a : Int) < (b : Int) - (m : Int) := by omega
                      obtain ⟨fa, HPF, HA⟩ := HS.out.at
                      have HCL := hid (ih a m lm W2 fa (by omega) hm1 (by omega) (by omega) HA.out (HPF.out.1.1.sub (by omega)))
                      clear HS HA
                      go_wp2_with fail
                      refine Calls.mono HCL.out ?_
                      rintro e W3 ⟨rfl, hs⟩
                      have HS := hid hs
                      clear hs HCL
                      go_wp2
                      go_round
                      case rel => exact ⟨m + 1, b, lm, _, _, by omega, by omega, by omega, by omega, by first | rfl | go_num | (congr 1; omega), rfl, rfl, rfl, rfl, HS.out.mono (fun f h => HPF.out.1.left hm1 hm2 HPF.out.2 h.1 h.2)⟩
                      case measure => simp [intOf] <;> omega
                    · have hlrz : ¬ (m : Int) - (a : Int) < (b : Int) - (m : Int) := by omega
                      have em : (m : Int) + 1 = ((m + 1 : Nat) : Int) := by omega
                      obtain ⟨fa, HPF, HA⟩ := HS.out.at
                      have HIH := hid (ih (m + 1) b lm W2 fa (by omega) (by omega) (by omega) (by omega) HA.out (by
                        intro k h0 h1 h2
                        rw [Nat.add_sub_cancel]
                        exact HPF.out.2.2 k (by omega) h2))
                      rw [← em] at HIH
                      clear HS HA em
                      go_wp2_with fail
                      refine Calls.mono HIH.out ?_
                      rintro e W3 ⟨rfl, hs⟩
                      have HS := hid hs
                      clear hs HIH
                      go_wp2
                      go_round
                      case rel => exact ⟨a, m, lm, _, _, by omega, by omega, by omega, by omega, rfl, rfl, rfl, rfl, rfl, HS.out.mono (fun f h => HPF.out.1.right hm1 hm2 HPF.out.2 h.1 h.2)⟩
                      case measure => simp [intOf] <;> omega
end Go.Proofs.Ytnfamebihpnjlaa
