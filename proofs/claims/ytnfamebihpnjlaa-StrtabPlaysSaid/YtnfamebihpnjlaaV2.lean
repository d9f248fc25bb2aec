/- slices.pdqsortCmpFunc. -/
import Derived.Test.YtnfamebihpnjlaaV1
namespace Go.Proofs.Ytnfamebihpnjlaa
open Go.RowKit
set_option linter.unusedSimpArgs false
set_option linter.unusedVariables false

set_option maxRecDepth 20000 in
set_option maxHeartbeats 4000000 in
theorem pdq_small {w0 w : World} {g cap A : Nat} {l0 : List Int} {cf : Int → Int → Int} (X : Ctx w0 g A l0 cf) (S : ∃ l, SR w0 g cap l0 l w) {a b : Nat} (h12 : b ≤ a + 12) (hab : a ≤ b) (hb : b ≤ l0.length) (lim : Nat) :
    Calls Try.prog 54 #[.slice (some ⟨g, 0, none⟩) l0.length cap, .int .i64 a, .int .i64 b, .int .i64 lim, cv A] w fun e w' => e = .returned (.tuple #[]) ∧ ∃ l, SR w0 g cap l0 l w' := by
  have hlen := X.len
  have HX : Hid (Ctx w0 g A l0 cf) := X
  have HS : Hid (∃ l, SR w0 g cap l0 l w) := S
  clear X S
  go_enter Try.func54, Try.ntmps54
  go_wp2_with fail
  go_loopw [1, 2, 3, 10, 11, 12, 13, 14, 15, 16, 17, 18, 19, 20] (fun v1 v2 _ _ _ _ _ _ _ _ _ _ _ _ wx => v1 = .int .i64 a ∧ v2 = .int .i64 b ∧ Hid (∃ l, SR w0 g cap l0 l wx)) (fun _ _ _ _ _ _ _ _ _ _ _ _ _ _ _ => 0)
  case atStart => exact ⟨rfl, rfl, HS.out⟩
  case round =>
    clear HS
    obtain ⟨rfl, rfl, HS⟩ := hrel
    have h12z : (b : Int) - (a : Int) ≤ 12 := by omega
    have HCL : Hid _ := ins_any HX.out HS.out (a := a) (b := b) (by omega) (by omega)
    clear HS
    go_wp2_with fail
    refine Calls.mono HCL.out ?_
    rintro e W1 ⟨rfl, hs⟩
    have HS : Hid (∃ l, SR w0 g cap l0 l W1) := hs
    clear hs HCL
    go_wp2
    first | (go_end0; exact ⟨rfl, HS.out⟩) | (refine bodyPost_ret (results_none rfl _ _ _) rfl ?_; exact ⟨rfl, HS.out⟩)

set_option maxRecDepth 100000 in
set_option maxHeartbeats 16000000 in
theorem pdq_any {w0 : World} {g cap A : Nat} {l0 : List Int} {cf : Int → Int → Int} (X : Ctx w0 g A l0 cf) (hsm : l0.length ≤ 60000) : ∀ (N a b lim : Nat) (w : World), b ≤ a + N → a ≤ b → b ≤ l0.length → lim ≤ 100 → (∃ l, SR w0 g cap l0 l w) →
    Calls Try.prog 54 #[.slice (some ⟨g, 0, none⟩) l0.length cap, .int .i64 a, .int .i64 b, .int .i64 lim, cv A] w fun e w' => e = .returned (.tuple #[]) ∧ ∃ l, SR w0 g cap l0 l w' := by
  have mixed : Try.prog.follows .mixedOrders = true := by kernel_rfl
  have hlen := X.len
  have HX : Hid (Ctx w0 g A l0 cf) := X
  clear X
  intro N
  induction N with
  | zero => exact fun a b lim w hN hab hb hlim S => pdq_small HX.out S (by omega) hab hb lim
  | succ N ih =>
    intro a0 b0 lim w hN hab hb hlim S
    have HS : Hid (∃ l, SR w0 g cap l0 l w) := S
    clear S
    go_enter Try.func54, Try.ntmps54
    go_wp2_with fail
    go_loopw [1, 2, 3, 10, 11, 12, 13, 14, 15, 16, 17, 18, 19, 20] (fun v1 v2 v3 v10 v11 _ _ _ _ _ _ _ _ _ wx => ∃ (a b lm : Nat) (wb wp : Bool), a0 ≤ a ∧ a ≤ b ∧ b ≤ b0 ∧ lm ≤ lim ∧ v1 = .int .i64 a ∧ v2 = .int .i64 b ∧ v3 = .int .i64 lm ∧ v10 = .bool wb ∧ v11 = .bool wp ∧ Hid (∃ l, SR w0 g cap l0 l wx)) (fun v1 v2 _ _ _ _ _ _ _ _ _ _ _ _ _ => (intOf v2).toNat - (intOf v1).toNat)
    case atStart => exact ⟨a0, b0, lim, true, true, by omega, by omega, by omega, by omega, rfl, rfl, rfl, rfl, rfl, HS.out⟩
    case round =>
      clear HS
      obtain ⟨a, b, lm, wb, wp, h1, h2, h3, hlm, rfl, rfl, rfl, rfl, rfl, HS⟩ := hrel
      by_cases h12 : b - a ≤ 12
      · have h12z : (b : Int) - (a : Int) ≤ 12 := by omega
        have HCL : Hid _ := ins_any HX.out HS.out (a := a) (b := b) (by omega) (by omega)
        clear HS
        go_wp2_with fail
        refine Calls.mono HCL.out ?_
        rintro e W1 ⟨rfl, hs⟩
        have HS : Hid (∃ l, SR w0 g cap l0 l W1) := hs
        clear hs HCL
        go_wp2
        first | (go_end0; exact ⟨rfl, HS.out⟩) | (refine bodyPost_ret (results_none rfl _ _ _) rfl ?_; exact ⟨rfl, HS.out⟩)
      · have h12z : ¬ (b : Int) - (a : Int) ≤ 12 := by omega
        by_cases hl0 : lm = 0
        · have hl0z : (lm : Int) = 0 := by omega
          have hl0b : ((lm : Int) == 0) = true := by simp [hl0z]
          have HCL : Hid _ := heap_any HX.out HS.out (a := a) (b := b) (by omega) (by omega)
          clear HS
          go_wp2_with fail
          refine Calls.mono HCL.out ?_
          rintro e W1 ⟨rfl, hs⟩
          have HS : Hid (∃ l, SR w0 g cap l0 l W1) := hs
          clear hs HCL
          go_wp2
          first | (go_end0; exact ⟨rfl, HS.out⟩) | (refine bodyPost_ret (results_none rfl _ _ _) rfl ?_; exact ⟨rfl, HS.out⟩)
        · have hl0z : ¬ (lm : Int) = 0 := by omega
          have hl0b : ((lm : Int) == 0) = false := by rw [beq_eq_false_iff_ne]; exact hl0z
          go_upto_if 39 with fail
          go_cut [3] (fun v wx => ∃ lm : Nat, lm ≤ lim ∧ v = .int .i64 lm ∧ Hid (∃ l, SR w0 g cap l0 l wx))
          case first =>
            cases wb with
            | false =>
              have HCL : Hid _ := brk_any HX.out HS.out hsm (a := a) (b := b) (by omega) (by omega)
              clear HS
              go_wp2_with fail
              refine Calls.mono HCL.out ?_
              rintro e W1 ⟨rfl, hs⟩
              have HS : Hid (∃ l, SR w0 g cap l0 l W1) := hs
              clear hs HCL
              go_wp2
              go_meet
              exact ⟨lm - 1, by omega, by first | rfl | go_num | (congr 1; omega), HS.out⟩
            | true =>
              go_wp2
              go_meet
              exact ⟨lm, by omega, rfl, HS.out⟩
          case rest =>
            clear HS hlm hl0 hl0z hl0b
            obtain ⟨lm, hlm, rfl, HS⟩ := hcut
            have HCL : Hid _ := pivot_any HX.out HS.out (a := a) (b := b) (by omega) (by omega)
            clear HS
            go_wp2_with fail
            refine Calls.mono HCL.out ?_
            rintro e W1 ⟨p, h, rfl, hp1, hp2, hh, hs⟩
            have HS : Hid (∃ l, SR w0 g cap l0 l W1) := hs
            clear hs HCL
            go_upto_if 56 with fail
            go_cut [13, 14] (fun v v' wx => ∃ p h : Nat, a ≤ p ∧ p < b ∧ h ≤ 2 ∧ v = .int .i64 p ∧ v' = .int .i64 h ∧ Hid (∃ l, SR w0 g cap l0 l wx))
            case first =>
              by_cases h2 : h = 2
              · have h2z : (h : Int) = 2 := by omega
                have h2b : ((h : Int) == 2) = true := by simp [h2z]
                have HCL : Hid _ := rev_any HX.out HS.out (a := a) (b := b) (by omega) (by omega)
                clear HS
                go_wp2_with fail
                refine Calls.mono HCL.out ?_
                rintro e W1 ⟨rfl, hs⟩
                have HS : Hid (∃ l, SR w0 g cap l0 l W1) := hs
                clear hs HCL
                go_wp2
                go_meet
                exact ⟨(b - 1) - (p - a), 1, by omega, by omega, by omega, by first | rfl | go_num | (congr 1; omega), rfl, HS.out⟩
              · have h2z : ¬ (h : Int) = 2 := by omega
                have h2b : ((h : Int) == 2) = false := by rw [beq_eq_false_iff_ne]; exact h2z
                go_wp2
                go_meet
                exact ⟨p, h, by omega, by omega, by omega, rfl, rfl, HS.out⟩
            case rest =>
              clear HS
              clear hp1 hp2 hh
              obtain ⟨p, h, hp1, hp2, hh, rfl, rfl, HS⟩ := hcut
              go_upto_region 15 with fail
              go_cut [75] (fun v wx => ∃ t : Bool, v = .bool t ∧ Hid (∃ l, SR w0 g cap l0 l wx))
              case first =>
                by_cases h1 : h = 1
                · have h1z : (h : Int) = 1 := by omega
                  have h1b : ((h : Int) == 1) = true := by simp [h1z]
                  cases wb <;> cases wp <;> (go_wp2; go_meet; exact ⟨_, rfl, HS.out⟩)
                · have h1z : ¬ (h : Int) = 1 := by omega
                  have h1b : ((h : Int) == 1) = false := by rw [beq_eq_false_iff_ne]; exact h1z
                  cases wb <;> cases wp <;> (go_wp2; go_meet; exact ⟨_, rfl, HS.out⟩)
              case rest =>
                clear HS
                obtain ⟨t, rfl, HS⟩ := hcut
                go_upto_if 75 with fail
                go_cut [13] (fun v wx => v = .int .i64 p ∧ Hid (∃ l, SR w0 g cap l0 l wx))
                case first =>
                  cases t with
                  | true =>
                    have HCL : Hid _ := pins_any HX.out HS.out (a := a) (b := b) (by omega) (by omega)
                    clear HS
                    go_wp2_with fail
                    refine Calls.mono HCL.out ?_
                    rintro e W1 ⟨t', rfl, hs⟩
                    have HS : Hid (∃ l, SR w0 g cap l0 l W1) := hs
                    clear hs HCL
                    cases t' with
                    | true =>
                      go_wp2
                      first | (go_end0; exact ⟨rfl, HS.out⟩) | (refine bodyPost_ret (results_none rfl _ _ _) rfl ?_; exact ⟨rfl, HS.out⟩)
                    | false =>
                      go_wp2
                      go_meet
                      exact ⟨rfl, HS.out⟩
                  | false =>
                    go_wp2
                    go_meet
                    exact ⟨rfl, HS.out⟩
                case rest =>
                  clear HS
                  obtain ⟨rfl, HS⟩ := hcut
                  go_upto_region 17 with fail
                  go_cut [97] (fun v wx => ∃ t : Bool, v = .bool t ∧ Hid (∃ l, SR w0 g cap l0 l wx))
                  case first =>
                    by_cases ha0 : 0 < a
                    · obtain ⟨a1, rfl⟩ : ∃ a1, a = a1 + 1 := ⟨a - 1, by omega⟩
                      have haz : (0 : Int) < (a1 : Int) + 1 := by omega
                      obtain ⟨l, HL⟩ : ∃ l, Hid (SR w0 g cap l0 l wc) := HS.out
                      clear HS
                      have c1 := HL.out.cell (i := a1) (by omega)
                      have c2 := HL.out.cell (i := p) (by omega)
                      have HC : Hid _ := HL.out.cmp HX.out (i := a1) (j := p) (by omega) (by omega)
                      generalize at' l (a1) = x at c1 HC
                      generalize at' l (p) = y at c2 HC
                      by_cases hc : cf x y < 0
                      · have hd : decide (cf x y < 0) = true := decide_eq_true hc
                        go_wp2_with fail
                        go_quiet (first | (go_at_call 48; exact HC.out _))
                        have HS : Hid (∃ l, SR w0 g cap l0 l (wc.drewN nq)) := ⟨_, HL.out.drewN nq⟩
                        clear HL HC c1 c2 hc hd
                        generalize wc.drewN nq = W1 at HS ⊢
                        go_wp2
                        go_meet
                        exact ⟨_, rfl, HS.out⟩
                      · have hd : decide (cf x y < 0) = false := decide_eq_false hc
                        go_wp2_with fail
                        go_quiet (first | (go_at_call 48; exact HC.out _))
                        have HS : Hid (∃ l, SR w0 g cap l0 l (wc.drewN nq)) := ⟨_, HL.out.drewN nq⟩
                        clear HL HC c1 c2 hc hd
                        generalize wc.drewN nq = W1 at HS ⊢
                        go_wp2
                        go_meet
                        exact ⟨_, rfl, HS.out⟩
                    · have hz : decide ((a : Int) > 0) = false := decide_eq_false (by omega)
                      have haz : ¬ (0 : Int) < (a : Int) := by omega
                      have HS1 : Hid (∃ l, SR w0 g cap l0 l wc.drew) := HS.out.imp fun _ h => h.drew
                      clear HS
                      rename Hid (∃ l, SR w0 g cap l0 l wc.drew) => HS
                      go_wp2_with fail
                      go_big_region_o
                      generalize wc.drew = W1 at HS ⊢
                      go_wp2
                      go_meet
                      exact ⟨_, rfl, HS.out⟩
                  case rest =>
                    clear HS
                    obtain ⟨t, rfl, HS⟩ := hcut
                    cases t with
                    | true =>
                      have HCL : Hid _ := peq_any HX.out HS.out hp1 hp2 (by omega)
                      clear HS
                      go_wp2_with fail
                      refine Calls.mono HCL.out ?_
                      rintro e W2 ⟨m, rfl, hm1, hm2, hs⟩
                      have HS : Hid (∃ l, SR w0 g cap l0 l W2) := hs
                      clear hs HCL
                      go_wp2
                      go_round
                      case rel => exact ⟨m, b, lm, _, _, by omega, by omega, by omega, by omega, rfl, rfl, rfl, rfl, rfl, HS.out⟩
                      case measure => simp [intOf] <;> omega
                    | false =>
                      have HCL : Hid _ := part_any HX.out HS.out hp1 hp2 (by omega)
                      clear HS
                      go_wp2_with fail
                      refine Calls.mono HCL.out ?_
                      rintro e W2 ⟨m, t, rfl, hm1, hm2, hs⟩
                      have HS : Hid (∃ l, SR w0 g cap l0 l W2) := hs
                      clear hs HCL
                      by_cases hlr : m - a < b - m
                      · have hlrz : (m : Int) - (a : Int) < (b : Int) - (m : Int) := by omega
                        have HCL : Hid _ := ih a m lm W2 (by omega) hm1 (by omega) (by omega) HS.out
                        clear HS
                        go_wp2_with fail
                        refine Calls.mono HCL.out ?_
                        rintro e W3 ⟨rfl, hs⟩
                        have HS : Hid (∃ l, SR w0 g cap l0 l W3) := hs
                        clear hs HCL
                        go_wp2
                        go_round
                        case rel => exact ⟨m + 1, b, lm, _, _, by omega, by omega, by omega, by omega, by first | rfl | go_num | (congr 1; omega), rfl, rfl, rfl, rfl, HS.out⟩
                        case measure => simp [intOf] <;> omega
                      · have hlrz : ¬ (m : Int) - (a : Int) < (b : Int) - (m : Int) := by omega
                        have em : (m : Int) + 1 = ((m + 1 : Nat) : Int) := by omega
                        have HIH : Hid _ := ih (m + 1) b lm W2 (by omega) (by omega) (by omega) (by omega) HS.out
                        rw [← em] at HIH
                        clear HS em
                        go_wp2_with fail
                        refine Calls.mono HIH.out ?_
                        rintro e W3 ⟨rfl, hs⟩
                        have HS : Hid (∃ l, SR w0 g cap l0 l W3) := hs
                        clear hs HIH
                        go_wp2
                        go_round
                        case rel => exact ⟨a, m, lm, _, _, by omega, by omega, by omega, by omega, rfl, rfl, rfl, rfl, rfl, HS.out⟩
                        case measure => simp [intOf] <;> omega
end Go.Proofs.Ytnfamebihpnjlaa
