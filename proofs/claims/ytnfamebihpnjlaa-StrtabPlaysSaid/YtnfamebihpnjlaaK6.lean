/- slices.partialInsertionSortCmpFunc: it keeps to its range, and what it says is true. -/
import Derived.Test.YtnfamebihpnjlaaK0
import Derived.Deep.CutBlock
import Derived.Deep.DeepCutAuto
namespace Go.Proofs.Ytnfamebihpnjlaa
open Go.RowKit
set_option linter.unusedSimpArgs false
set_option linter.unusedVariables false

/-- What partialInsertionSort answers. -/
def PinsOut (w0 : World) (g cap : Nat) (l0 : List Int) (K : Int → Int) (a b : Nat) (f0 : Nat → Int) (e : Ending) (w' : World) : Prop :=
  ∃ t : Bool, e = .returned (.bool t) ∧ SRP w0 g cap l0 K w' (fun f => Win a b f0 f ∧ (t = true → Srt a b f))

set_option maxRecDepth 20000 in
set_option maxHeartbeats 4000000 in
theorem pins_srt {w0 w : World} {g cap A : Nat} {l0 : List Int} {cf : Int → Int → Int} {K : Int → Int} {f0 : Nat → Int} (X : CtxK w0 g A l0 cf K) (S : SRP w0 g cap l0 K w (fun f => f = f0)) {a b : Nat} (hab : a < b) (hb : b ≤ l0.length) (hlo : Low a b f0) :
    Calls Try.prog 62 #[.slice (some ⟨g, 0, none⟩) l0.length cap, .int .i64 a, .int .i64 b, cv A] w (PinsOut w0 g cap l0 K a b f0) := by
  have mixed : Try.prog.follows .mixedOrders = true := by kernel_rfl
  have hlen := X.len
  have HX : Hid (CtxK w0 g A l0 cf K) := X
  have HS : Hid (SRP w0 g cap l0 K w (fun f => f = f0)) := S
  clear X S
  have HLo : Hid (Low a b f0) := hlo
  clear hlo
  go_enter Try.func62, Try.ntmps62
  go_wp2_with fail
  go_loopw [9, 10, 11, 12] (fun v v' _ _ wx => ∃ i k : Nat, a + 1 ≤ i ∧ i ≤ b ∧ k ≤ 5 ∧ v = .int .i64 i ∧ v' = .int .i64 k ∧ Hid (SRP w0 g cap l0 K wx (fun f => Win a b f0 f ∧ Srt a i f))) (fun _ v' _ _ _ => 5 - (intOf v').toNat)
  case atStart => exact ⟨a + 1, 0, by omega, by omega, by omega, by first | rfl | go_num | (congr 1; omega), by first | rfl | go_num | (congr 1; omega), HS.out.mono (by rintro f rfl; exact ⟨Win.refl _ _ _, srt_small (by omega)⟩)⟩
  case round =>
    clear HS
    obtain ⟨i0, k, hi01, hi02, hk, rfl, rfl, HS⟩ := hrel
    by_cases hk5 : k < 5
    · have hkz : (k : Int) < 5 := by omega
      go_upto_block 2 with fail
      go_cut [9] (fun v wx => ∃ i : Nat, a + 1 ≤ i ∧ i ≤ b ∧ v = .int .i64 i ∧ Hid (SRP w0 g cap l0 K wx (fun f => Win a b f0 f ∧ Srt a i f)))
      case first =>
        go_wp2_with fail
        go_loopw [9] (fun v wx => ∃ i : Nat, a + 1 ≤ i ∧ i ≤ b ∧ v = .int .i64 i ∧ Hid (SRP w0 g cap l0 K wx (fun f => Win a b f0 f ∧ Srt a i f))) (fun v _ => b - (intOf v).toNat)
        case atStart => exact ⟨i0, by omega, by omega, by first | rfl | go_num | (congr 1; omega), HS.out⟩
        case round =>
          clear HS
          obtain ⟨i, hi1, hi2, rfl, HS⟩ := hrel
          by_cases hg : i < b
          · obtain ⟨q, rfl⟩ : ∃ q, i = q + 1 := ⟨i - 1, by omega⟩
            have hgz : (q : Int) + 1 < (b : Int) := by omega
            obtain ⟨x, y, c1, c2, HC, HT⟩ := HS.out.test HX.out (i := (q + 1)) (j := q) (by omega) (by omega) (by omega)
            clear HS
            by_cases hc : cf x y < 0
            · have hd : decide (cf x y < 0) = true := decide_eq_true hc
              go_wp2_with fail
              go_quiet (first | (go_at_call 48; exact HC.out _))
              have HS := hid (HT.out.1 hc nq)
              clear HT HC c1 c2 hc hd
              generalize wr.drewN nq = W1 at HS ⊢
              go_wp2
              go_meet
              exact ⟨q + 1, by omega, by omega, by first | rfl | go_num | (congr 1; omega), HS.out.mono (fun f h => h.1)⟩
            · have hd : decide (cf x y < 0) = false := decide_eq_false hc
              go_wp2_with fail
              go_quiet (first | (go_at_call 48; exact HC.out _))
              have HS := hid (HT.out.2 hc nq)
              clear HT HC c1 c2 hc hd
              generalize wr.drewN nq = W1 at HS ⊢
              go_wp2
              go_round
              case rel => exact ⟨q + 1 + 1, by omega, by omega, by first | rfl | go_num | (congr 1; omega), HS.out.mono (by rintro f ⟨⟨h1, h2⟩, h3⟩; exact ⟨h1, srt_snoc h2 h3⟩)⟩
              case measure => simp [intOf] <;> omega
          · have hz : decide ((i : Int) < (b : Int)) = false := decide_eq_false (by omega)
            have hgz : ¬ (i : Int) < (b : Int) := by omega
            have HS1 := hid HS.out.drew
            clear HS
            go_wp2_with fail
            go_big_region_o
            generalize wr.drew = W1 at HS1 ⊢
            have HS := HS1
            clear HS1
            go_wp2
            go_meet
            exact ⟨i, by omega, by omega, rfl, HS.out⟩
      case rest =>
        clear HS
        obtain ⟨i, hi1, hi2, rfl, HS⟩ := hcut
        by_cases hib : i = b
        · have hibz : (i : Int) = (b : Int) := by omega
          have hibb : ((i : Int) == (b : Int)) = true := by simp [hibz]
          go_wp2
          go_ret
          exact ⟨_, rfl, HS.out.mono (by rintro f ⟨h1, h2⟩; exact ⟨h1, fun _ => by rw [← hib]; exact h2⟩)⟩
        · have hibz : ¬ (i : Int) = (b : Int) := by omega
          have hibb : ((i : Int) == (b : Int)) = false := by simp [hibz]
          by_cases h50 : b - a < 50
          · have h50z : (b : Int) - (a : Int) < 50 := by omega
            go_wp2
            go_ret
            exact ⟨_, rfl, HS.out.mono (by rintro f ⟨h1, h2⟩; exact ⟨h1, fun e => absurd e (by decide)⟩)⟩
          · have h50z : ¬ (b : Int) - (a : Int) < 50 := by omega
            have em : ((i - 1 : Nat) : Int) = (i : Int) - 1 := by omega
            have en : ((i : Int) - 1).toNat = i - 1 := by omega
            obtain ⟨x', y', u, d1, d2, f1, f2, d3, HE⟩ := HS.out.swaps (i := i) (j := (i - 1)) (by omega) (by omega)
            clear HS
            go_wp2_with fail
            go_big_region_o
            generalize ((wc.setCell ⟨g, i, none⟩ (.int .i64 y')).setCell ⟨g, (i - 1), none⟩ (.int .i64 x')).drew = W5 at HE ⊢
            have HS := HE
            clear HE d1 d2 d3 f1 f2
            have HS0 := hid (HS.out.mono (Q := fun f => Win a b f0 f ∧ Srt a (i - 1) f) (by rintro f ⟨f', ⟨h1, h2⟩, rfl⟩; exact ⟨h1.sw (by omega) (by omega) (by omega) (by omega), srt_off (h2.sub (by omega)) (by omega) (by omega)⟩))
            clear HS
            have HS := HS0
            clear HS0
            go_upto_if 65 with fail
            go_cut [11] (fun _ wx => Hid (SRP w0 g cap l0 K wx (fun f => Win a b f0 f ∧ Srt a i f)))
            case first =>
              by_cases hq : 2 ≤ i - a
              · have hqz : (2 : Int) ≤ (i : Int) - (a : Int) := by omega
                have hqb : decide ((2 : Int) ≤ (i : Int) - (a : Int)) = true := decide_eq_true hqz
                go_wp2_with fail
                rw [hqb]
                go_loopw [11] (fun v wx => ∃ j : Nat, a ≤ j ∧ j + 1 ≤ i ∧ v = .int .i64 j ∧ Hid (SRP w0 g cap l0 K wx (fun f => Win a b f0 f ∧ InsJ a (i - 1) j f))) (fun v _ => (intOf v).toNat)
                case atStart => exact ⟨i - 1, by omega, by omega, by first | rfl | go_num | (congr 1; omega), HS.out.mono (by rintro f ⟨h1, h2⟩; exact ⟨h1, insJ_start h2⟩)⟩
                case round =>
                  clear HS
                  obtain ⟨j, hj0, hj1, rfl, HS⟩ := hrel
                  by_cases hg : 1 ≤ j
                  · obtain ⟨q, rfl⟩ : ∃ q, j = q + 1 := ⟨j - 1, by omega⟩
                    have hgz : (1 : Int) ≤ (q : Int) + 1 := by omega
                    obtain ⟨x, y, c1, c2, HC, HT⟩ := HS.out.test HX.out (i := (q + 1)) (j := q) (by omega) (by omega) (by omega)
                    clear HS
                    by_cases hc : cf x y < 0
                    · have hd : decide (cf x y < 0) = true := decide_eq_true hc
                      go_wp2_with fail
                      go_quiet (first | (go_at_call 48; exact HC.out _))
                      have HS := hid (HT.out.1 hc nq)
                      clear HT HC c1 c2 hc hd
                      generalize wr.drewN nq = W1 at HS ⊢
                      have haq : a ≤ q := by
                        by_cases hqa : a ≤ q
                        · exact hqa
                        · refine (HS.out.no ?_).elim
                          rintro f ⟨⟨h1, h2⟩, h3⟩
                          have h4 := (HLo.out.win h1) (q + 1) (by omega) (by omega) (by omega)
                          have e : a - 1 = q := by omega
                          rw [e] at h4
                          omega
                      obtain ⟨x', y', u, d1, d2, f1, f2, d3, HE⟩ := HS.out.swaps (i := (q + 1)) (j := q) (by omega) (by omega)
                      clear HS
                      go_wp2_with fail
                      go_big_region_o
                      generalize ((W1.setCell ⟨g, (q + 1), none⟩ (.int .i64 y')).setCell ⟨g, q, none⟩ (.int .i64 x')).drew = W2 at HE ⊢
                      have HS := HE
                      clear HE d1 d2 d3 f1 f2
                      clear u
                      go_wp2
                      first | go_roundw | go_round
                      case rel => exact ⟨q, by omega, by omega, by first | rfl | go_num | (congr 1; omega), HS.out.mono (by rintro f ⟨f', ⟨⟨h1, h2⟩, h3⟩, rfl⟩; exact ⟨h1.sw (by omega) (by omega) (by omega) (by omega), insJ_step h2 (by omega) (by omega) h3⟩)⟩
                      case measure => simp [intOf] <;> omega
                    · have hd : decide (cf x y < 0) = false := decide_eq_false hc
                      go_wp2_with fail
                      go_quiet (first | (go_at_call 48; exact HC.out _))
                      have HS := hid (HT.out.2 hc nq)
                      clear HT HC c1 c2 hc hd
                      generalize wr.drewN nq = W1 at HS ⊢
                      go_wp2
                      go_meet
                      exact HS.out.mono (by rintro f ⟨⟨h1, h2⟩, h3⟩; have h4 := insJ_stop h2 (by omega) (by omega) (Or.inr h3); rw [Nat.sub_add_cancel (by omega)] at h4; exact ⟨h1, h4⟩)
                  · have hgz : ¬ (1 : Int) ≤ (j : Int) := by omega
                    go_wp2
                    go_meet
                    exact HS.out.mono (by rintro f ⟨h1, h2⟩; have h4 := insJ_stop h2 (by omega) (by omega) (Or.inl (by omega)); rw [Nat.sub_add_cancel (by omega)] at h4; exact ⟨h1, h4⟩)
              · have hqz : ¬ (2 : Int) ≤ (i : Int) - (a : Int) := by omega
                go_wp2
                go_meet
                exact HS.out.mono (by rintro f ⟨h1, h2⟩; exact ⟨h1, srt_small (by omega)⟩)
            case rest =>
              clear HS
              have HS := hcut
              clear hcut
              by_cases hq : 2 ≤ b - i
              · have hqz : (2 : Int) ≤ (b : Int) - (i : Int) := by omega
                go_wp2_with fail
                go_loopw [12] (fun v wx => ∃ j : Nat, i + 1 ≤ j ∧ j ≤ b ∧ v = .int .i64 j ∧ Hid (SRP w0 g cap l0 K wx (fun f => Win a b f0 f ∧ Srt a i f))) (fun v _ => b - (intOf v).toNat)
                case atStart => exact ⟨i + 1, by omega, by omega, by first | rfl | go_num | (congr 1; omega), HS.out⟩
                case round =>
                  clear HS
                  obtain ⟨j, hj1, hj2, rfl, HS⟩ := hrel
                  by_cases hg : j < b
                  · obtain ⟨q, rfl⟩ : ∃ q, j = q + 1 := ⟨j - 1, by omega⟩
                    have hgz : (q : Int) + 1 < (b : Int) := by omega
                    obtain ⟨x, y, c1, c2, HC, HT⟩ := HS.out.test HX.out (i := (q + 1)) (j := q) (by omega) (by omega) (by omega)
                    clear HS
                    by_cases hc : cf x y < 0
                    · have hd : decide (cf x y < 0) = true := decide_eq_true hc
                      go_wp2_with fail
                      go_quiet (first | (go_at_call 48; exact HC.out _))
                      have HS := hid (HT.out.1 hc nq)
                      clear HT HC c1 c2 hc hd
                      generalize wr.drewN nq = W1 at HS ⊢
                      obtain ⟨x', y', u, d1, d2, f1, f2, d3, HE⟩ := HS.out.swaps (i := (q + 1)) (j := q) (by omega) (by omega)
                      clear HS
                      go_wp2_with fail
                      go_big_region_o
                      generalize ((W1.setCell ⟨g, (q + 1), none⟩ (.int .i64 y')).setCell ⟨g, q, none⟩ (.int .i64 x')).drew = W2 at HE ⊢
                      have HS := HE
                      clear HE d1 d2 d3 f1 f2
                      go_wp2
                      go_round
                      case rel => exact ⟨q + 1 + 1, by omega, by omega, by first | rfl | go_num | (congr 1; omega), HS.out.mono (by rintro f ⟨f', ⟨⟨h1, h2⟩, h3⟩, rfl⟩; exact ⟨h1.sw (by omega) (by omega) (by omega) (by omega), srt_off h2 (by omega) (by omega)⟩)⟩
                      case measure => simp [intOf] <;> omega
                    · have hd : decide (cf x y < 0) = false := decide_eq_false hc
                      go_wp2_with fail
                      go_quiet (first | (go_at_call 48; exact HC.out _))
                      have HS := hid (HT.out.2 hc nq)
                      clear HT HC c1 c2 hc hd
                      generalize wr.drewN nq = W1 at HS ⊢
                      go_wp2
                      go_round
                      case rel => exact ⟨i, k + 1, by omega, by omega, by omega, rfl, by first | rfl | go_num | (congr 1; omega), HS.out.mono (fun f h => h.1)⟩
                      case measure => simp [intOf] <;> omega
                  · have hgz : ¬ (j : Int) < (b : Int) := by omega
                    go_wp2
                    go_round
                    case rel => exact ⟨i, k + 1, by omega, by omega, by omega, rfl, by first | rfl | go_num | (congr 1; omega), HS.out.mono (fun f h => h)⟩
                    case measure => simp [intOf] <;> omega
              · have hqz : ¬ (2 : Int) ≤ (b : Int) - (i : Int) := by omega
                go_wp2
                go_round
                case rel => exact ⟨i, k + 1, by omega, by omega, by omega, rfl, by first | rfl | go_num | (congr 1; omega), HS.out.mono (fun f h => h)⟩
                case measure => simp [intOf] <;> omega
    · have hkz : ¬ (k : Int) < 5 := by omega
      go_wp2
      go_ret
      exact ⟨_, rfl, HS.out.mono (by rintro f ⟨h1, h2⟩; exact ⟨h1, fun e => absurd e (by decide)⟩)⟩
end Go.Proofs.Ytnfamebihpnjlaa
