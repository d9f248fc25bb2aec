/- slices.partitionCmpFunc parts. -/
import Derived.Test.YtnfamebihpnjlaaK0
import Derived.Deep.CutBlock
import Derived.Deep.DeepCutAuto
namespace Go.Proofs.Ytnfamebihpnjlaa
open Go.RowKit
set_option linter.unusedSimpArgs false
set_option linter.unusedVariables false

set_option maxRecDepth 20000 in
set_option maxHeartbeats 4000000 in
theorem part_srt {w0 w : World} {g cap A : Nat} {l0 : List Int} {cf : Int → Int → Int} {K : Int → Int} {f0 : Nat → Int} (X : CtxK w0 g A l0 cf K) (S : SRP w0 g cap l0 K w (fun f => f = f0)) {a b p : Nat} (hap : a ≤ p) (hpb : p < b) (hb : b ≤ l0.length) :
    Calls Try.prog 64 #[.slice (some ⟨g, 0, none⟩) l0.length cap, .int .i64 a, .int .i64 b, .int .i64 p, cv A] w fun e w' => ∃ (m : Nat) (t : Bool), e = .returned (.tuple #[.int .i64 m, .bool t]) ∧ a ≤ m ∧ m < b ∧ SRP w0 g cap l0 K w' (fun f => Win a b f0 f ∧ Mid a b m f) := by
  have mixed : Try.prog.follows .mixedOrders = true := by kernel_rfl
  have hlen := X.len
  have HX : Hid (CtxK w0 g A l0 cf K) := X
  have HS : Hid (SRP w0 g cap l0 K w (fun f => f = f0)) := S
  clear X S
  go_enter Try.func64, Try.ntmps64
  go_wp2_with fail
  obtain ⟨x', y', u, d1, d2, f1, f2, d3, HE⟩ := HS.out.swaps (i := a) (j := p) (by omega) (by omega)
  clear HS
  go_wp2_with fail
  go_big_region_o
  generalize ((w.setCell ⟨g, a, none⟩ (.int .i64 y')).setCell ⟨g, p, none⟩ (.int .i64 x')).drew = W0 at HE ⊢
  have HS := HE
  clear HE d1 d2 d3 f1 f2
  go_upto_block 0 with fail
  go_cut [12] (fun v wx => ∃ i : Nat, a + 1 ≤ i ∧ i ≤ b ∧ v = .int .i64 i ∧ Hid (SRP w0 g cap l0 K wx (fun f => Win a b f0 f ∧ Par a b i (b - 1) f ∧ (b - 1 < i ∨ f a < f i))))
  case first =>
    go_wp2_with fail
    go_loopw [12] (fun v wx => ∃ i : Nat, a + 1 ≤ i ∧ i ≤ b ∧ v = .int .i64 i ∧ Hid (SRP w0 g cap l0 K wx (fun f => Win a b f0 f ∧ Par a b i (b - 1) f))) (fun v _ => b + 1 - (intOf v).toNat)
    case atStart => exact ⟨a + 1, by omega, by omega, by first | rfl | go_num | (congr 1; omega), HS.out.mono (by rintro f ⟨f', rfl, rfl⟩; exact ⟨(Win.refl _ _ _).sw (by omega) (by omega) (by omega) (by omega), Par.start _ _ _⟩)⟩
    case round =>
      clear HS
      obtain ⟨i, hi1, hi2, rfl, HS⟩ := hrel
      by_cases hg : i ≤ b - 1
      · have hgz : (i : Int) ≤ (b : Int) - 1 := by omega
        obtain ⟨x, y, c1, c2, HC, HT⟩ := HS.out.test HX.out (i := i) (j := a) (by omega) (by omega) (by omega)
        clear HS
        by_cases hc : cf x y < 0
        · have hd : decide (cf x y < 0) = true := decide_eq_true hc
          go_wp2_with fail
          go_quiet (first | (go_at_call 48; exact HC.out _))
          have HS := hid (HT.out.1 hc nq)
          clear HT HC c1 c2 hc hd
          generalize wr.drewN nq = W1 at HS ⊢
          go_wp2
          go_round
          case rel => exact ⟨i + 1, by omega, by omega, by first | rfl | go_num | (congr 1; omega), HS.out.mono (by rintro f ⟨⟨h1, h2⟩, h3⟩; exact ⟨h1, h2.up h3⟩)⟩
          case measure => simp [intOf] <;> omega
        · have hd : decide (cf x y < 0) = false := decide_eq_false hc
          go_wp2_with fail
          go_quiet (first | (go_at_call 48; exact HC.out _))
          have HS := hid (HT.out.2 hc nq)
          clear HT HC c1 c2 hc hd
          generalize wr.drewN nq = W1 at HS ⊢
          go_wp2
          go_meet
          exact ⟨i, by omega, by omega, rfl, HS.out.mono (by rintro f ⟨⟨h1, h2⟩, h3⟩; exact ⟨h1, h2, Or.inr h3⟩)⟩
      · have hz : decide ((i : Int) ≤ (b : Int) - 1) = false := decide_eq_false (by omega)
        have hgz : ¬ (i : Int) ≤ (b : Int) - 1 := by omega
        have HS1 := hid HS.out.drew
        clear HS
        go_wp2_with fail
        go_big_region_o
        generalize wr.drew = W1 at HS1 ⊢
        have HS := HS1
        clear HS1
        go_wp2
        go_meet
        exact ⟨i, by omega, by omega, rfl, HS.out.mono (by rintro f ⟨h1, h2⟩; exact ⟨h1, h2, Or.inl (by omega)⟩)⟩
  case rest =>
    clear HS
    obtain ⟨i, hi1, hi2, rfl, HS⟩ := hcut
    go_upto_block 2 with fail
    go_cut [13] (fun v wx => ∃ j : Nat, a ≤ j ∧ j + 1 ≤ b ∧ v = .int .i64 j ∧ Hid (SRP w0 g cap l0 K wx (fun f => Win a b f0 f ∧ Par a b i j f ∧ (b - 1 < i ∨ f a < f i) ∧ (j < i ∨ f j < f a))))
    case first =>
      go_wp2_with fail
      go_loopw [13] (fun v wx => ∃ j : Nat, a ≤ j ∧ j + 1 ≤ b ∧ v = .int .i64 j ∧ Hid (SRP w0 g cap l0 K wx (fun f => Win a b f0 f ∧ Par a b i j f ∧ (b - 1 < i ∨ f a < f i)))) (fun v _ => (intOf v).toNat)
      case atStart => exact ⟨b - 1, by omega, by omega, by first | rfl | go_num | (congr 1; omega), HS.out⟩
      case round =>
        clear HS
        obtain ⟨j, hj1, hj2, rfl, HS⟩ := hrel
        by_cases hg : i ≤ j
        · obtain ⟨q, rfl⟩ : ∃ q, j = q + 1 := ⟨j - 1, by omega⟩
          have hgz : (i : Int) ≤ (q : Int) + 1 := by omega
          obtain ⟨x, y, c1, c2, HC, HT⟩ := HS.out.test HX.out (i := (q + 1)) (j := a) (by omega) (by omega) (by omega)
          clear HS
          by_cases hc : cf x y < 0
          · have hd : decide (cf x y < 0) = true := decide_eq_true hc
            go_wp2_with fail
            go_quiet (first | (go_at_call 48; exact HC.out _))
            have HS := hid (HT.out.1 hc nq)
            clear HT HC c1 c2 hc hd
            generalize wr.drewN nq = W1 at HS ⊢
            go_wp2
            go_meet
            exact ⟨q + 1, by omega, by omega, by first | rfl | go_num | (congr 1; omega), HS.out.mono (by rintro f ⟨⟨h1, h2, h4⟩, h3⟩; exact ⟨h1, h2, h4, Or.inr h3⟩)⟩
          · have hd : decide (cf x y < 0) = false := decide_eq_false hc
            go_wp2_with fail
            go_quiet (first | (go_at_call 48; exact HC.out _))
            have HS := hid (HT.out.2 hc nq)
            clear HT HC c1 c2 hc hd
            generalize wr.drewN nq = W1 at HS ⊢
            go_wp2
            go_round
            case rel => exact ⟨q, by omega, by omega, by first | rfl | go_num | (congr 1; omega), HS.out.mono (by rintro f ⟨⟨h1, h2, h4⟩, h3⟩; exact ⟨h1, h2.down h3, h4⟩)⟩
            case measure => simp [intOf] <;> omega
        · have hz : decide ((i : Int) ≤ (j : Int)) = false := decide_eq_false (by omega)
          have hgz : ¬ (i : Int) ≤ (j : Int) := by omega
          have HS1 := hid HS.out.drew
          clear HS
          go_wp2_with fail
          go_big_region_o
          generalize wr.drew = W1 at HS1 ⊢
          have HS := HS1
          clear HS1
          go_wp2
          go_meet
          exact ⟨j, by omega, by omega, rfl, HS.out.mono (by rintro f ⟨h1, h2, h4⟩; exact ⟨h1, h2, h4, Or.inl (by omega)⟩)⟩
    case rest =>
      clear HS
      obtain ⟨j, hj1, hj2, rfl, HS⟩ := hcut
      by_cases hij : j < i
      · have hijz : (j : Int) < (i : Int) := by omega
        have hz : decide ((i : Int) > (j : Int)) = true := decide_eq_true (by omega)
        go_wp2_with fail
        obtain ⟨x', y', u, d1, d2, f1, f2, d3, HE⟩ := HS.out.swaps (i := j) (j := a) (by omega) (by omega)
        clear HS
        go_wp2_with fail
        go_big_region_o
        generalize ((wc.setCell ⟨g, j, none⟩ (.int .i64 y')).setCell ⟨g, a, none⟩ (.int .i64 x')).drew = W5 at HE ⊢
        have HS := HE
        clear HE d1 d2 d3 f1 f2
        go_wp2
        go_ret2
        exact ⟨j, _, rfl, by omega, by omega, HS.out.mono (by rintro f ⟨f', ⟨h1, h2, h3, h4⟩, rfl⟩; exact ⟨h1.sw (by omega) (by omega) (by omega) (by omega), h2.stop (by omega) (by omega)⟩)⟩
      · have hijz : ¬ (j : Int) < (i : Int) := by omega
        obtain ⟨q, rfl⟩ : ∃ q, j = q + 1 := ⟨j - 1, by omega⟩
        have hz : decide ((i : Int) > (q : Int) + 1) = false := decide_eq_false (by omega)
        go_wp2_with fail
        obtain ⟨x', y', u, d1, d2, f1, f2, d3, HE⟩ := HS.out.swaps (i := i) (j := (q + 1)) (by omega) (by omega)
        clear HS
        go_wp2_with fail
        go_big_region_o
        generalize ((wc.setCell ⟨g, i, none⟩ (.int .i64 y')).setCell ⟨g, (q + 1), none⟩ (.int .i64 x')).drew = W5 at HE ⊢
        have HS := HE
        clear HE d1 d2 d3 f1 f2
        go_wp2_with fail
        go_loopw [12, 13] (fun v v' wx => ∃ i j : Nat, a + 1 ≤ i ∧ i ≤ b ∧ a ≤ j ∧ j + 1 ≤ b ∧ v = .int .i64 i ∧ v' = .int .i64 j ∧ Hid (SRP w0 g cap l0 K wx (fun f => Win a b f0 f ∧ Par a b i j f))) (fun v v' _ => b + 1 - (intOf v).toNat + (intOf v').toNat)
        case atStart => exact ⟨i + 1, q, by omega, by omega, by omega, by omega, by first | rfl | go_num | (congr 1; omega), by first | rfl | go_num | (congr 1; omega), HS.out.mono (by rintro f ⟨f', ⟨h1, h2, h3, h4⟩, rfl⟩; exact ⟨h1.sw (by omega) (by omega) (by omega) (by omega), h2.turn (by omega) (by omega) (h4.resolve_left (by omega)) (h3.resolve_left (by omega))⟩)⟩
        case round =>
          clear HS
          obtain ⟨i0, j0, hi01, hi02, hj01, hj02, rfl, rfl, HS⟩ := hrel
          go_upto_block 6 with fail
          go_cut [12] (fun v wx => ∃ i : Nat, i0 ≤ i ∧ i ≤ b ∧ v = .int .i64 i ∧ Hid (SRP w0 g cap l0 K wx (fun f => Win a b f0 f ∧ Par a b i (j0) f ∧ (j0 < i ∨ f a < f i))))
          case first =>
            go_wp2_with fail
            go_loopw [12] (fun v wx => ∃ i : Nat, i0 ≤ i ∧ i ≤ b ∧ v = .int .i64 i ∧ Hid (SRP w0 g cap l0 K wx (fun f => Win a b f0 f ∧ Par a b i (j0) f))) (fun v _ => b + 1 - (intOf v).toNat)
            case atStart => exact ⟨i0, by omega, by omega, by first | rfl | go_num | (congr 1; omega), HS.out.mono (fun f h => h)⟩
            case round =>
              clear HS
              obtain ⟨i, hi1, hi2, rfl, HS⟩ := hrel
              by_cases hg : i ≤ j0
              · have hgz : (i : Int) ≤ (j0 : Int) := by omega
                obtain ⟨x, y, c1, c2, HC, HT⟩ := HS.out.test HX.out (i := i) (j := a) (by omega) (by omega) (by omega)
                clear HS
                by_cases hc : cf x y < 0
                · have hd : decide (cf x y < 0) = true := decide_eq_true hc
                  go_wp2_with fail
                  go_quiet (first | (go_at_call 48; exact HC.out _))
                  have HS := hid (HT.out.1 hc nq)
                  clear HT HC c1 c2 hc hd
                  generalize wr.drewN nq = W1 at HS ⊢
                  go_wp2
                  go_round
                  case rel => exact ⟨i + 1, by omega, by omega, by first | rfl | go_num | (congr 1; omega), HS.out.mono (by rintro f ⟨⟨h1, h2⟩, h3⟩; exact ⟨h1, h2.up h3⟩)⟩
                  case measure => simp [intOf] <;> omega
                · have hd : decide (cf x y < 0) = false := decide_eq_false hc
                  go_wp2_with fail
                  go_quiet (first | (go_at_call 48; exact HC.out _))
                  have HS := hid (HT.out.2 hc nq)
                  clear HT HC c1 c2 hc hd
                  generalize wr.drewN nq = W1 at HS ⊢
                  go_wp2
                  go_meet
                  exact ⟨i, by omega, by omega, rfl, HS.out.mono (by rintro f ⟨⟨h1, h2⟩, h3⟩; exact ⟨h1, h2, Or.inr h3⟩)⟩
              · have hz : decide ((i : Int) ≤ (j0 : Int)) = false := decide_eq_false (by omega)
                have hgz : ¬ (i : Int) ≤ (j0 : Int) := by omega
                have HS1 := hid HS.out.drew
                clear HS
                go_wp2_with fail
                go_big_region_o
                generalize wr.drew = W1 at HS1 ⊢
                have HS := HS1
                clear HS1
                go_wp2
                go_meet
                exact ⟨i, by omega, by omega, rfl, HS.out.mono (by rintro f ⟨h1, h2⟩; exact ⟨h1, h2, Or.inl (by omega)⟩)⟩
          case rest =>
            clear HS
            obtain ⟨i, hi1, hi2, rfl, HS⟩ := hcut
            go_upto_block 8 with fail
            go_cut [13] (fun v wx => ∃ j : Nat, a ≤ j ∧ j + 1 ≤ j0 + 1 ∧ v = .int .i64 j ∧ Hid (SRP w0 g cap l0 K wx (fun f => Win a b f0 f ∧ Par a b i j f ∧ (j0 < i ∨ f a < f i) ∧ (j < i ∨ f j < f a))))
            case first =>
              go_wp2_with fail
              go_loopw [13] (fun v wx => ∃ j : Nat, a ≤ j ∧ j + 1 ≤ j0 + 1 ∧ v = .int .i64 j ∧ Hid (SRP w0 g cap l0 K wx (fun f => Win a b f0 f ∧ Par a b i j f ∧ (j0 < i ∨ f a < f i)))) (fun v _ => (intOf v).toNat)
              case atStart => exact ⟨j0, by omega, by omega, by first | rfl | go_num | (congr 1; omega), HS.out⟩
              case round =>
                clear HS
                obtain ⟨j, hj1, hj2, rfl, HS⟩ := hrel
                by_cases hg : i ≤ j
                · obtain ⟨q, rfl⟩ : ∃ q, j = q + 1 := ⟨j - 1, by omega⟩
                  have hgz : (i : Int) ≤ (q : Int) + 1 := by omega
                  obtain ⟨x, y, c1, c2, HC, HT⟩ := HS.out.test HX.out (i := (q + 1)) (j := a) (by omega) (by omega) (by omega)
                  clear HS
                  by_cases hc : cf x y < 0
                  · have hd : decide (cf x y < 0) = true := decide_eq_true hc
                    go_wp2_with fail
                    go_quiet (first | (go_at_call 48; exact HC.out _))
                    have HS := hid (HT.out.1 hc nq)
                    clear HT HC c1 c2 hc hd
                    generalize wr.drewN nq = W1 at HS ⊢
                    go_wp2
                    go_meet
                    exact ⟨q + 1, by omega, by omega, by first | rfl | go_num | (congr 1; omega), HS.out.mono (by rintro f ⟨⟨h1, h2, h4⟩, h3⟩; exact ⟨h1, h2, h4, Or.inr h3⟩)⟩
                  · have hd : decide (cf x y < 0) = false := decide_eq_false hc
                    go_wp2_with fail
                    go_quiet (first | (go_at_call 48; exact HC.out _))
                    have HS := hid (HT.out.2 hc nq)
                    clear HT HC c1 c2 hc hd
                    generalize wr.drewN nq = W1 at HS ⊢
                    go_wp2
                    go_round
                    case rel => exact ⟨q, by omega, by omega, by first | rfl | go_num | (congr 1; omega), HS.out.mono (by rintro f ⟨⟨h1, h2, h4⟩, h3⟩; exact ⟨h1, h2.down h3, h4⟩)⟩
                    case measure => simp [intOf] <;> omega
                · have hz : decide ((i : Int) ≤ (j : Int)) = false := decide_eq_false (by omega)
                  have hgz : ¬ (i : Int) ≤ (j : Int) := by omega
                  have HS1 := hid HS.out.drew
                  clear HS
                  go_wp2_with fail
                  go_big_region_o
                  generalize wr.drew = W1 at HS1 ⊢
                  have HS := HS1
                  clear HS1
                  go_wp2
                  go_meet
                  exact ⟨j, by omega, by omega, rfl, HS.out.mono (by rintro f ⟨h1, h2, h4⟩; exact ⟨h1, h2, h4, Or.inl (by omega)⟩)⟩
            case rest =>
              clear HS
              obtain ⟨j, hj1, hj2, rfl, HS⟩ := hcut
              by_cases hij : j < i
              · have hijz : (j : Int) < (i : Int) := by omega
                have hz : decide ((i : Int) > (j : Int)) = true := decide_eq_true (by omega)
                go_wp2_with fail
                obtain ⟨x', y', u, d1, d2, f1, f2, d3, HE⟩ := HS.out.swaps (i := j) (j := a) (by omega) (by omega)
                clear HS
                go_wp2_with fail
                go_big_region_o
                generalize ((wc.setCell ⟨g, j, none⟩ (.int .i64 y')).setCell ⟨g, a, none⟩ (.int .i64 x')).drew = W5 at HE ⊢
                have HS := HE
                clear HE d1 d2 d3 f1 f2
                go_wp2
                go_ret2
                exact ⟨j, _, rfl, by omega, by omega, HS.out.mono (by rintro f ⟨f', ⟨h1, h2, h3, h4⟩, rfl⟩; exact ⟨h1.sw (by omega) (by omega) (by omega) (by omega), h2.stop (by omega) (by omega)⟩)⟩
              · have hijz : ¬ (j : Int) < (i : Int) := by omega
                obtain ⟨q, rfl⟩ : ∃ q, j = q + 1 := ⟨j - 1, by omega⟩
                have hz : decide ((i : Int) > (q : Int) + 1) = false := decide_eq_false (by omega)
                go_wp2_with fail
                obtain ⟨x', y', u, d1, d2, f1, f2, d3, HE⟩ := HS.out.swaps (i := i) (j := (q + 1)) (by omega) (by omega)
                clear HS
                go_wp2_with fail
                go_big_region_o
                generalize ((wc.setCell ⟨g, i, none⟩ (.int .i64 y')).setCell ⟨g, (q + 1), none⟩ (.int .i64 x')).drew = W5 at HE ⊢
                have HS := HE
                clear HE d1 d2 d3 f1 f2
                go_wp2
                go_round
                case rel => exact ⟨i + 1, q, by omega, by omega, by omega, by omega, by first | rfl | go_num | (congr 1; omega), by first | rfl | go_num | (congr 1; omega), HS.out.mono (by rintro f ⟨f', ⟨h1, h2, h3, h4⟩, rfl⟩; exact ⟨h1.sw (by omega) (by omega) (by omega) (by omega), h2.turn (by omega) (by omega) (h4.resolve_left (by omega)) (h3.resolve_left (by omega))⟩)⟩
                case measure => simp [intOf] <;> omega
end Go.Proofs.Ytnfamebihpnjlaa
