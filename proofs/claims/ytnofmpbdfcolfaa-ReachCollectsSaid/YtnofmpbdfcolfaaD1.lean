/- The sort of nothing; toFinalise where nothing is to be finalised. -/
import Derived.Test.YtnofmpbdfcolfaaC1
import Derived.Lib.Small
import Derived.Lib.Walk
import Derived.Lib.BitFns
import Derived.Lib.ItoaNum
import Derived.Laws.Closers25b
namespace Go.Proofs.Ytnofmpbdfcolfaa
open Go.RowKit Go.Shelf
set_option linter.unusedSimpArgs false
set_option linter.unusedVariables false

set_option maxRecDepth 100000 in
set_option maxHeartbeats 1000000 in
theorem Len64_one (x : Int) (w : World) (h0 : 0 ≤ x) (h1 : x ≤ 255) :
    Calls Try.prog 76 #[.int .u64 x] w fun e w' => (∃ n : Int, e = .returned (.int .i64 n)) ∧ w = w' := by
  have l1 := Lib.len8_of x h0 h1
  have l2 := Lib.bitLen_le8' x h0 h1
  generalize Lib.bitLen x.toNat = b at l1 l2
  go_enter Try.func76, Try.ntmps76
  go_wp2
  all_goals go_ret
  all_goals exact ⟨⟨_, rfl⟩, rfl⟩
theorem Len64_zero (w : World) : Calls Try.prog 76 #[.int .u64 0] w fun e w' => (∃ n : Int, e = .returned (.int .i64 n)) ∧ w = w' := Len64_one 0 w (by decide) (by decide)
set_option maxRecDepth 100000 in
set_option maxHeartbeats 600000 in
theorem Len_zero (w : World) : Calls Try.prog 62 #[.int .u64 0] w fun e w' => (∃ n : Int, e = .returned (.int .i64 n)) ∧ w = w' := by
  go_enter Try.func62, Try.ntmps62
  go_wp2_with (go_at_call 76; refine (Len64_zero _).mono ?_; rintro e w' ⟨⟨n, rfl⟩, rfl⟩)
  go_ret
  exact ⟨⟨_, rfl⟩, rfl⟩
set_option maxRecDepth 100000 in
set_option maxHeartbeats 600000 in
theorem ins_zero (v c : Value) (w : World) : Calls Try.prog 67 #[v, .int .i64 0, .int .i64 0, c] w fun e w' => (∃ x, e = .returned x) ∧ w = w' := by
  go_enter Try.func67, Try.ntmps67
  go_wp2_with fail
  go_loopw [8] (fun i wr => i = .int .i64 1 ∧ w = wr) (fun _ _ => 0)
  case atStart => exact ⟨rfl, rfl⟩
  case round =>
    obtain ⟨rfl, rfl⟩ := hrel
    go_wp2
    go_end0
    exact ⟨⟨_, rfl⟩, rfl⟩
set_option maxRecDepth 100000 in
set_option maxHeartbeats 600000 in
theorem pdq_zero (v c : Value) (l : Int) (w : World) : Calls Try.prog 61 #[v, .int .i64 0, .int .i64 0, .int .i64 l, c] w fun e w' => (∃ x, e = .returned x) ∧ w = w' := by
  go_enter Try.func61, Try.ntmps61
  go_wp2_with fail
  go_loopw [1, 2] (fun a b wr => a = .int .i64 0 ∧ b = .int .i64 0 ∧ w = wr) (fun _ _ _ => 0)
  case atStart => exact ⟨rfl, rfl, rfl⟩
  case round =>
    obtain ⟨rfl, rfl, rfl⟩ := hrel
    go_wp2_with fail
    go_at_call 67
    refine (ins_zero _ _ _).mono ?_
    rintro e w' ⟨⟨x, rfl⟩, rfl⟩
    go_wp2
    refine bodyPost_ret (results_none rfl _ _ _) rfl ⟨⟨_, rfl⟩, rfl⟩
set_option maxRecDepth 100000 in
set_option maxHeartbeats 600000 in
theorem SortFunc_zero (c : Value) (w : World) : Calls Try.prog 47 #[.slice none 0 0, c] w fun e w' => (∃ x, e = .returned x) ∧ w = w' := by
  go_enter Try.func47, Try.ntmps47
  go_wp2_with fail
  go_at_call 62
  refine (Len_zero _).mono ?_
  rintro e w' ⟨⟨n, rfl⟩, rfl⟩
  go_wp2_with fail
  go_at_call 61
  refine (pdq_zero _ _ _ _).mono ?_
  rintro e w' ⟨⟨x, rfl⟩, rfl⟩
  go_wp2
  go_end0
  exact ⟨⟨_, rfl⟩, rfl⟩

set_option maxRecDepth 20000 in
set_option maxHeartbeats 600000 in
theorem toFinalise_zero {w : World} {tv nv : Value} {T : List Th} {l : List Bool} (hT : RdT w tv T) (hn : T.length ≤ 100) (hl : l.length = T.length) (hN : RdB w nv l) (h0 : ∀ i (hi : i < T.length), ¬ 0 < T[i].fin) :
    Calls Try.prog 36 #[tv, nv] w fun e w' => e = .returned (.slice none 0 0) ∧ Kept No w w' := by
  have HT : Hid (RdT w tv T) := hT
  have H0 : Hid (∀ i (hi : i < T.length), ¬ 0 < T[i].fin) := h0
  obtain ⟨ta, tc, rfl, _⟩ := hT
  obtain ⟨nb, rfl, _⟩ := hN
  have HTh : Hid (∀ W', Kept No w W' → ∀ j (hj : j < T.length), ∃ b off svo svl svc, ta = some ⟨b, off, none⟩ ∧ W'.cell? ⟨b, off + j * 5, none⟩ = some (.int .i64 T[j].kind) ∧ W'.cell? ⟨b, off + j * 5 + 1, none⟩ = some (.int .i64 T[j].weak) ∧
    W'.cell? ⟨b, off + j * 5 + 2, none⟩ = some (.int .i64 T[j].arr) ∧ W'.cell? ⟨b, off + j * 5 + 3, none⟩ = some (.slice svo svl svc) ∧ W'.cell? ⟨b, off + j * 5 + 4, none⟩ = some (.int .i64 T[j].fin)) := fun W' ht j hj => by
    obtain ⟨ao', cap', e, h⟩ := HT.out.no ht
    injection e with e1 e2 e3
    subst e1
    obtain ⟨b, off, sv, e1, h1, h2, h3, h4, h5, ⟨sa, sc, rfl, _⟩⟩ := h j hj
    exact ⟨b, off, sa, _, sc, e1, h1, h2, h3, h4, h5⟩
  have HK : Hid (Kept No w (w.alloc (.cells #[.slice ta T.length tc] 22))) := (Kept.refl _ _).alloc _
  clear h0
  go_enter Try.func36, Try.ntmps36
  go_wp2_with fail
  go_loopw [10, 5] (fun i l wr => ∃ j : Nat, j ≤ T.length ∧ i = .int .i64 j ∧ l = .slice none 0 0 ∧ Hid (Kept No w wr)) (fun i _ _ => T.length - (intOf i).toNat)
  case atStart => exact ⟨0, by omega, rfl, rfl, HK.out⟩
  case round =>
    obtain ⟨j, hj, rfl, rfl, HJ⟩ := hrel
    by_cases hlt : j < T.length
    · have k1 : (j : Int) < (T.length : Int) := by omega
      obtain ⟨b, off, svo, svl, svc, rfl, r0, r1, r2, r3, r4⟩ := HTh.out wr HJ.out j hlt
      have hf := H0.out j hlt
      have bf : decide (0 < T[j].fin) = false := decide_eq_false (by omega)
      have HA : Hid (∀ o, Kept No w (wr.alloc o)) := fun o => HJ.out.trans ((Kept.refl _ _).alloc _)
      clear HJ
      generalize T[j].fin = ff at r4 hf bf
      generalize T[j].kind = kk at r0
      generalize T[j].weak = kw at r1
      generalize T[j].arr = ka at r2
      go_wp2
      go_roundw
      case rel => exact ⟨j + 1, by omega, by go_num, rfl, HA.out _⟩
      case measure => simp [intOf]; omega
    · have k1 : ¬ (j : Int) < (T.length : Int) := by omega
      go_wp2_with fail
      go_at_call 47
      refine (SortFunc_zero _ _).mono ?_
      rintro e w' ⟨⟨x, rfl⟩, rfl⟩
      go_wp2
      go_ret
      exact ⟨rfl, HJ.out⟩
end Go.Proofs.Ytnofmpbdfcolfaa
