/- slices.heapSortCmpFunc sorts. -/
import Derived.Test.YtnfamebihpnjlaaK2
namespace Go.Proofs.Ytnfamebihpnjlaa
open Go.RowKit
set_option linter.unusedSimpArgs false
set_option linter.unusedVariables false

set_option maxRecDepth 20000 in
set_option maxHeartbeats 4000000 in
theorem heap_srt {w0 w : World} {g cap A : Nat} {l0 : List Int} {cf : Int → Int → Int} {K : Int → Int} {f0 : Nat → Int} (X : CtxK w0 g A l0 cf K) (S : SRP w0 g cap l0 K w (fun f => f = f0)) {a b : Nat} (hab : a < b) (hb : b ≤ l0.length) :
    Calls Try.prog 58 #[.slice (some ⟨g, 0, none⟩) l0.length cap, .int .i64 a, .int .i64 b, cv A] w fun e w' => e = .returned (.tuple #[]) ∧ SRP w0 g cap l0 K w' (fun f => Win a b f0 f ∧ Srt a b f) := by
  obtain ⟨m, rfl⟩ : ∃ m, b = a + m := ⟨b - a, by omega⟩
  have e0 : ((a + m : Nat) : Int) - (a : Int) = (m : Int) := by omega
  have e1 : Int.tdiv ((m : Int) - 1) 2 = (((m - 1) / 2 : Nat) : Int) := by
    have e : (m : Int) - 1 = ((m - 1 : Nat) : Int) := by omega
    rw [e]; rfl
  obtain ⟨mh, hmh⟩ : ∃ mh, mh = (m - 1) / 2 := ⟨_, rfl⟩
  rw [← hmh] at e1
  obtain ⟨B, hB, HB⟩ : ∃ B : Int, ((a + m : Nat) : Int) = B ∧ Hid (B = (a : Int) + (m : Int)) := ⟨_, rfl, by show _ = _; omega⟩
  rw [hB] at e0 ⊢
  have mixed : Try.prog.follows .mixedOrders = true := by kernel_rfl
  have hlen := X.len
  have HX : Hid (CtxK w0 g A l0 cf K) := X
  have HS : Hid (SRP w0 g cap l0 K w (fun f => f = f0)) := S
  clear X S
  go_enter Try.func58, Try.ntmps58
  go_wp2_with fail
  go_loopw [11] (fun vi wr => ∃ k : Nat, k ≤ m + 1 ∧ vi = .int .i64 ((k : Int) - 1) ∧ Hid (SRP w0 g cap l0 K wr (fun f => Win a (a + m) f0 f ∧ Hp a k m f))) (fun vi _ => (intOf vi + 1).toNat)
  case atStart => exact ⟨mh + 1, by omega, by go_num, HS.out.mono (by rintro f rfl; exact ⟨Win.refl _ _ _, Hp.none (by omega)⟩)⟩
  case round =>
    clear HS
    obtain ⟨k, hk, rfl, HS⟩ := hrel
    by_cases hk1 : 1 ≤ k
    · obtain ⟨i, rfl⟩ : ∃ i, k = i + 1 := ⟨k - 1, by omega⟩
      have e2 : ((i + 1 : Nat) : Int) - 1 = (i : Int) := by omega
      rw [e2]
      obtain ⟨fa, HPF, HA⟩ := HS.out.at
      have HCL := hid (sift_srt HX.out HA.out (lo := i) (hi := m) (a := a) (by omega) (by omega) (HpX.start HPF.out.2))
      clear HS HA
      go_wp2_with fail
      refine Calls.mono HCL.out ?_
      rintro e W1 ⟨rfl, hs⟩
      have HS := hid hs
      clear hs HCL
      go_wp2
      go_round
      case rel => exact ⟨i, by omega, by go_num, HS.out.mono (by rintro f ⟨h1, h2⟩; exact ⟨HPF.out.1.trans h1, h2⟩)⟩
      case measure => simp [intOf] <;> omega
    · obtain rfl : k = 0 := by omega
      rw [show ((0 : Nat) : Int) - 1 = -1 from rfl]
      go_wp2_with fail
      go_loopw [12] (fun vi wr => ∃ k : Nat, k ≤ m ∧ vi = .int .i64 ((k : Int) - 1) ∧ Hid (SRP w0 g cap l0 K wr (fun f => Win a (a + m) f0 f ∧ HS2 a m k f))) (fun vi _ => (intOf vi + 1).toNat)
      case atStart => exact ⟨m, by omega, by go_num, HS.out.mono (by rintro f ⟨h1, h2⟩; exact ⟨h1, h2, srt_small (by omega), fun p q _ _ _ => by omega⟩)⟩
      case round =>
        clear HS
        obtain ⟨k, hk, rfl, HS⟩ := hrel
        by_cases hk1 : 1 ≤ k
        · obtain ⟨i, rfl⟩ : ∃ i, k = i + 1 := ⟨k - 1, by omega⟩
          have e2 : ((i + 1 : Nat) : Int) - 1 = (i : Int) := by omega
          rw [e2]
          have k1 : (a : Int) + (i : Int) < (l0.length : Int) := by omega
          have k2 : (a : Int) < (l0.length : Int) := by omega
          obtain ⟨x', y', u, d1, d2, f1, f2, d3, HE⟩ := HS.out.swaps (i := a) (j := a + i) (by omega) (by omega)
          clear HS
          go_wp2_with fail
          go_big_region_o
          generalize ((wr.setCell ⟨g, a, none⟩ (.int .i64 y')).setCell ⟨g, a + i, none⟩ (.int .i64 x')).drew = W1 at HE ⊢
          have HS := HE
          clear HE d1 d2 d3 f1 f2
          have HS0 := hid (HS.out.mono (Q := fun f => Win a (a + m) f0 f ∧ HS3 a m i f) (by rintro f ⟨f', ⟨h1, h2⟩, rfl⟩; exact ⟨h1.sw (by omega) (by omega) (by omega) (by omega), h2.swap (by omega)⟩))
          clear HS
          have HS := HS0
          clear HS0
          obtain ⟨fa, HPF, HA⟩ := HS.out.at
          have HCL := hid (sift_srt HX.out HA.out (lo := 0) (hi := i) (a := a) (by omega) (by omega) HPF.out.2.1)
          clear HS HA
          go_wp2_with fail
          refine Calls.mono HCL.out ?_
          rintro e W2 ⟨rfl, hs⟩
          have HS := hid hs
          clear hs HCL
          go_wp2
          go_round
          case rel => exact ⟨i, by omega, by go_num, HS.out.mono (by rintro f ⟨h1, h2⟩; exact ⟨HPF.out.1.trans (h1.wide (by omega) (by omega)), HPF.out.2.sift (by omega) h1 h2⟩)⟩
          case measure => simp [intOf] <;> omega
        · obtain rfl : k = 0 := by omega
          go_wp2
          first | (go_end0; exact ⟨rfl, HS.out.mono (by rintro f ⟨h1, h2⟩; exact ⟨h1, h2.2.1⟩)⟩) | (refine bodyPost_ret (results_none rfl _ _ _) rfl ?_; exact ⟨rfl, HS.out.mono (by rintro f ⟨h1, h2⟩; exact ⟨h1, h2.2.1⟩)⟩)
end Go.Proofs.Ytnfamebihpnjlaa
