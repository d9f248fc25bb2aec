/- The document's Unpack. -/
import Derived.Test.YtnmchcanijkggaaO5
namespace Go.Proofs.Ytnmchcanijkggaa
open Go.RowKit

set_option maxHeartbeats 4000000 in
theorem RUnpack_any (a b : Int) (w : World) (a1 : a ≤ 9223372036854775807) (b1 : b ≤ 9223372036854775807) :
    Calls Try.prog 21 #[.int .i64 a, .int .i64 b] w fun e w' => e = .returned (.tuple #[AH (unH a b), .int .i64 (unE a b)]) ∧ Below w.heap.size w w' := by
  by_cases ha : a < 0
  · have hu : unB a b = false := by rw [un_ref]; simp [show ¬ 0 ≤ a by omega]
    rw [show unH a b = h0 by simp [unH, hu], show unE a b = 6 by simp [unE, hu]]
    go_enter Try.func21, Try.ntmps21
    go_wp2
    exact bodyPost_ret (v := .tuple #[AH h0, .int .i64 6]) (by simp [results, Try.results21, go_sem, h0]) rfl ⟨rfl, (Below.refl _ _).alloc (Nat.le_refl _) _⟩
  by_cases hb : b < 0
  · have hu : unB a b = false := by rw [un_ref]; simp [show ¬ 0 ≤ b by omega]
    rw [show unH a b = h0 by simp [unH, hu], show unE a b = 6 by simp [unE, hu]]
    go_enter Try.func21, Try.ntmps21
    go_wp2
    exact bodyPost_ret (v := .tuple #[AH h0, .int .i64 6]) (by simp [results, Try.results21, go_sem, h0]) rfl ⟨rfl, (Below.refl _ _).alloc (Nat.le_refl _) _⟩
  have t1 : wrap64 (a.tdiv 16) = a / 16 := by rw [Int.tdiv_eq_ediv_of_nonneg (by omega)]; unfold wrap64; omega
  have t2 : (a / 16).tmod 4 = a / 16 % 4 := Int.tmod_eq_emod_of_nonneg (by omega)
  have t3 : wrap64 (a.tdiv 64) = a / 64 := by rw [Int.tdiv_eq_ediv_of_nonneg (by omega)]; unfold wrap64; omega
  have t4 : (a / 64).tmod 8 = a / 64 % 8 := Int.tmod_eq_emod_of_nonneg (by omega)
  have t5 : wrap64 (a.tdiv 512) = a / 512 := by rw [Int.tdiv_eq_ediv_of_nonneg (by omega)]; unfold wrap64; omega
  have t6 : (a / 512).tmod 4 = a / 512 % 4 := Int.tmod_eq_emod_of_nonneg (by omega)
  have t7 : wrap64 (a.tdiv 2048) = a / 2048 := by rw [Int.tdiv_eq_ediv_of_nonneg (by omega)]; unfold wrap64; omega
  have t8 : wrap64 (b.tdiv 8192) = b / 8192 := by rw [Int.tdiv_eq_ediv_of_nonneg (by omega)]; unfold wrap64; omega
  have t9 : (b / 8192).tmod 8192 = b / 8192 % 8192 := Int.tmod_eq_emod_of_nonneg (by omega)
  have t10 : wrap64 (b.tdiv 67108864) = b / 67108864 := by rw [Int.tdiv_eq_ediv_of_nonneg (by omega)]; unfold wrap64; omega
  have hu : unB a b = decide (rightE (hdR a b) = 0) := by rw [un_ref]; simp [show 0 ≤ a by omega, show 0 ≤ b by omega]
  have HR : Hid (∀ w, Calls Try.prog 13 #[AH (hdR a b)] w fun e w' => e = .returned (.int .i64 (rightE (hdR a b))) ∧ Below w.heap.size w w') := RRight_any _
  by_cases hr : rightE (hdR a b) = 0
  · have hu' : unB a b = true := by rw [hu]; simp [hr]
    rw [show unH a b = hdR a b by simp [unH, hu', un_eq hu'], show unE a b = 0 by simp [unE, hu']]
    clear hu hu'
    go_enter Try.func21, Try.ntmps21
    go_wp2_with fail
    refine (HR.out _).mono ?_
    rintro e w1 ⟨rfl, hb1⟩
    rw [hr]
    obtain ⟨hc, hf⟩ := bcell hb1
    have HB : Hid (Below w.heap.size w w1) := (((Below.refl _ _).alloc (Nat.le_refl _) _).alloc (by simp) _).trans (hb1.mono (by simp; omega))
    have hz : w.heap.size + 1 < w1.heap.size := by have := hb1.size; simp at this; omega
    have HZ : Hid (Zero8 w.heap.size w1) := by
      refine ⟨?_, ?_, ?_, ?_, ?_, ?_, ?_, ?_, ?_, ?_, ?_, ?_, ?_, ?_, ?_, ?_⟩
      all_goals first | (rw [hc _ _ (by simp; omega)]; simp [go_sem]; done) | (rw [hf _ _ (by simp; omega)]; simp [go_sem]; done)
    clear hb1
    obtain ⟨z0, z1, z2, z3, z4, z5, z6, z7, f0, f1, f2, f3, f4, f5, f6, f7⟩ := HZ.out
    go_wp2
    exact bodyPost_ret (v := .tuple #[AH (hdR a b), .int .i64 0]) (by simp [results, Try.results21, go_sem, z0, z1, z2, z3, z4, z5, z6, z7, hdR]) rfl ⟨rfl, set8_below HB.out (Nat.le_refl _) _ _ _ _ _ _ _ _⟩
  · have hu' : unB a b = false := by rw [hu]; simp [hr]
    rw [show unH a b = h0 by simp [unH, hu'], show unE a b = 6 by simp [unE, hu']]
    have hr' : (rightE (hdR a b) != 0) = true := by simp [hr]
    clear hu hu' hr
    go_enter Try.func21, Try.ntmps21
    go_wp2_with fail
    refine (HR.out _).mono ?_
    rintro e w1 ⟨rfl, hb1⟩
    obtain ⟨hc, hf⟩ := bcell hb1
    have HB : Hid (Below w.heap.size w w1) := (((Below.refl _ _).alloc (Nat.le_refl _) _).alloc (by simp) _).trans (hb1.mono (by simp; omega))
    have hz : w.heap.size + 1 < w1.heap.size := by have := hb1.size; simp at this; omega
    have HZ : Hid (Zero8 w.heap.size w1) := by
      refine ⟨?_, ?_, ?_, ?_, ?_, ?_, ?_, ?_, ?_, ?_, ?_, ?_, ?_, ?_, ?_, ?_⟩
      all_goals first | (rw [hc _ _ (by simp; omega)]; simp [go_sem]; done) | (rw [hf _ _ (by simp; omega)]; simp [go_sem]; done)
    clear hb1
    obtain ⟨z0, z1, z2, z3, z4, z5, z6, z7, f0, f1, f2, f3, f4, f5, f6, f7⟩ := HZ.out
    go_wp2
    exact bodyPost_ret (v := .tuple #[AH h0, .int .i64 6]) (by simp [results, Try.results21, go_sem, z0, z1, z2, z3, z4, z5, z6, z7, h0]) rfl ⟨rfl, set8_below HB.out (Nat.le_refl _) _ _ _ _ _ _ _ _⟩
end Go.Proofs.Ytnmchcanijkggaa
