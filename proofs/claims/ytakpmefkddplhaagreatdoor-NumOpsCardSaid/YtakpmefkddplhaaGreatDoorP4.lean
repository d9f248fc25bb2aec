/- The document's IDiv and Mod, and all cases of its operation together. -/
import Derived.Test.YtakpmefkddplhaaGreatDoorP3
namespace Go.Proofs.YtakpmefkddplhaaGreatDoor
open Go.RowKit

theorem wh_num {t n : Int} (h : isNum t n = true) : whE t n = 0 ∨ whE t n = 12 := by
  unfold whE; rw [h]; simp only [if_true]
  split
  · exact Or.inl rfl
  · split
    · exact Or.inl rfl
    · exact Or.inr rfl

theorem wh_bd {t n : Int} (h1 : -9223372036854775808 ≤ n) (h2 : n ≤ 9223372036854775807) : -9223372036854775808 ≤ whN t n ∧ whN t n ≤ 9223372036854775807 := by
  unfold whN
  split
  · split
    · exact ⟨h1, h2⟩
    · split
      · rename_i hw
        have hin : withinB (B n) = true := by unfold whB at hw; simp at hw; exact hw.1
        have f := within_facts hin
        exact ⟨f.2.1, f.2.2.1⟩
      · omega
  · omega

set_option maxHeartbeats 2000000 in
theorem ROp_div_5a (s m t n : Int) (w : World) (_h1 : -9223372036854775808 ≤ n) (_h2 : n ≤ 9223372036854775807) (i1 : isNum s m = true) (i2 : isNum t n = true) (e1 : whE s m = 12) :
    Calls Tryz.prog 27 #[.int .i64 5, AV s m, AV t n] w fun e w' => e = .returned (.tuple #[AV (dvT s m t n) (dvQ s m t n), .int .i64 (dvE s m t n)]) ∧ Below w.heap.size w w' := by
    have HV : Hid (dvT s m t n = 0 ∧ dvQ s m t n = 0 ∧ dvE s m t n = 12) := by
      have h : dvE s m t n = 12 := by rw [dv_1 (by omega)]; exact e1
      exact ⟨by unfold dvT; rw [h]; rfl, by unfold dvQ; rw [h]; rfl, h⟩
    have q1 : (whE s m != 0) = true := by rw [e1]; rfl
    clear e1
    clear _h1 _h2
    go_enter Tryz.func27, Tryz.ntmps27
    go_wp2_with fail
    refine (RIs_any _ _ _).mono ?_
    rintro e w1 ⟨rfl, hb⟩
    obtain ⟨hc, hf⟩ := bcell hb
    obtain ⟨z0, z1, z2⟩ := size3 hb
    have HB : Hid (Below w.heap.size w w1) := end3 hb
    go_wp2_with fail
    refine (RIs_any _ _ _).mono ?_
    rintro e w2 ⟨rfl, hb2⟩
    have c1 := cell_later hb2 (show w1.cell? ⟨w.heap.size, 0, none⟩ = some (.int .i64 s) by simp [go_sem, hc])
    have c2 := cell_later hb2 (show w1.cell? ⟨w.heap.size, 1, none⟩ = some (.int .i64 m) by simp [go_sem, hc])
    have c3 := cell_later hb2 (show w1.cell? ⟨w.heap.size + 1, 0, none⟩ = some (.int .i64 t) by simp [go_sem, hc])
    have c4 := cell_later hb2 (show w1.cell? ⟨w.heap.size + 1, 1, none⟩ = some (.int .i64 n) by simp [go_sem, hc])
    have c5 := cell_later hb2 (show w1.cell? ⟨w.heap.size + 1 + 1, 0, none⟩ = some (.int .i64 0) by simp [go_sem, hc])
    have c6 := cell_later hb2 (show w1.cell? ⟨w.heap.size + 1 + 1, 1, none⟩ = some (.int .i64 0) by simp [go_sem, hc])
    obtain ⟨_, hf2⟩ := bcell hb2
    have l5 : w2.frozen? ⟨w.heap.size + 1 + 1, 0, none⟩ = false := by rw [hf2 _ _ z2]; simp [go_sem, hf]
    have l6 : w2.frozen? ⟨w.heap.size + 1 + 1, 1, none⟩ = false := by rw [hf2 _ _ z2]; simp [go_sem, hf]
    have HB := chainB HB hb2
    have y2 : w.heap.size + 1 + 1 < w2.heap.size := by have := hb2.size; omega
    clear hc hf hf2 z0 z1 z2 hb hb2
    go_wp2_with fail
    refine (RWhole_any _ _ _).mono ?_
    rintro e w3 ⟨rfl, hb3⟩
    have HB := chainB HB hb3
    have c1 := cell_later hb3 c1
    have c2 := cell_later hb3 c2
    have c3 := cell_later hb3 c3
    have c4 := cell_later hb3 c4
    have c5 := cell_later hb3 c5
    have c6 := cell_later hb3 c6
    have l5 := fro_later hb3 l5 y2
    have l6 := fro_later hb3 l6 y2
    have y2 : w.heap.size + 1 + 1 < w3.heap.size := by have := hb3.size; omega
    clear hb3
    go_wp2_with fail
    refine (RWhole_any _ _ _).mono ?_
    rintro e w4 ⟨rfl, hb4⟩
    have HB := chainB HB hb4
    have c5 := cell_later hb4 c5
    have c6 := cell_later hb4 c6
    have l5 := fro_later hb4 l5 y2
    have l6 := fro_later hb4 l6 y2
    have y2 : w.heap.size + 1 + 1 < w4.heap.size := by have := hb4.size; omega
    clear hb4
    go_wp2
    refine bodyPost_ret (v := .tuple #[AV 0 0, .int .i64 12]) (by simp [results, Tryz.results27, go_sem, c5, c6]) rfl ⟨by rw [HV.out.1, HV.out.2.1, HV.out.2.2], ?_⟩
    exact (HB.out.setCell (by simp; omega) _).setCell (by simp; omega) _

set_option maxHeartbeats 2000000 in
theorem ROp_div_5b (s m t n : Int) (w : World) (_h1 : -9223372036854775808 ≤ n) (_h2 : n ≤ 9223372036854775807) (i1 : isNum s m = true) (i2 : isNum t n = true) (e1 : whE s m = 0) (e2 : whE t n = 12) :
    Calls Tryz.prog 27 #[.int .i64 5, AV s m, AV t n] w fun e w' => e = .returned (.tuple #[AV (dvT s m t n) (dvQ s m t n), .int .i64 (dvE s m t n)]) ∧ Below w.heap.size w w' := by
    have HV : Hid (dvT s m t n = 0 ∧ dvQ s m t n = 0 ∧ dvE s m t n = 12) := by
      have h : dvE s m t n = 12 := by rw [dv_2 e1 (by omega)]; exact e2
      exact ⟨by unfold dvT; rw [h]; rfl, by unfold dvQ; rw [h]; rfl, h⟩
    have q1 : (whE s m != 0) = false := by rw [e1]; rfl
    have q2 : (whE t n != 0) = true := by rw [e2]; rfl
    clear e1 e2
    clear _h1 _h2
    go_enter Tryz.func27, Tryz.ntmps27
    go_wp2_with fail
    refine (RIs_any _ _ _).mono ?_
    rintro e w1 ⟨rfl, hb⟩
    obtain ⟨hc, hf⟩ := bcell hb
    obtain ⟨z0, z1, z2⟩ := size3 hb
    have HB : Hid (Below w.heap.size w w1) := end3 hb
    go_wp2_with fail
    refine (RIs_any _ _ _).mono ?_
    rintro e w2 ⟨rfl, hb2⟩
    have c1 := cell_later hb2 (show w1.cell? ⟨w.heap.size, 0, none⟩ = some (.int .i64 s) by simp [go_sem, hc])
    have c2 := cell_later hb2 (show w1.cell? ⟨w.heap.size, 1, none⟩ = some (.int .i64 m) by simp [go_sem, hc])
    have c3 := cell_later hb2 (show w1.cell? ⟨w.heap.size + 1, 0, none⟩ = some (.int .i64 t) by simp [go_sem, hc])
    have c4 := cell_later hb2 (show w1.cell? ⟨w.heap.size + 1, 1, none⟩ = some (.int .i64 n) by simp [go_sem, hc])
    have c5 := cell_later hb2 (show w1.cell? ⟨w.heap.size + 1 + 1, 0, none⟩ = some (.int .i64 0) by simp [go_sem, hc])
    have c6 := cell_later hb2 (show w1.cell? ⟨w.heap.size + 1 + 1, 1, none⟩ = some (.int .i64 0) by simp [go_sem, hc])
    obtain ⟨_, hf2⟩ := bcell hb2
    have l5 : w2.frozen? ⟨w.heap.size + 1 + 1, 0, none⟩ = false := by rw [hf2 _ _ z2]; simp [go_sem, hf]
    have l6 : w2.frozen? ⟨w.heap.size + 1 + 1, 1, none⟩ = false := by rw [hf2 _ _ z2]; simp [go_sem, hf]
    have HB := chainB HB hb2
    have y2 : w.heap.size + 1 + 1 < w2.heap.size := by have := hb2.size; omega
    clear hc hf hf2 z0 z1 z2 hb hb2
    go_wp2_with fail
    refine (RWhole_any _ _ _).mono ?_
    rintro e w3 ⟨rfl, hb3⟩
    have HB := chainB HB hb3
    have c1 := cell_later hb3 c1
    have c2 := cell_later hb3 c2
    have c3 := cell_later hb3 c3
    have c4 := cell_later hb3 c4
    have c5 := cell_later hb3 c5
    have c6 := cell_later hb3 c6
    have l5 := fro_later hb3 l5 y2
    have l6 := fro_later hb3 l6 y2
    have y2 : w.heap.size + 1 + 1 < w3.heap.size := by have := hb3.size; omega
    clear hb3
    go_wp2_with fail
    refine (RWhole_any _ _ _).mono ?_
    rintro e w4 ⟨rfl, hb4⟩
    have HB := chainB HB hb4
    have c5 := cell_later hb4 c5
    have c6 := cell_later hb4 c6
    have l5 := fro_later hb4 l5 y2
    have l6 := fro_later hb4 l6 y2
    have y2 : w.heap.size + 1 + 1 < w4.heap.size := by have := hb4.size; omega
    clear hb4
    go_wp2
    refine bodyPost_ret (v := .tuple #[AV 0 0, .int .i64 12]) (by simp [results, Tryz.results27, go_sem, c5, c6]) rfl ⟨by rw [HV.out.1, HV.out.2.1, HV.out.2.2], ?_⟩
    exact (HB.out.setCell (by simp; omega) _).setCell (by simp; omega) _

set_option maxHeartbeats 2000000 in
theorem ROp_div_5c (s m t n : Int) (w : World) (_h1 : -9223372036854775808 ≤ n) (_h2 : n ≤ 9223372036854775807) (i1 : isNum s m = true) (i2 : isNum t n = true) (e1 : whE s m = 0) (e2 : whE t n = 0) (e3 : whN t n = 0) :
    Calls Tryz.prog 27 #[.int .i64 5, AV s m, AV t n] w fun e w' => e = .returned (.tuple #[AV (dvT s m t n) (dvQ s m t n), .int .i64 (dvE s m t n)]) ∧ Below w.heap.size w w' := by
    have HV : Hid (dvT s m t n = 0 ∧ dvQ s m t n = 0 ∧ dvE s m t n = 11) := by
      have h : dvE s m t n = 11 := dv_3 e1 e2 e3
      exact ⟨by unfold dvT; rw [h]; rfl, by unfold dvQ; rw [h]; rfl, h⟩
    have q1 : (whE s m != 0) = false := by rw [e1]; rfl
    have q2 : (whE t n != 0) = false := by rw [e2]; rfl
    have q3 : (whN t n == 0) = true := by rw [e3]; rfl
    clear e1 e2 e3
    clear _h1 _h2
    go_enter Tryz.func27, Tryz.ntmps27
    go_wp2_with fail
    refine (RIs_any _ _ _).mono ?_
    rintro e w1 ⟨rfl, hb⟩
    obtain ⟨hc, hf⟩ := bcell hb
    obtain ⟨z0, z1, z2⟩ := size3 hb
    have HB : Hid (Below w.heap.size w w1) := end3 hb
    go_wp2_with fail
    refine (RIs_any _ _ _).mono ?_
    rintro e w2 ⟨rfl, hb2⟩
    have c1 := cell_later hb2 (show w1.cell? ⟨w.heap.size, 0, none⟩ = some (.int .i64 s) by simp [go_sem, hc])
    have c2 := cell_later hb2 (show w1.cell? ⟨w.heap.size, 1, none⟩ = some (.int .i64 m) by simp [go_sem, hc])
    have c3 := cell_later hb2 (show w1.cell? ⟨w.heap.size + 1, 0, none⟩ = some (.int .i64 t) by simp [go_sem, hc])
    have c4 := cell_later hb2 (show w1.cell? ⟨w.heap.size + 1, 1, none⟩ = some (.int .i64 n) by simp [go_sem, hc])
    have c5 := cell_later hb2 (show w1.cell? ⟨w.heap.size + 1 + 1, 0, none⟩ = some (.int .i64 0) by simp [go_sem, hc])
    have c6 := cell_later hb2 (show w1.cell? ⟨w.heap.size + 1 + 1, 1, none⟩ = some (.int .i64 0) by simp [go_sem, hc])
    obtain ⟨_, hf2⟩ := bcell hb2
    have l5 : w2.frozen? ⟨w.heap.size + 1 + 1, 0, none⟩ = false := by rw [hf2 _ _ z2]; simp [go_sem, hf]
    have l6 : w2.frozen? ⟨w.heap.size + 1 + 1, 1, none⟩ = false := by rw [hf2 _ _ z2]; simp [go_sem, hf]
    have HB := chainB HB hb2
    have y2 : w.heap.size + 1 + 1 < w2.heap.size := by have := hb2.size; omega
    clear hc hf hf2 z0 z1 z2 hb hb2
    go_wp2_with fail
    refine (RWhole_any _ _ _).mono ?_
    rintro e w3 ⟨rfl, hb3⟩
    have HB := chainB HB hb3
    have c1 := cell_later hb3 c1
    have c2 := cell_later hb3 c2
    have c3 := cell_later hb3 c3
    have c4 := cell_later hb3 c4
    have c5 := cell_later hb3 c5
    have c6 := cell_later hb3 c6
    have l5 := fro_later hb3 l5 y2
    have l6 := fro_later hb3 l6 y2
    have y2 : w.heap.size + 1 + 1 < w3.heap.size := by have := hb3.size; omega
    clear hb3
    go_wp2_with fail
    refine (RWhole_any _ _ _).mono ?_
    rintro e w4 ⟨rfl, hb4⟩
    have HB := chainB HB hb4
    have c5 := cell_later hb4 c5
    have c6 := cell_later hb4 c6
    have l5 := fro_later hb4 l5 y2
    have l6 := fro_later hb4 l6 y2
    have y2 : w.heap.size + 1 + 1 < w4.heap.size := by have := hb4.size; omega
    clear hb4
    go_wp2
    refine bodyPost_ret (v := .tuple #[AV 0 0, .int .i64 11]) (by simp [results, Tryz.results27, go_sem, c5, c6]) rfl ⟨by rw [HV.out.1, HV.out.2.1, HV.out.2.2], ?_⟩
    exact (HB.out.setCell (by simp; omega) _).setCell (by simp; omega) _

set_option maxHeartbeats 2000000 in
theorem ROp_div_5d (s m t n : Int) (w : World) (h1 : -9223372036854775808 ≤ n) (h2 : n ≤ 9223372036854775807) (i1 : isNum s m = true) (i2 : isNum t n = true) (e1 : whE s m = 0) (e2 : whE t n = 0) (e3 : ¬ whN t n = 0) :
    Calls Tryz.prog 27 #[.int .i64 5, AV s m, AV t n] w fun e w' => e = .returned (.tuple #[AV (dvT s m t n) (dvQ s m t n), .int .i64 (dvE s m t n)]) ∧ Below w.heap.size w w' := by
    have HV : Hid (dvT s m t n = 2 ∧ dvQ s m t n = qd (whN s m) (whN t n) ∧ dvE s m t n = 0) := by
      have h : dvE s m t n = 0 := dv_4 e1 e2 e3
      exact ⟨by unfold dvT; rw [h]; rfl, by unfold dvQ; rw [h]; rfl, h⟩
    have q1 : (whE s m != 0) = false := by rw [e1]; rfl
    have q2 : (whE t n != 0) = false := by rw [e2]; rfl
    have q3 : (whN t n == 0) = false := by simp [e3]
    have DN : Hid (∀ w, Calls Tryz.prog 47 #[.int .i64 (whN s m), .int .i64 (whN t n)] w fun e w' => e = .returned (.tuple #[.int .i64 (qd (whN s m) (whN t n)), .int .i64 (rd (whN s m) (whN t n))]) ∧ w' = w) := fun w => down_any _ _ w e3 (wh_bd h1 h2).1 (wh_bd h1 h2).2
    clear e1 e2 e3
    clear h1 h2
    go_enter Tryz.func27, Tryz.ntmps27
    go_wp2_with fail
    refine (RIs_any _ _ _).mono ?_
    rintro e w1 ⟨rfl, hb⟩
    obtain ⟨hc, hf⟩ := bcell hb
    obtain ⟨z0, z1, z2⟩ := size3 hb
    have HB : Hid (Below w.heap.size w w1) := end3 hb
    go_wp2_with fail
    refine (RIs_any _ _ _).mono ?_
    rintro e w2 ⟨rfl, hb2⟩
    have c1 := cell_later hb2 (show w1.cell? ⟨w.heap.size, 0, none⟩ = some (.int .i64 s) by simp [go_sem, hc])
    have c2 := cell_later hb2 (show w1.cell? ⟨w.heap.size, 1, none⟩ = some (.int .i64 m) by simp [go_sem, hc])
    have c3 := cell_later hb2 (show w1.cell? ⟨w.heap.size + 1, 0, none⟩ = some (.int .i64 t) by simp [go_sem, hc])
    have c4 := cell_later hb2 (show w1.cell? ⟨w.heap.size + 1, 1, none⟩ = some (.int .i64 n) by simp [go_sem, hc])
    have c5 := cell_later hb2 (show w1.cell? ⟨w.heap.size + 1 + 1, 0, none⟩ = some (.int .i64 0) by simp [go_sem, hc])
    have c6 := cell_later hb2 (show w1.cell? ⟨w.heap.size + 1 + 1, 1, none⟩ = some (.int .i64 0) by simp [go_sem, hc])
    obtain ⟨_, hf2⟩ := bcell hb2
    have l5 : w2.frozen? ⟨w.heap.size + 1 + 1, 0, none⟩ = false := by rw [hf2 _ _ z2]; simp [go_sem, hf]
    have l6 : w2.frozen? ⟨w.heap.size + 1 + 1, 1, none⟩ = false := by rw [hf2 _ _ z2]; simp [go_sem, hf]
    have HB := chainB HB hb2
    have y2 : w.heap.size + 1 + 1 < w2.heap.size := by have := hb2.size; omega
    clear hc hf hf2 z0 z1 z2 hb hb2
    go_wp2_with fail
    refine (RWhole_any _ _ _).mono ?_
    rintro e w3 ⟨rfl, hb3⟩
    have HB := chainB HB hb3
    have c1 := cell_later hb3 c1
    have c2 := cell_later hb3 c2
    have c3 := cell_later hb3 c3
    have c4 := cell_later hb3 c4
    have c5 := cell_later hb3 c5
    have c6 := cell_later hb3 c6
    have l5 := fro_later hb3 l5 y2
    have l6 := fro_later hb3 l6 y2
    have y2 : w.heap.size + 1 + 1 < w3.heap.size := by have := hb3.size; omega
    clear hb3
    go_wp2_with fail
    refine (RWhole_any _ _ _).mono ?_
    rintro e w4 ⟨rfl, hb4⟩
    have HB := chainB HB hb4
    have c5 := cell_later hb4 c5
    have c6 := cell_later hb4 c6
    have l5 := fro_later hb4 l5 y2
    have l6 := fro_later hb4 l6 y2
    have y2 : w.heap.size + 1 + 1 < w4.heap.size := by have := hb4.size; omega
    clear hb4
    go_wp2_with fail
    refine (DN.out _).mono ?_
    rintro e w' ⟨rfl, rfl⟩
    go_wp2_with fail
    refine (RInt_any _ _).mono ?_
    rintro e w5 ⟨rfl, hb5⟩
    have HB := chainB HB hb5
    have c5 := cell_later hb5 c5
    have c6 := cell_later hb5 c6
    have l5 := fro_later hb5 l5 y2
    have l6 := fro_later hb5 l6 y2
    have y2 : w.heap.size + 1 + 1 < w5.heap.size := by have := hb5.size; omega
    clear hb5
    go_wp2
    refine bodyPost_ret (v := .tuple #[AV 2 (qd (whN s m) (whN t n)), .int .i64 0]) (by simp [results, Tryz.results27, go_sem, c5, c6]) rfl ⟨by rw [HV.out.1, HV.out.2.1, HV.out.2.2], ?_⟩
    exact (HB.out.setCell (by simp; omega) _).setCell (by simp; omega) _

theorem ROp_div_5 (s m t n : Int) (w : World) (h1 : -9223372036854775808 ≤ n) (h2 : n ≤ 9223372036854775807) (i1 : isNum s m = true) (i2 : isNum t n = true) :
    Calls Tryz.prog 27 #[.int .i64 5, AV s m, AV t n] w fun e w' => e = .returned (.tuple #[AV (dvT s m t n) (dvQ s m t n), .int .i64 (dvE s m t n)]) ∧ Below w.heap.size w w' := by
  rcases wh_num i1 with e1 | e1
  · rcases wh_num i2 with e2 | e2
    · by_cases e3 : whN t n = 0
      · exact ROp_div_5c s m t n w h1 h2 i1 i2 e1 e2 e3
      · exact ROp_div_5d s m t n w h1 h2 i1 i2 e1 e2 e3
    · exact ROp_div_5b s m t n w h1 h2 i1 i2 e1 e2
  · exact ROp_div_5a s m t n w h1 h2 i1 i2 e1

set_option maxHeartbeats 2000000 in
theorem ROp_div_6a (s m t n : Int) (w : World) (_h1 : -9223372036854775808 ≤ n) (_h2 : n ≤ 9223372036854775807) (i1 : isNum s m = true) (i2 : isNum t n = true) (e1 : whE s m = 12) :
    Calls Tryz.prog 27 #[.int .i64 6, AV s m, AV t n] w fun e w' => e = .returned (.tuple #[AV (dvT s m t n) (dvR s m t n), .int .i64 (dvE s m t n)]) ∧ Below w.heap.size w w' := by
    have HV : Hid (dvT s m t n = 0 ∧ dvR s m t n = 0 ∧ dvE s m t n = 12) := by
      have h : dvE s m t n = 12 := by rw [dv_1 (by omega)]; exact e1
      exact ⟨by unfold dvT; rw [h]; rfl, by unfold dvR; rw [h]; rfl, h⟩
    have q1 : (whE s m != 0) = true := by rw [e1]; rfl
    clear e1
    clear _h1 _h2
    go_enter Tryz.func27, Tryz.ntmps27
    go_wp2_with fail
    refine (RIs_any _ _ _).mono ?_
    rintro e w1 ⟨rfl, hb⟩
    obtain ⟨hc, hf⟩ := bcell hb
    obtain ⟨z0, z1, z2⟩ := size3 hb
    have HB : Hid (Below w.heap.size w w1) := end3 hb
    go_wp2_with fail
    refine (RIs_any _ _ _).mono ?_
    rintro e w2 ⟨rfl, hb2⟩
    have c1 := cell_later hb2 (show w1.cell? ⟨w.heap.size, 0, none⟩ = some (.int .i64 s) by simp [go_sem, hc])
    have c2 := cell_later hb2 (show w1.cell? ⟨w.heap.size, 1, none⟩ = some (.int .i64 m) by simp [go_sem, hc])
    have c3 := cell_later hb2 (show w1.cell? ⟨w.heap.size + 1, 0, none⟩ = some (.int .i64 t) by simp [go_sem, hc])
    have c4 := cell_later hb2 (show w1.cell? ⟨w.heap.size + 1, 1, none⟩ = some (.int .i64 n) by simp [go_sem, hc])
    have c5 := cell_later hb2 (show w1.cell? ⟨w.heap.size + 1 + 1, 0, none⟩ = some (.int .i64 0) by simp [go_sem, hc])
    have c6 := cell_later hb2 (show w1.cell? ⟨w.heap.size + 1 + 1, 1, none⟩ = some (.int .i64 0) by simp [go_sem, hc])
    obtain ⟨_, hf2⟩ := bcell hb2
    have l5 : w2.frozen? ⟨w.heap.size + 1 + 1, 0, none⟩ = false := by rw [hf2 _ _ z2]; simp [go_sem, hf]
    have l6 : w2.frozen? ⟨w.heap.size + 1 + 1, 1, none⟩ = false := by rw [hf2 _ _ z2]; simp [go_sem, hf]
    have HB := chainB HB hb2
    have y2 : w.heap.size + 1 + 1 < w2.heap.size := by have := hb2.size; omega
    clear hc hf hf2 z0 z1 z2 hb hb2
    go_wp2_with fail
    refine (RWhole_any _ _ _).mono ?_
    rintro e w3 ⟨rfl, hb3⟩
    have HB := chainB HB hb3
    have c1 := cell_later hb3 c1
    have c2 := cell_later hb3 c2
    have c3 := cell_later hb3 c3
    have c4 := cell_later hb3 c4
    have c5 := cell_later hb3 c5
    have c6 := cell_later hb3 c6
    have l5 := fro_later hb3 l5 y2
    have l6 := fro_later hb3 l6 y2
    have y2 : w.heap.size + 1 + 1 < w3.heap.size := by have := hb3.size; omega
    clear hb3
    go_wp2_with fail
    refine (RWhole_any _ _ _).mono ?_
    rintro e w4 ⟨rfl, hb4⟩
    have HB := chainB HB hb4
    have c5 := cell_later hb4 c5
    have c6 := cell_later hb4 c6
    have l5 := fro_later hb4 l5 y2
    have l6 := fro_later hb4 l6 y2
    have y2 : w.heap.size + 1 + 1 < w4.heap.size := by have := hb4.size; omega
    clear hb4
    go_wp2
    refine bodyPost_ret (v := .tuple #[AV 0 0, .int .i64 12]) (by simp [results, Tryz.results27, go_sem, c5, c6]) rfl ⟨by rw [HV.out.1, HV.out.2.1, HV.out.2.2], ?_⟩
    exact (HB.out.setCell (by simp; omega) _).setCell (by simp; omega) _

set_option maxHeartbeats 2000000 in
theorem ROp_div_6b (s m t n : Int) (w : World) (_h1 : -9223372036854775808 ≤ n) (_h2 : n ≤ 9223372036854775807) (i1 : isNum s m = true) (i2 : isNum t n = true) (e1 : whE s m = 0) (e2 : whE t n = 12) :
    Calls Tryz.prog 27 #[.int .i64 6, AV s m, AV t n] w fun e w' => e = .returned (.tuple #[AV (dvT s m t n) (dvR s m t n), .int .i64 (dvE s m t n)]) ∧ Below w.heap.size w w' := by
    have HV : Hid (dvT s m t n = 0 ∧ dvR s m t n = 0 ∧ dvE s m t n = 12) := by
      have h : dvE s m t n = 12 := by rw [dv_2 e1 (by omega)]; exact e2
      exact ⟨by unfold dvT; rw [h]; rfl, by unfold dvR; rw [h]; rfl, h⟩
    have q1 : (whE s m != 0) = false := by rw [e1]; rfl
    have q2 : (whE t n != 0) = true := by rw [e2]; rfl
    clear e1 e2
    clear _h1 _h2
    go_enter Tryz.func27, Tryz.ntmps27
    go_wp2_with fail
    refine (RIs_any _ _ _).mono ?_
    rintro e w1 ⟨rfl, hb⟩
    obtain ⟨hc, hf⟩ := bcell hb
    obtain ⟨z0, z1, z2⟩ := size3 hb
    have HB : Hid (Below w.heap.size w w1) := end3 hb
    go_wp2_with fail
    refine (RIs_any _ _ _).mono ?_
    rintro e w2 ⟨rfl, hb2⟩
    have c1 := cell_later hb2 (show w1.cell? ⟨w.heap.size, 0, none⟩ = some (.int .i64 s) by simp [go_sem, hc])
    have c2 := cell_later hb2 (show w1.cell? ⟨w.heap.size, 1, none⟩ = some (.int .i64 m) by simp [go_sem, hc])
    have c3 := cell_later hb2 (show w1.cell? ⟨w.heap.size + 1, 0, none⟩ = some (.int .i64 t) by simp [go_sem, hc])
    have c4 := cell_later hb2 (show w1.cell? ⟨w.heap.size + 1, 1, none⟩ = some (.int .i64 n) by simp [go_sem, hc])
    have c5 := cell_later hb2 (show w1.cell? ⟨w.heap.size + 1 + 1, 0, none⟩ = some (.int .i64 0) by simp [go_sem, hc])
    have c6 := cell_later hb2 (show w1.cell? ⟨w.heap.size + 1 + 1, 1, none⟩ = some (.int .i64 0) by simp [go_sem, hc])
    obtain ⟨_, hf2⟩ := bcell hb2
    have l5 : w2.frozen? ⟨w.heap.size + 1 + 1, 0, none⟩ = false := by rw [hf2 _ _ z2]; simp [go_sem, hf]
    have l6 : w2.frozen? ⟨w.heap.size + 1 + 1, 1, none⟩ = false := by rw [hf2 _ _ z2]; simp [go_sem, hf]
    have HB := chainB HB hb2
    have y2 : w.heap.size + 1 + 1 < w2.heap.size := by have := hb2.size; omega
    clear hc hf hf2 z0 z1 z2 hb hb2
    go_wp2_with fail
    refine (RWhole_any _ _ _).mono ?_
    rintro e w3 ⟨rfl, hb3⟩
    have HB := chainB HB hb3
    have c1 := cell_later hb3 c1
    have c2 := cell_later hb3 c2
    have c3 := cell_later hb3 c3
    have c4 := cell_later hb3 c4
    have c5 := cell_later hb3 c5
    have c6 := cell_later hb3 c6
    have l5 := fro_later hb3 l5 y2
    have l6 := fro_later hb3 l6 y2
    have y2 : w.heap.size + 1 + 1 < w3.heap.size := by have := hb3.size; omega
    clear hb3
    go_wp2_with fail
    refine (RWhole_any _ _ _).mono ?_
    rintro e w4 ⟨rfl, hb4⟩
    have HB := chainB HB hb4
    have c5 := cell_later hb4 c5
    have c6 := cell_later hb4 c6
    have l5 := fro_later hb4 l5 y2
    have l6 := fro_later hb4 l6 y2
    have y2 : w.heap.size + 1 + 1 < w4.heap.size := by have := hb4.size; omega
    clear hb4
    go_wp2
    refine bodyPost_ret (v := .tuple #[AV 0 0, .int .i64 12]) (by simp [results, Tryz.results27, go_sem, c5, c6]) rfl ⟨by rw [HV.out.1, HV.out.2.1, HV.out.2.2], ?_⟩
    exact (HB.out.setCell (by simp; omega) _).setCell (by simp; omega) _

set_option maxHeartbeats 2000000 in
theorem ROp_div_6c (s m t n : Int) (w : World) (_h1 : -9223372036854775808 ≤ n) (_h2 : n ≤ 9223372036854775807) (i1 : isNum s m = true) (i2 : isNum t n = true) (e1 : whE s m = 0) (e2 : whE t n = 0) (e3 : whN t n = 0) :
    Calls Tryz.prog 27 #[.int .i64 6, AV s m, AV t n] w fun e w' => e = .returned (.tuple #[AV (dvT s m t n) (dvR s m t n), .int .i64 (dvE s m t n)]) ∧ Below w.heap.size w w' := by
    have HV : Hid (dvT s m t n = 0 ∧ dvR s m t n = 0 ∧ dvE s m t n = 11) := by
      have h : dvE s m t n = 11 := dv_3 e1 e2 e3
      exact ⟨by unfold dvT; rw [h]; rfl, by unfold dvR; rw [h]; rfl, h⟩
    have q1 : (whE s m != 0) = false := by rw [e1]; rfl
    have q2 : (whE t n != 0) = false := by rw [e2]; rfl
    have q3 : (whN t n == 0) = true := by rw [e3]; rfl
    clear e1 e2 e3
    clear _h1 _h2
    go_enter Tryz.func27, Tryz.ntmps27
    go_wp2_with fail
    refine (RIs_any _ _ _).mono ?_
    rintro e w1 ⟨rfl, hb⟩
    obtain ⟨hc, hf⟩ := bcell hb
    obtain ⟨z0, z1, z2⟩ := size3 hb
    have HB : Hid (Below w.heap.size w w1) := end3 hb
    go_wp2_with fail
    refine (RIs_any _ _ _).mono ?_
    rintro e w2 ⟨rfl, hb2⟩
    have c1 := cell_later hb2 (show w1.cell? ⟨w.heap.size, 0, none⟩ = some (.int .i64 s) by simp [go_sem, hc])
    have c2 := cell_later hb2 (show w1.cell? ⟨w.heap.size, 1, none⟩ = some (.int .i64 m) by simp [go_sem, hc])
    have c3 := cell_later hb2 (show w1.cell? ⟨w.heap.size + 1, 0, none⟩ = some (.int .i64 t) by simp [go_sem, hc])
    have c4 := cell_later hb2 (show w1.cell? ⟨w.heap.size + 1, 1, none⟩ = some (.int .i64 n) by simp [go_sem, hc])
    have c5 := cell_later hb2 (show w1.cell? ⟨w.heap.size + 1 + 1, 0, none⟩ = some (.int .i64 0) by simp [go_sem, hc])
    have c6 := cell_later hb2 (show w1.cell? ⟨w.heap.size + 1 + 1, 1, none⟩ = some (.int .i64 0) by simp [go_sem, hc])
    obtain ⟨_, hf2⟩ := bcell hb2
    have l5 : w2.frozen? ⟨w.heap.size + 1 + 1, 0, none⟩ = false := by rw [hf2 _ _ z2]; simp [go_sem, hf]
    have l6 : w2.frozen? ⟨w.heap.size + 1 + 1, 1, none⟩ = false := by rw [hf2 _ _ z2]; simp [go_sem, hf]
    have HB := chainB HB hb2
    have y2 : w.heap.size + 1 + 1 < w2.heap.size := by have := hb2.size; omega
    clear hc hf hf2 z0 z1 z2 hb hb2
    go_wp2_with fail
    refine (RWhole_any _ _ _).mono ?_
    rintro e w3 ⟨rfl, hb3⟩
    have HB := chainB HB hb3
    have c1 := cell_later hb3 c1
    have c2 := cell_later hb3 c2
    have c3 := cell_later hb3 c3
    have c4 := cell_later hb3 c4
    have c5 := cell_later hb3 c5
    have c6 := cell_later hb3 c6
    have l5 := fro_later hb3 l5 y2
    have l6 := fro_later hb3 l6 y2
    have y2 : w.heap.size + 1 + 1 < w3.heap.size := by have := hb3.size; omega
    clear hb3
    go_wp2_with fail
    refine (RWhole_any _ _ _).mono ?_
    rintro e w4 ⟨rfl, hb4⟩
    have HB := chainB HB hb4
    have c5 := cell_later hb4 c5
    have c6 := cell_later hb4 c6
    have l5 := fro_later hb4 l5 y2
    have l6 := fro_later hb4 l6 y2
    have y2 : w.heap.size + 1 + 1 < w4.heap.size := by have := hb4.size; omega
    clear hb4
    go_wp2
    refine bodyPost_ret (v := .tuple #[AV 0 0, .int .i64 11]) (by simp [results, Tryz.results27, go_sem, c5, c6]) rfl ⟨by rw [HV.out.1, HV.out.2.1, HV.out.2.2], ?_⟩
    exact (HB.out.setCell (by simp; omega) _).setCell (by simp; omega) _

set_option maxHeartbeats 2000000 in
theorem ROp_div_6d (s m t n : Int) (w : World) (h1 : -9223372036854775808 ≤ n) (h2 : n ≤ 9223372036854775807) (i1 : isNum s m = true) (i2 : isNum t n = true) (e1 : whE s m = 0) (e2 : whE t n = 0) (e3 : ¬ whN t n = 0) :
    Calls Tryz.prog 27 #[.int .i64 6, AV s m, AV t n] w fun e w' => e = .returned (.tuple #[AV (dvT s m t n) (dvR s m t n), .int .i64 (dvE s m t n)]) ∧ Below w.heap.size w w' := by
    have HV : Hid (dvT s m t n = 2 ∧ dvR s m t n = rd (whN s m) (whN t n) ∧ dvE s m t n = 0) := by
      have h : dvE s m t n = 0 := dv_4 e1 e2 e3
      exact ⟨by unfold dvT; rw [h]; rfl, by unfold dvR; rw [h]; rfl, h⟩
    have q1 : (whE s m != 0) = false := by rw [e1]; rfl
    have q2 : (whE t n != 0) = false := by rw [e2]; rfl
    have q3 : (whN t n == 0) = false := by simp [e3]
    have DN : Hid (∀ w, Calls Tryz.prog 47 #[.int .i64 (whN s m), .int .i64 (whN t n)] w fun e w' => e = .returned (.tuple #[.int .i64 (qd (whN s m) (whN t n)), .int .i64 (rd (whN s m) (whN t n))]) ∧ w' = w) := fun w => down_any _ _ w e3 (wh_bd h1 h2).1 (wh_bd h1 h2).2
    clear e1 e2 e3
    clear h1 h2
    go_enter Tryz.func27, Tryz.ntmps27
    go_wp2_with fail
    refine (RIs_any _ _ _).mono ?_
    rintro e w1 ⟨rfl, hb⟩
    obtain ⟨hc, hf⟩ := bcell hb
    obtain ⟨z0, z1, z2⟩ := size3 hb
    have HB : Hid (Below w.heap.size w w1) := end3 hb
    go_wp2_with fail
    refine (RIs_any _ _ _).mono ?_
    rintro e w2 ⟨rfl, hb2⟩
    have c1 := cell_later hb2 (show w1.cell? ⟨w.heap.size, 0, none⟩ = some (.int .i64 s) by simp [go_sem, hc])
    have c2 := cell_later hb2 (show w1.cell? ⟨w.heap.size, 1, none⟩ = some (.int .i64 m) by simp [go_sem, hc])
    have c3 := cell_later hb2 (show w1.cell? ⟨w.heap.size + 1, 0, none⟩ = some (.int .i64 t) by simp [go_sem, hc])
    have c4 := cell_later hb2 (show w1.cell? ⟨w.heap.size + 1, 1, none⟩ = some (.int .i64 n) by simp [go_sem, hc])
    have c5 := cell_later hb2 (show w1.cell? ⟨w.heap.size + 1 + 1, 0, none⟩ = some (.int .i64 0) by simp [go_sem, hc])
    have c6 := cell_later hb2 (show w1.cell? ⟨w.heap.size + 1 + 1, 1, none⟩ = some (.int .i64 0) by simp [go_sem, hc])
    obtain ⟨_, hf2⟩ := bcell hb2
    have l5 : w2.frozen? ⟨w.heap.size + 1 + 1, 0, none⟩ = false := by rw [hf2 _ _ z2]; simp [go_sem, hf]
    have l6 : w2.frozen? ⟨w.heap.size + 1 + 1, 1, none⟩ = false := by rw [hf2 _ _ z2]; simp [go_sem, hf]
    have HB := chainB HB hb2
    have y2 : w.heap.size + 1 + 1 < w2.heap.size := by have := hb2.size; omega
    clear hc hf hf2 z0 z1 z2 hb hb2
    go_wp2_with fail
    refine (RWhole_any _ _ _).mono ?_
    rintro e w3 ⟨rfl, hb3⟩
    have HB := chainB HB hb3
    have c1 := cell_later hb3 c1
    have c2 := cell_later hb3 c2
    have c3 := cell_later hb3 c3
    have c4 := cell_later hb3 c4
    have c5 := cell_later hb3 c5
    have c6 := cell_later hb3 c6
    have l5 := fro_later hb3 l5 y2
    have l6 := fro_later hb3 l6 y2
    have y2 : w.heap.size + 1 + 1 < w3.heap.size := by have := hb3.size; omega
    clear hb3
    go_wp2_with fail
    refine (RWhole_any _ _ _).mono ?_
    rintro e w4 ⟨rfl, hb4⟩
    have HB := chainB HB hb4
    have c5 := cell_later hb4 c5
    have c6 := cell_later hb4 c6
    have l5 := fro_later hb4 l5 y2
    have l6 := fro_later hb4 l6 y2
    have y2 : w.heap.size + 1 + 1 < w4.heap.size := by have := hb4.size; omega
    clear hb4
    go_wp2_with fail
    refine (DN.out _).mono ?_
    rintro e w' ⟨rfl, rfl⟩
    go_wp2_with fail
    refine (RInt_any _ _).mono ?_
    rintro e w5 ⟨rfl, hb5⟩
    have HB := chainB HB hb5
    have c5 := cell_later hb5 c5
    have c6 := cell_later hb5 c6
    have l5 := fro_later hb5 l5 y2
    have l6 := fro_later hb5 l6 y2
    have y2 : w.heap.size + 1 + 1 < w5.heap.size := by have := hb5.size; omega
    clear hb5
    go_wp2
    refine bodyPost_ret (v := .tuple #[AV 2 (rd (whN s m) (whN t n)), .int .i64 0]) (by simp [results, Tryz.results27, go_sem, c5, c6]) rfl ⟨by rw [HV.out.1, HV.out.2.1, HV.out.2.2], ?_⟩
    exact (HB.out.setCell (by simp; omega) _).setCell (by simp; omega) _

theorem ROp_div_6 (s m t n : Int) (w : World) (h1 : -9223372036854775808 ≤ n) (h2 : n ≤ 9223372036854775807) (i1 : isNum s m = true) (i2 : isNum t n = true) :
    Calls Tryz.prog 27 #[.int .i64 6, AV s m, AV t n] w fun e w' => e = .returned (.tuple #[AV (dvT s m t n) (dvR s m t n), .int .i64 (dvE s m t n)]) ∧ Below w.heap.size w w' := by
  rcases wh_num i1 with e1 | e1
  · rcases wh_num i2 with e2 | e2
    · by_cases e3 : whN t n = 0
      · exact ROp_div_6c s m t n w h1 h2 i1 i2 e1 e2 e3
      · exact ROp_div_6d s m t n w h1 h2 i1 i2 e1 e2 e3
    · exact ROp_div_6b s m t n w h1 h2 i1 i2 e1 e2
  · exact ROp_div_6a s m t n w h1 h2 i1 i2 e1

theorem ROp_any (op s m t n : Int) (w : World) (h1 : -9223372036854775808 ≤ n) (h2 : n ≤ 9223372036854775807) :
    Calls Tryz.prog 27 #[.int .i64 op, AV s m, AV t n] w fun e w' => e = .returned (.tuple #[AV (opT op s m t n) (opN op s m t n), .int .i64 (opE op s m t n)]) ∧ Below w.heap.size w w' := by
  unfold opT opN opE
  by_cases ho : op < 1 ∨ 6 < op
  · simp only [ho, if_true]
    exact ROp_arg op s m t n w ho
  · simp only [ho, if_false]
    cases hi : (isNum s m && isNum t n)
    · simp only [Bool.false_eq_true, if_false]
      refine ROp_type op s m t n w (by omega) (by omega) ?_
      cases h : isNum s m
      · exact Or.inl rfl
      · rw [h] at hi; exact Or.inr hi
    · simp only [if_true]
      obtain ⟨i1, i2⟩ : isNum s m = true ∧ isNum t n = true := by simpa using hi
      have hc : op = 1 ∨ op = 2 ∨ op = 3 ∨ op = 4 ∨ op = 5 ∨ op = 6 := by omega
      rcases hc with rfl | rfl | rfl | rfl | rfl | rfl
      · rcases num3 i1 with rfl | rfl
        · rcases num3 i2 with rfl | rfl
          · exact ROp_ints_1 m n w
          · exact ROp_fl_1a m n w i1 i2
        · exact ROp_fl_1b t m n w i1 i2
      · rcases num3 i1 with rfl | rfl
        · rcases num3 i2 with rfl | rfl
          · exact ROp_ints_2 m n w
          · exact ROp_fl_2a m n w i1 i2
        · exact ROp_fl_2b t m n w i1 i2
      · rcases num3 i1 with rfl | rfl
        · rcases num3 i2 with rfl | rfl
          · exact ROp_ints_3 m n w
          · exact ROp_fl_3a m n w i1 i2
        · exact ROp_fl_3b t m n w i1 i2
      · have : ¬ (s = 2 ∧ t = 2 ∧ (4 : Int) < 4) := by omega
        simp only [this, if_false]
        rcases num3 i1 with rfl | rfl
        · rcases num3 i2 with rfl | rfl
          · exact ROp_fl_4c m n w i1 i2
          · exact ROp_fl_4a m n w i1 i2
        · exact ROp_fl_4b t m n w i1 i2
      · exact ROp_div_5 s m t n w h1 h2 i1 i2
      · exact ROp_div_6 s m t n w h1 h2 i1 i2
end Go.Proofs.YtakpmefkddplhaaGreatDoor
