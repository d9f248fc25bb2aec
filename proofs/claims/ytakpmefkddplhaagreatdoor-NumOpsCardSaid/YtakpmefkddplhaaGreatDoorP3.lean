/- The document's operation of two numbers of which one at least is a float, and its whole quotients. -/
import Derived.Test.YtakpmefkddplhaaGreatDoorP2
namespace Go.Proofs.YtakpmefkddplhaaGreatDoor
open Go.RowKit

theorem conv_same (r : Nat) (w : World) : (convert 24 24 (.float .f64 r)).run Tryz.prog w = .ok (.float .f64 r) w :=
  run_convert_float_float w 24 24 .f64 .f64 r r (by kernel_rfl) Tryz.underlying24 rfl

set_option maxHeartbeats 2000000 in
theorem ROp_fl_1a (m n : Int) (w : World) (i1 : isNum 2 m = true) (i2 : isNum 3 n = true) :
    Calls Tryz.prog 27 #[.int .i64 1, AV 2 m, AV 3 n] w fun e w' => e = .returned (.tuple #[AV 3 (fltO (floatBits .add .f64 (ofX 2 m) (ofX 3 n))), .int .i64 0]) ∧ Below w.heap.size w w' := by
    have hcv := conv_same
    go_enter Tryz.func27, Tryz.ntmps27
    go_wp2_with fail
    refine (RIs_any _ _ _).mono ?_
    rintro e w1 ⟨rfl, hb⟩
    obtain ⟨hc, hf⟩ := bcell hb
    obtain ⟨z0, z1, z2⟩ := size3 hb
    have HB : Hid (Below w.heap.size w w1) := end3 hb
    go_wp2_with fail
    refine (RIs_any _ _ _).mono ?_
    rintro e w2 ⟨rfl, hb2⟩
    have c1 := cell_later hb2 (show w1.cell? ⟨w.heap.size, 0, none⟩ = some (.int .i64 2) by simp [go_sem, hc])
    have c2 := cell_later hb2 (show w1.cell? ⟨w.heap.size, 1, none⟩ = some (.int .i64 m) by simp [go_sem, hc])
    have c3 := cell_later hb2 (show w1.cell? ⟨w.heap.size + 1, 0, none⟩ = some (.int .i64 3) by simp [go_sem, hc])
    have c4 := cell_later hb2 (show w1.cell? ⟨w.heap.size + 1, 1, none⟩ = some (.int .i64 n) by simp [go_sem, hc])
    have c5 := cell_later hb2 (show w1.cell? ⟨w.heap.size + 1 + 1, 0, none⟩ = some (.int .i64 0) by simp [go_sem, hc])
    have c6 := cell_later hb2 (show w1.cell? ⟨w.heap.size + 1 + 1, 1, none⟩ = some (.int .i64 0) by simp [go_sem, hc])
    obtain ⟨_, hf2⟩ := bcell hb2
    have l5 : w2.frozen? ⟨w.heap.size + 1 + 1, 0, none⟩ = false := by rw [hf2 _ _ z2]; simp [go_sem, hf]
    have l6 : w2.frozen? ⟨w.heap.size + 1 + 1, 1, none⟩ = false := by rw [hf2 _ _ z2]; simp [go_sem, hf]
    have HB := chainB HB hb2
    have y2 : w.heap.size + 1 + 1 < w2.heap.size := by have := hb2.size; omega
    clear hc hf hf2 z0 z1 z2 hb hb2
    go_wp2_with fail
    refine (ROf_any _ _ _).mono ?_
    rintro e w3 ⟨rfl, hb3⟩
    have HB := chainB HB hb3
    have c1 := cell_later hb3 c1
    have c2 := cell_later hb3 c2
    have c3 := cell_later hb3 c3
    have c4 := cell_later hb3 c4
    have c5 := cell_later hb3 c5
    have c6 := cell_later hb3 c6
    have l5 := fro_later hb3 l5 y2
    have l6 := fro_later hb3 l6 y2
    have y2 : w.heap.size + 1 + 1 < w3.heap.size := by have := hb3.size; omega
    clear hb3
    go_wp2_with fail
    refine (ROf_any _ _ _).mono ?_
    rintro e w4 ⟨rfl, hb4⟩
    have HB := chainB HB hb4
    have c1 := cell_later hb4 c1
    have c2 := cell_later hb4 c2
    have c3 := cell_later hb4 c3
    have c4 := cell_later hb4 c4
    have c5 := cell_later hb4 c5
    have c6 := cell_later hb4 c6
    have l5 := fro_later hb4 l5 y2
    have l6 := fro_later hb4 l6 y2
    have y2 : w.heap.size + 1 + 1 < w4.heap.size := by have := hb4.size; omega
    clear hb4
    obtain ⟨r, w5, hr, hv, hb5⟩ := run_float_any .add (by simp) (ofX 2 m) (ofX 3 n) w4
    have HV : Hid (flt r = fltO (floatBits .add .f64 (ofX 2 m) (ofX 3 n))) := hv
    clear hv
    have HB := chainB HB hb5
    have c5 := cell_later hb5 c5
    have c6 := cell_later hb5 c6
    have l5 := fro_later hb5 l5 y2
    have l6 := fro_later hb5 l6 y2
    have y2 : w.heap.size + 1 + 1 < w5.heap.size := by have := hb5.size; omega
    clear hb5
    go_wp2_with fail
    refine (RFloat_any _ _).mono ?_
    rintro e w6 ⟨rfl, hb6⟩
    have HB := chainB HB hb6
    have c5 := cell_later hb6 c5
    have c6 := cell_later hb6 c6
    have l5 := fro_later hb6 l5 y2
    have l6 := fro_later hb6 l6 y2
    have y2 : w.heap.size + 1 + 1 < w6.heap.size := by have := hb6.size; omega
    clear hb6
    go_wp2
    refine bodyPost_ret (v := .tuple #[AV 3 (flt r), .int .i64 0]) (by simp [results, Tryz.results27, go_sem, c5, c6]) rfl ⟨by rw [HV.out], ?_⟩
    exact (HB.out.setCell (by simp; omega) _).setCell (by simp; omega) _

set_option maxHeartbeats 2000000 in
theorem ROp_fl_1b (t m n : Int) (w : World) (i1 : isNum 3 m = true) (i2 : isNum t n = true) :
    Calls Tryz.prog 27 #[.int .i64 1, AV 3 m, AV t n] w fun e w' => e = .returned (.tuple #[AV 3 (fltO (floatBits .add .f64 (ofX 3 m) (ofX t n))), .int .i64 0]) ∧ Below w.heap.size w w' := by
    have hcv := conv_same
    go_enter Tryz.func27, Tryz.ntmps27
    go_wp2_with fail
    refine (RIs_any _ _ _).mono ?_
    rintro e w1 ⟨rfl, hb⟩
    obtain ⟨hc, hf⟩ := bcell hb
    obtain ⟨z0, z1, z2⟩ := size3 hb
    have HB : Hid (Below w.heap.size w w1) := end3 hb
    go_wp2_with fail
    refine (RIs_any _ _ _).mono ?_
    rintro e w2 ⟨rfl, hb2⟩
    have c1 := cell_later hb2 (show w1.cell? ⟨w.heap.size, 0, none⟩ = some (.int .i64 3) by simp [go_sem, hc])
    have c2 := cell_later hb2 (show w1.cell? ⟨w.heap.size, 1, none⟩ = some (.int .i64 m) by simp [go_sem, hc])
    have c3 := cell_later hb2 (show w1.cell? ⟨w.heap.size + 1, 0, none⟩ = some (.int .i64 t) by simp [go_sem, hc])
    have c4 := cell_later hb2 (show w1.cell? ⟨w.heap.size + 1, 1, none⟩ = some (.int .i64 n) by simp [go_sem, hc])
    have c5 := cell_later hb2 (show w1.cell? ⟨w.heap.size + 1 + 1, 0, none⟩ = some (.int .i64 0) by simp [go_sem, hc])
    have c6 := cell_later hb2 (show w1.cell? ⟨w.heap.size + 1 + 1, 1, none⟩ = some (.int .i64 0) by simp [go_sem, hc])
    obtain ⟨_, hf2⟩ := bcell hb2
    have l5 : w2.frozen? ⟨w.heap.size + 1 + 1, 0, none⟩ = false := by rw [hf2 _ _ z2]; simp [go_sem, hf]
    have l6 : w2.frozen? ⟨w.heap.size + 1 + 1, 1, none⟩ = false := by rw [hf2 _ _ z2]; simp [go_sem, hf]
    have HB := chainB HB hb2
    have y2 : w.heap.size + 1 + 1 < w2.heap.size := by have := hb2.size; omega
    clear hc hf hf2 z0 z1 z2 hb hb2
    go_wp2_with fail
    refine (ROf_any _ _ _).mono ?_
    rintro e w3 ⟨rfl, hb3⟩
    have HB := chainB HB hb3
    have c1 := cell_later hb3 c1
    have c2 := cell_later hb3 c2
    have c3 := cell_later hb3 c3
    have c4 := cell_later hb3 c4
    have c5 := cell_later hb3 c5
    have c6 := cell_later hb3 c6
    have l5 := fro_later hb3 l5 y2
    have l6 := fro_later hb3 l6 y2
    have y2 : w.heap.size + 1 + 1 < w3.heap.size := by have := hb3.size; omega
    clear hb3
    go_wp2_with fail
    refine (ROf_any _ _ _).mono ?_
    rintro e w4 ⟨rfl, hb4⟩
    have HB := chainB HB hb4
    have c1 := cell_later hb4 c1
    have c2 := cell_later hb4 c2
    have c3 := cell_later hb4 c3
    have c4 := cell_later hb4 c4
    have c5 := cell_later hb4 c5
    have c6 := cell_later hb4 c6
    have l5 := fro_later hb4 l5 y2
    have l6 := fro_later hb4 l6 y2
    have y2 : w.heap.size + 1 + 1 < w4.heap.size := by have := hb4.size; omega
    clear hb4
    obtain ⟨r, w5, hr, hv, hb5⟩ := run_float_any .add (by simp) (ofX 3 m) (ofX t n) w4
    have HV : Hid (flt r = fltO (floatBits .add .f64 (ofX 3 m) (ofX t n))) := hv
    clear hv
    have HB := chainB HB hb5
    have c5 := cell_later hb5 c5
    have c6 := cell_later hb5 c6
    have l5 := fro_later hb5 l5 y2
    have l6 := fro_later hb5 l6 y2
    have y2 : w.heap.size + 1 + 1 < w5.heap.size := by have := hb5.size; omega
    clear hb5
    go_wp2_with fail
    refine (RFloat_any _ _).mono ?_
    rintro e w6 ⟨rfl, hb6⟩
    have HB := chainB HB hb6
    have c5 := cell_later hb6 c5
    have c6 := cell_later hb6 c6
    have l5 := fro_later hb6 l5 y2
    have l6 := fro_later hb6 l6 y2
    have y2 : w.heap.size + 1 + 1 < w6.heap.size := by have := hb6.size; omega
    clear hb6
    go_wp2
    refine bodyPost_ret (v := .tuple #[AV 3 (flt r), .int .i64 0]) (by simp [results, Tryz.results27, go_sem, c5, c6]) rfl ⟨by rw [HV.out], ?_⟩
    exact (HB.out.setCell (by simp; omega) _).setCell (by simp; omega) _

set_option maxHeartbeats 2000000 in
theorem ROp_fl_2a (m n : Int) (w : World) (i1 : isNum 2 m = true) (i2 : isNum 3 n = true) :
    Calls Tryz.prog 27 #[.int .i64 2, AV 2 m, AV 3 n] w fun e w' => e = .returned (.tuple #[AV 3 (fltO (floatBits .sub .f64 (ofX 2 m) (ofX 3 n))), .int .i64 0]) ∧ Below w.heap.size w w' := by
    have hcv := conv_same
    go_enter Tryz.func27, Tryz.ntmps27
    go_wp2_with fail
    refine (RIs_any _ _ _).mono ?_
    rintro e w1 ⟨rfl, hb⟩
    obtain ⟨hc, hf⟩ := bcell hb
    obtain ⟨z0, z1, z2⟩ := size3 hb
    have HB : Hid (Below w.heap.size w w1) := end3 hb
    go_wp2_with fail
    refine (RIs_any _ _ _).mono ?_
    rintro e w2 ⟨rfl, hb2⟩
    have c1 := cell_later hb2 (show w1.cell? ⟨w.heap.size, 0, none⟩ = some (.int .i64 2) by simp [go_sem, hc])
    have c2 := cell_later hb2 (show w1.cell? ⟨w.heap.size, 1, none⟩ = some (.int .i64 m) by simp [go_sem, hc])
    have c3 := cell_later hb2 (show w1.cell? ⟨w.heap.size + 1, 0, none⟩ = some (.int .i64 3) by simp [go_sem, hc])
    have c4 := cell_later hb2 (show w1.cell? ⟨w.heap.size + 1, 1, none⟩ = some (.int .i64 n) by simp [go_sem, hc])
    have c5 := cell_later hb2 (show w1.cell? ⟨w.heap.size + 1 + 1, 0, none⟩ = some (.int .i64 0) by simp [go_sem, hc])
    have c6 := cell_later hb2 (show w1.cell? ⟨w.heap.size + 1 + 1, 1, none⟩ = some (.int .i64 0) by simp [go_sem, hc])
    obtain ⟨_, hf2⟩ := bcell hb2
    have l5 : w2.frozen? ⟨w.heap.size + 1 + 1, 0, none⟩ = false := by rw [hf2 _ _ z2]; simp [go_sem, hf]
    have l6 : w2.frozen? ⟨w.heap.size + 1 + 1, 1, none⟩ = false := by rw [hf2 _ _ z2]; simp [go_sem, hf]
    have HB := chainB HB hb2
    have y2 : w.heap.size + 1 + 1 < w2.heap.size := by have := hb2.size; omega
    clear hc hf hf2 z0 z1 z2 hb hb2
    go_wp2_with fail
    refine (ROf_any _ _ _).mono ?_
    rintro e w3 ⟨rfl, hb3⟩
    have HB := chainB HB hb3
    have c1 := cell_later hb3 c1
    have c2 := cell_later hb3 c2
    have c3 := cell_later hb3 c3
    have c4 := cell_later hb3 c4
    have c5 := cell_later hb3 c5
    have c6 := cell_later hb3 c6
    have l5 := fro_later hb3 l5 y2
    have l6 := fro_later hb3 l6 y2
    have y2 : w.heap.size + 1 + 1 < w3.heap.size := by have := hb3.size; omega
    clear hb3
    go_wp2_with fail
    refine (ROf_any _ _ _).mono ?_
    rintro e w4 ⟨rfl, hb4⟩
    have HB := chainB HB hb4
    have c1 := cell_later hb4 c1
    have c2 := cell_later hb4 c2
    have c3 := cell_later hb4 c3
    have c4 := cell_later hb4 c4
    have c5 := cell_later hb4 c5
    have c6 := cell_later hb4 c6
    have l5 := fro_later hb4 l5 y2
    have l6 := fro_later hb4 l6 y2
    have y2 : w.heap.size + 1 + 1 < w4.heap.size := by have := hb4.size; omega
    clear hb4
    obtain ⟨r, w5, hr, hv, hb5⟩ := run_float_any .sub (by simp) (ofX 2 m) (ofX 3 n) w4
    have HV : Hid (flt r = fltO (floatBits .sub .f64 (ofX 2 m) (ofX 3 n))) := hv
    clear hv
    have HB := chainB HB hb5
    have c5 := cell_later hb5 c5
    have c6 := cell_later hb5 c6
    have l5 := fro_later hb5 l5 y2
    have l6 := fro_later hb5 l6 y2
    have y2 : w.heap.size + 1 + 1 < w5.heap.size := by have := hb5.size; omega
    clear hb5
    go_wp2_with fail
    refine (RFloat_any _ _).mono ?_
    rintro e w6 ⟨rfl, hb6⟩
    have HB := chainB HB hb6
    have c5 := cell_later hb6 c5
    have c6 := cell_later hb6 c6
    have l5 := fro_later hb6 l5 y2
    have l6 := fro_later hb6 l6 y2
    have y2 : w.heap.size + 1 + 1 < w6.heap.size := by have := hb6.size; omega
    clear hb6
    go_wp2
    refine bodyPost_ret (v := .tuple #[AV 3 (flt r), .int .i64 0]) (by simp [results, Tryz.results27, go_sem, c5, c6]) rfl ⟨by rw [HV.out], ?_⟩
    exact (HB.out.setCell (by simp; omega) _).setCell (by simp; omega) _

set_option maxHeartbeats 2000000 in
theorem ROp_fl_2b (t m n : Int) (w : World) (i1 : isNum 3 m = true) (i2 : isNum t n = true) :
    Calls Tryz.prog 27 #[.int .i64 2, AV 3 m, AV t n] w fun e w' => e = .returned (.tuple #[AV 3 (fltO (floatBits .sub .f64 (ofX 3 m) (ofX t n))), .int .i64 0]) ∧ Below w.heap.size w w' := by
    have hcv := conv_same
    go_enter Tryz.func27, Tryz.ntmps27
    go_wp2_with fail
    refine (RIs_any _ _ _).mono ?_
    rintro e w1 ⟨rfl, hb⟩
    obtain ⟨hc, hf⟩ := bcell hb
    obtain ⟨z0, z1, z2⟩ := size3 hb
    have HB : Hid (Below w.heap.size w w1) := end3 hb
    go_wp2_with fail
    refine (RIs_any _ _ _).mono ?_
    rintro e w2 ⟨rfl, hb2⟩
    have c1 := cell_later hb2 (show w1.cell? ⟨w.heap.size, 0, none⟩ = some (.int .i64 3) by simp [go_sem, hc])
    have c2 := cell_later hb2 (show w1.cell? ⟨w.heap.size, 1, none⟩ = some (.int .i64 m) by simp [go_sem, hc])
    have c3 := cell_later hb2 (show w1.cell? ⟨w.heap.size + 1, 0, none⟩ = some (.int .i64 t) by simp [go_sem, hc])
    have c4 := cell_later hb2 (show w1.cell? ⟨w.heap.size + 1, 1, none⟩ = some (.int .i64 n) by simp [go_sem, hc])
    have c5 := cell_later hb2 (show w1.cell? ⟨w.heap.size + 1 + 1, 0, none⟩ = some (.int .i64 0) by simp [go_sem, hc])
    have c6 := cell_later hb2 (show w1.cell? ⟨w.heap.size + 1 + 1, 1, none⟩ = some (.int .i64 0) by simp [go_sem, hc])
    obtain ⟨_, hf2⟩ := bcell hb2
    have l5 : w2.frozen? ⟨w.heap.size + 1 + 1, 0, none⟩ = false := by rw [hf2 _ _ z2]; simp [go_sem, hf]
    have l6 : w2.frozen? ⟨w.heap.size + 1 + 1, 1, none⟩ = false := by rw [hf2 _ _ z2]; simp [go_sem, hf]
    have HB := chainB HB hb2
    have y2 : w.heap.size + 1 + 1 < w2.heap.size := by have := hb2.size; omega
    clear hc hf hf2 z0 z1 z2 hb hb2
    go_wp2_with fail
    refine (ROf_any _ _ _).mono ?_
    rintro e w3 ⟨rfl, hb3⟩
    have HB := chainB HB hb3
    have c1 := cell_later hb3 c1
    have c2 := cell_later hb3 c2
    have c3 := cell_later hb3 c3
    have c4 := cell_later hb3 c4
    have c5 := cell_later hb3 c5
    have c6 := cell_later hb3 c6
    have l5 := fro_later hb3 l5 y2
    have l6 := fro_later hb3 l6 y2
    have y2 : w.heap.size + 1 + 1 < w3.heap.size := by have := hb3.size; omega
    clear hb3
    go_wp2_with fail
    refine (ROf_any _ _ _).mono ?_
    rintro e w4 ⟨rfl, hb4⟩
    have HB := chainB HB hb4
    have c1 := cell_later hb4 c1
    have c2 := cell_later hb4 c2
    have c3 := cell_later hb4 c3
    have c4 := cell_later hb4 c4
    have c5 := cell_later hb4 c5
    have c6 := cell_later hb4 c6
    have l5 := fro_later hb4 l5 y2
    have l6 := fro_later hb4 l6 y2
    have y2 : w.heap.size + 1 + 1 < w4.heap.size := by have := hb4.size; omega
    clear hb4
    obtain ⟨r, w5, hr, hv, hb5⟩ := run_float_any .sub (by simp) (ofX 3 m) (ofX t n) w4
    have HV : Hid (flt r = fltO (floatBits .sub .f64 (ofX 3 m) (ofX t n))) := hv
    clear hv
    have HB := chainB HB hb5
    have c5 := cell_later hb5 c5
    have c6 := cell_later hb5 c6
    have l5 := fro_later hb5 l5 y2
    have l6 := fro_later hb5 l6 y2
    have y2 : w.heap.size + 1 + 1 < w5.heap.size := by have := hb5.size; omega
    clear hb5
    go_wp2_with fail
    refine (RFloat_any _ _).mono ?_
    rintro e w6 ⟨rfl, hb6⟩
    have HB := chainB HB hb6
    have c5 := cell_later hb6 c5
    have c6 := cell_later hb6 c6
    have l5 := fro_later hb6 l5 y2
    have l6 := fro_later hb6 l6 y2
    have y2 : w.heap.size + 1 + 1 < w6.heap.size := by have := hb6.size; omega
    clear hb6
    go_wp2
    refine bodyPost_ret (v := .tuple #[AV 3 (flt r), .int .i64 0]) (by simp [results, Tryz.results27, go_sem, c5, c6]) rfl ⟨by rw [HV.out], ?_⟩
    exact (HB.out.setCell (by simp; omega) _).setCell (by simp; omega) _

set_option maxHeartbeats 2000000 in
theorem ROp_fl_3a (m n : Int) (w : World) (i1 : isNum 2 m = true) (i2 : isNum 3 n = true) :
    Calls Tryz.prog 27 #[.int .i64 3, AV 2 m, AV 3 n] w fun e w' => e = .returned (.tuple #[AV 3 (fltO (floatBits .mul .f64 (ofX 2 m) (ofX 3 n))), .int .i64 0]) ∧ Below w.heap.size w w' := by
    have hcv := conv_same
    go_enter Tryz.func27, Tryz.ntmps27
    go_wp2_with fail
    refine (RIs_any _ _ _).mono ?_
    rintro e w1 ⟨rfl, hb⟩
    obtain ⟨hc, hf⟩ := bcell hb
    obtain ⟨z0, z1, z2⟩ := size3 hb
    have HB : Hid (Below w.heap.size w w1) := end3 hb
    go_wp2_with fail
    refine (RIs_any _ _ _).mono ?_
    rintro e w2 ⟨rfl, hb2⟩
    have c1 := cell_later hb2 (show w1.cell? ⟨w.heap.size, 0, none⟩ = some (.int .i64 2) by simp [go_sem, hc])
    have c2 := cell_later hb2 (show w1.cell? ⟨w.heap.size, 1, none⟩ = some (.int .i64 m) by simp [go_sem, hc])
    have c3 := cell_later hb2 (show w1.cell? ⟨w.heap.size + 1, 0, none⟩ = some (.int .i64 3) by simp [go_sem, hc])
    have c4 := cell_later hb2 (show w1.cell? ⟨w.heap.size + 1, 1, none⟩ = some (.int .i64 n) by simp [go_sem, hc])
    have c5 := cell_later hb2 (show w1.cell? ⟨w.heap.size + 1 + 1, 0, none⟩ = some (.int .i64 0) by simp [go_sem, hc])
    have c6 := cell_later hb2 (show w1.cell? ⟨w.heap.size + 1 + 1, 1, none⟩ = some (.int .i64 0) by simp [go_sem, hc])
    obtain ⟨_, hf2⟩ := bcell hb2
    have l5 : w2.frozen? ⟨w.heap.size + 1 + 1, 0, none⟩ = false := by rw [hf2 _ _ z2]; simp [go_sem, hf]
    have l6 : w2.frozen? ⟨w.heap.size + 1 + 1, 1, none⟩ = false := by rw [hf2 _ _ z2]; simp [go_sem, hf]
    have HB := chainB HB hb2
    have y2 : w.heap.size + 1 + 1 < w2.heap.size := by have := hb2.size; omega
    clear hc hf hf2 z0 z1 z2 hb hb2
    go_wp2_with fail
    refine (ROf_any _ _ _).mono ?_
    rintro e w3 ⟨rfl, hb3⟩
    have HB := chainB HB hb3
    have c1 := cell_later hb3 c1
    have c2 := cell_later hb3 c2
    have c3 := cell_later hb3 c3
    have c4 := cell_later hb3 c4
    have c5 := cell_later hb3 c5
    have c6 := cell_later hb3 c6
    have l5 := fro_later hb3 l5 y2
    have l6 := fro_later hb3 l6 y2
    have y2 : w.heap.size + 1 + 1 < w3.heap.size := by have := hb3.size; omega
    clear hb3
    go_wp2_with fail
    refine (ROf_any _ _ _).mono ?_
    rintro e w4 ⟨rfl, hb4⟩
    have HB := chainB HB hb4
    have c1 := cell_later hb4 c1
    have c2 := cell_later hb4 c2
    have c3 := cell_later hb4 c3
    have c4 := cell_later hb4 c4
    have c5 := cell_later hb4 c5
    have c6 := cell_later hb4 c6
    have l5 := fro_later hb4 l5 y2
    have l6 := fro_later hb4 l6 y2
    have y2 : w.heap.size + 1 + 1 < w4.heap.size := by have := hb4.size; omega
    clear hb4
    obtain ⟨r, w5, hr, hv, hb5⟩ := run_float_any .mul (by simp) (ofX 2 m) (ofX 3 n) w4
    have HV : Hid (flt r = fltO (floatBits .mul .f64 (ofX 2 m) (ofX 3 n))) := hv
    clear hv
    have HB := chainB HB hb5
    have c5 := cell_later hb5 c5
    have c6 := cell_later hb5 c6
    have l5 := fro_later hb5 l5 y2
    have l6 := fro_later hb5 l6 y2
    have y2 : w.heap.size + 1 + 1 < w5.heap.size := by have := hb5.size; omega
    clear hb5
    go_wp2_with fail
    refine (RFloat_any _ _).mono ?_
    rintro e w6 ⟨rfl, hb6⟩
    have HB := chainB HB hb6
    have c5 := cell_later hb6 c5
    have c6 := cell_later hb6 c6
    have l5 := fro_later hb6 l5 y2
    have l6 := fro_later hb6 l6 y2
    have y2 : w.heap.size + 1 + 1 < w6.heap.size := by have := hb6.size; omega
    clear hb6
    go_wp2
    refine bodyPost_ret (v := .tuple #[AV 3 (flt r), .int .i64 0]) (by simp [results, Tryz.results27, go_sem, c5, c6]) rfl ⟨by rw [HV.out], ?_⟩
    exact (HB.out.setCell (by simp; omega) _).setCell (by simp; omega) _

set_option maxHeartbeats 2000000 in
theorem ROp_fl_3b (t m n : Int) (w : World) (i1 : isNum 3 m = true) (i2 : isNum t n = true) :
    Calls Tryz.prog 27 #[.int .i64 3, AV 3 m, AV t n] w fun e w' => e = .returned (.tuple #[AV 3 (fltO (floatBits .mul .f64 (ofX 3 m) (ofX t n))), .int .i64 0]) ∧ Below w.heap.size w w' := by
    have hcv := conv_same
    go_enter Tryz.func27, Tryz.ntmps27
    go_wp2_with fail
    refine (RIs_any _ _ _).mono ?_
    rintro e w1 ⟨rfl, hb⟩
    obtain ⟨hc, hf⟩ := bcell hb
    obtain ⟨z0, z1, z2⟩ := size3 hb
    have HB : Hid (Below w.heap.size w w1) := end3 hb
    go_wp2_with fail
    refine (RIs_any _ _ _).mono ?_
    rintro e w2 ⟨rfl, hb2⟩
    have c1 := cell_later hb2 (show w1.cell? ⟨w.heap.size, 0, none⟩ = some (.int .i64 3) by simp [go_sem, hc])
    have c2 := cell_later hb2 (show w1.cell? ⟨w.heap.size, 1, none⟩ = some (.int .i64 m) by simp [go_sem, hc])
    have c3 := cell_later hb2 (show w1.cell? ⟨w.heap.size + 1, 0, none⟩ = some (.int .i64 t) by simp [go_sem, hc])
    have c4 := cell_later hb2 (show w1.cell? ⟨w.heap.size + 1, 1, none⟩ = some (.int .i64 n) by simp [go_sem, hc])
    have c5 := cell_later hb2 (show w1.cell? ⟨w.heap.size + 1 + 1, 0, none⟩ = some (.int .i64 0) by simp [go_sem, hc])
    have c6 := cell_later hb2 (show w1.cell? ⟨w.heap.size + 1 + 1, 1, none⟩ = some (.int .i64 0) by simp [go_sem, hc])
    obtain ⟨_, hf2⟩ := bcell hb2
    have l5 : w2.frozen? ⟨w.heap.size + 1 + 1, 0, none⟩ = false := by rw [hf2 _ _ z2]; simp [go_sem, hf]
    have l6 : w2.frozen? ⟨w.heap.size + 1 + 1, 1, none⟩ = false := by rw [hf2 _ _ z2]; simp [go_sem, hf]
    have HB := chainB HB hb2
    have y2 : w.heap.size + 1 + 1 < w2.heap.size := by have := hb2.size; omega
    clear hc hf hf2 z0 z1 z2 hb hb2
    go_wp2_with fail
    refine (ROf_any _ _ _).mono ?_
    rintro e w3 ⟨rfl, hb3⟩
    have HB := chainB HB hb3
    have c1 := cell_later hb3 c1
    have c2 := cell_later hb3 c2
    have c3 := cell_later hb3 c3
    have c4 := cell_later hb3 c4
    have c5 := cell_later hb3 c5
    have c6 := cell_later hb3 c6
    have l5 := fro_later hb3 l5 y2
    have l6 := fro_later hb3 l6 y2
    have y2 : w.heap.size + 1 + 1 < w3.heap.size := by have := hb3.size; omega
    clear hb3
    go_wp2_with fail
    refine (ROf_any _ _ _).mono ?_
    rintro e w4 ⟨rfl, hb4⟩
    have HB := chainB HB hb4
    have c1 := cell_later hb4 c1
    have c2 := cell_later hb4 c2
    have c3 := cell_later hb4 c3
    have c4 := cell_later hb4 c4
    have c5 := cell_later hb4 c5
    have c6 := cell_later hb4 c6
    have l5 := fro_later hb4 l5 y2
    have l6 := fro_later hb4 l6 y2
    have y2 : w.heap.size + 1 + 1 < w4.heap.size := by have := hb4.size; omega
    clear hb4
    obtain ⟨r, w5, hr, hv, hb5⟩ := run_float_any .mul (by simp) (ofX 3 m) (ofX t n) w4
    have HV : Hid (flt r = fltO (floatBits .mul .f64 (ofX 3 m) (ofX t n))) := hv
    clear hv
    have HB := chainB HB hb5
    have c5 := cell_later hb5 c5
    have c6 := cell_later hb5 c6
    have l5 := fro_later hb5 l5 y2
    have l6 := fro_later hb5 l6 y2
    have y2 : w.heap.size + 1 + 1 < w5.heap.size := by have := hb5.size; omega
    clear hb5
    go_wp2_with fail
    refine (RFloat_any _ _).mono ?_
    rintro e w6 ⟨rfl, hb6⟩
    have HB := chainB HB hb6
    have c5 := cell_later hb6 c5
    have c6 := cell_later hb6 c6
    have l5 := fro_later hb6 l5 y2
    have l6 := fro_later hb6 l6 y2
    have y2 : w.heap.size + 1 + 1 < w6.heap.size := by have := hb6.size; omega
    clear hb6
    go_wp2
    refine bodyPost_ret (v := .tuple #[AV 3 (flt r), .int .i64 0]) (by simp [results, Tryz.results27, go_sem, c5, c6]) rfl ⟨by rw [HV.out], ?_⟩
    exact (HB.out.setCell (by simp; omega) _).setCell (by simp; omega) _

set_option maxHeartbeats 2000000 in
theorem ROp_fl_4c (m n : Int) (w : World) (i1 : isNum 2 m = true) (i2 : isNum 2 n = true) :
    Calls Tryz.prog 27 #[.int .i64 4, AV 2 m, AV 2 n] w fun e w' => e = .returned (.tuple #[AV 3 (fltO (floatBits .quo .f64 (ofX 2 m) (ofX 2 n))), .int .i64 0]) ∧ Below w.heap.size w w' := by
    have hcv := conv_same
    go_enter Tryz.func27, Tryz.ntmps27
    go_wp2_with fail
    refine (RIs_any _ _ _).mono ?_
    rintro e w1 ⟨rfl, hb⟩
    obtain ⟨hc, hf⟩ := bcell hb
    obtain ⟨z0, z1, z2⟩ := size3 hb
    have HB : Hid (Below w.heap.size w w1) := end3 hb
    go_wp2_with fail
    refine (RIs_any _ _ _).mono ?_
    rintro e w2 ⟨rfl, hb2⟩
    have c1 := cell_later hb2 (show w1.cell? ⟨w.heap.size, 0, none⟩ = some (.int .i64 2) by simp [go_sem, hc])
    have c2 := cell_later hb2 (show w1.cell? ⟨w.heap.size, 1, none⟩ = some (.int .i64 m) by simp [go_sem, hc])
    have c3 := cell_later hb2 (show w1.cell? ⟨w.heap.size + 1, 0, none⟩ = some (.int .i64 2) by simp [go_sem, hc])
    have c4 := cell_later hb2 (show w1.cell? ⟨w.heap.size + 1, 1, none⟩ = some (.int .i64 n) by simp [go_sem, hc])
    have c5 := cell_later hb2 (show w1.cell? ⟨w.heap.size + 1 + 1, 0, none⟩ = some (.int .i64 0) by simp [go_sem, hc])
    have c6 := cell_later hb2 (show w1.cell? ⟨w.heap.size + 1 + 1, 1, none⟩ = some (.int .i64 0) by simp [go_sem, hc])
    obtain ⟨_, hf2⟩ := bcell hb2
    have l5 : w2.frozen? ⟨w.heap.size + 1 + 1, 0, none⟩ = false := by rw [hf2 _ _ z2]; simp [go_sem, hf]
    have l6 : w2.frozen? ⟨w.heap.size + 1 + 1, 1, none⟩ = false := by rw [hf2 _ _ z2]; simp [go_sem, hf]
    have HB := chainB HB hb2
    have y2 : w.heap.size + 1 + 1 < w2.heap.size := by have := hb2.size; omega
    clear hc hf hf2 z0 z1 z2 hb hb2
    go_wp2_with fail
    refine (ROf_any _ _ _).mono ?_
    rintro e w3 ⟨rfl, hb3⟩
    have HB := chainB HB hb3
    have c1 := cell_later hb3 c1
    have c2 := cell_later hb3 c2
    have c3 := cell_later hb3 c3
    have c4 := cell_later hb3 c4
    have c5 := cell_later hb3 c5
    have c6 := cell_later hb3 c6
    have l5 := fro_later hb3 l5 y2
    have l6 := fro_later hb3 l6 y2
    have y2 : w.heap.size + 1 + 1 < w3.heap.size := by have := hb3.size; omega
    clear hb3
    go_wp2_with fail
    refine (ROf_any _ _ _).mono ?_
    rintro e w4 ⟨rfl, hb4⟩
    have HB := chainB HB hb4
    have c1 := cell_later hb4 c1
    have c2 := cell_later hb4 c2
    have c3 := cell_later hb4 c3
    have c4 := cell_later hb4 c4
    have c5 := cell_later hb4 c5
    have c6 := cell_later hb4 c6
    have l5 := fro_later hb4 l5 y2
    have l6 := fro_later hb4 l6 y2
    have y2 : w.heap.size + 1 + 1 < w4.heap.size := by have := hb4.size; omega
    clear hb4
    obtain ⟨r, w5, hr, hv, hb5⟩ := run_float_any .quo (by simp) (ofX 2 m) (ofX 2 n) w4
    have HV : Hid (flt r = fltO (floatBits .quo .f64 (ofX 2 m) (ofX 2 n))) := hv
    clear hv
    have HB := chainB HB hb5
    have c5 := cell_later hb5 c5
    have c6 := cell_later hb5 c6
    have l5 := fro_later hb5 l5 y2
    have l6 := fro_later hb5 l6 y2
    have y2 : w.heap.size + 1 + 1 < w5.heap.size := by have := hb5.size; omega
    clear hb5
    go_wp2_with fail
    refine (RFloat_any _ _).mono ?_
    rintro e w6 ⟨rfl, hb6⟩
    have HB := chainB HB hb6
    have c5 := cell_later hb6 c5
    have c6 := cell_later hb6 c6
    have l5 := fro_later hb6 l5 y2
    have l6 := fro_later hb6 l6 y2
    have y2 : w.heap.size + 1 + 1 < w6.heap.size := by have := hb6.size; omega
    clear hb6
    go_wp2
    refine bodyPost_ret (v := .tuple #[AV 3 (flt r), .int .i64 0]) (by simp [results, Tryz.results27, go_sem, c5, c6]) rfl ⟨by rw [HV.out], ?_⟩
    exact (HB.out.setCell (by simp; omega) _).setCell (by simp; omega) _

set_option maxHeartbeats 2000000 in
theorem ROp_fl_4a (m n : Int) (w : World) (i1 : isNum 2 m = true) (i2 : isNum 3 n = true) :
    Calls Tryz.prog 27 #[.int .i64 4, AV 2 m, AV 3 n] w fun e w' => e = .returned (.tuple #[AV 3 (fltO (floatBits .quo .f64 (ofX 2 m) (ofX 3 n))), .int .i64 0]) ∧ Below w.heap.size w w' := by
    have hcv := conv_same
    go_enter Tryz.func27, Tryz.ntmps27
    go_wp2_with fail
    refine (RIs_any _ _ _).mono ?_
    rintro e w1 ⟨rfl, hb⟩
    obtain ⟨hc, hf⟩ := bcell hb
    obtain ⟨z0, z1, z2⟩ := size3 hb
    have HB : Hid (Below w.heap.size w w1) := end3 hb
    go_wp2_with fail
    refine (RIs_any _ _ _).mono ?_
    rintro e w2 ⟨rfl, hb2⟩
    have c1 := cell_later hb2 (show w1.cell? ⟨w.heap.size, 0, none⟩ = some (.int .i64 2) by simp [go_sem, hc])
    have c2 := cell_later hb2 (show w1.cell? ⟨w.heap.size, 1, none⟩ = some (.int .i64 m) by simp [go_sem, hc])
    have c3 := cell_later hb2 (show w1.cell? ⟨w.heap.size + 1, 0, none⟩ = some (.int .i64 3) by simp [go_sem, hc])
    have c4 := cell_later hb2 (show w1.cell? ⟨w.heap.size + 1, 1, none⟩ = some (.int .i64 n) by simp [go_sem, hc])
    have c5 := cell_later hb2 (show w1.cell? ⟨w.heap.size + 1 + 1, 0, none⟩ = some (.int .i64 0) by simp [go_sem, hc])
    have c6 := cell_later hb2 (show w1.cell? ⟨w.heap.size + 1 + 1, 1, none⟩ = some (.int .i64 0) by simp [go_sem, hc])
    obtain ⟨_, hf2⟩ := bcell hb2
    have l5 : w2.frozen? ⟨w.heap.size + 1 + 1, 0, none⟩ = false := by rw [hf2 _ _ z2]; simp [go_sem, hf]
    have l6 : w2.frozen? ⟨w.heap.size + 1 + 1, 1, none⟩ = false := by rw [hf2 _ _ z2]; simp [go_sem, hf]
    have HB := chainB HB hb2
    have y2 : w.heap.size + 1 + 1 < w2.heap.size := by have := hb2.size; omega
    clear hc hf hf2 z0 z1 z2 hb hb2
    go_wp2_with fail
    refine (ROf_any _ _ _).mono ?_
    rintro e w3 ⟨rfl, hb3⟩
    have HB := chainB HB hb3
    have c1 := cell_later hb3 c1
    have c2 := cell_later hb3 c2
    have c3 := cell_later hb3 c3
    have c4 := cell_later hb3 c4
    have c5 := cell_later hb3 c5
    have c6 := cell_later hb3 c6
    have l5 := fro_later hb3 l5 y2
    have l6 := fro_later hb3 l6 y2
    have y2 : w.heap.size + 1 + 1 < w3.heap.size := by have := hb3.size; omega
    clear hb3
    go_wp2_with fail
    refine (ROf_any _ _ _).mono ?_
    rintro e w4 ⟨rfl, hb4⟩
    have HB := chainB HB hb4
    have c1 := cell_later hb4 c1
    have c2 := cell_later hb4 c2
    have c3 := cell_later hb4 c3
    have c4 := cell_later hb4 c4
    have c5 := cell_later hb4 c5
    have c6 := cell_later hb4 c6
    have l5 := fro_later hb4 l5 y2
    have l6 := fro_later hb4 l6 y2
    have y2 : w.heap.size + 1 + 1 < w4.heap.size := by have := hb4.size; omega
    clear hb4
    obtain ⟨r, w5, hr, hv, hb5⟩ := run_float_any .quo (by simp) (ofX 2 m) (ofX 3 n) w4
    have HV : Hid (flt r = fltO (floatBits .quo .f64 (ofX 2 m) (ofX 3 n))) := hv
    clear hv
    have HB := chainB HB hb5
    have c5 := cell_later hb5 c5
    have c6 := cell_later hb5 c6
    have l5 := fro_later hb5 l5 y2
    have l6 := fro_later hb5 l6 y2
    have y2 : w.heap.size + 1 + 1 < w5.heap.size := by have := hb5.size; omega
    clear hb5
    go_wp2_with fail
    refine (RFloat_any _ _).mono ?_
    rintro e w6 ⟨rfl, hb6⟩
    have HB := chainB HB hb6
    have c5 := cell_later hb6 c5
    have c6 := cell_later hb6 c6
    have l5 := fro_later hb6 l5 y2
    have l6 := fro_later hb6 l6 y2
    have y2 : w.heap.size + 1 + 1 < w6.heap.size := by have := hb6.size; omega
    clear hb6
    go_wp2
    refine bodyPost_ret (v := .tuple #[AV 3 (flt r), .int .i64 0]) (by simp [results, Tryz.results27, go_sem, c5, c6]) rfl ⟨by rw [HV.out], ?_⟩
    exact (HB.out.setCell (by simp; omega) _).setCell (by simp; omega) _

set_option maxHeartbeats 2000000 in
theorem ROp_fl_4b (t m n : Int) (w : World) (i1 : isNum 3 m = true) (i2 : isNum t n = true) :
    Calls Tryz.prog 27 #[.int .i64 4, AV 3 m, AV t n] w fun e w' => e = .returned (.tuple #[AV 3 (fltO (floatBits .quo .f64 (ofX 3 m) (ofX t n))), .int .i64 0]) ∧ Below w.heap.size w w' := by
    have hcv := conv_same
    go_enter Tryz.func27, Tryz.ntmps27
    go_wp2_with fail
    refine (RIs_any _ _ _).mono ?_
    rintro e w1 ⟨rfl, hb⟩
    obtain ⟨hc, hf⟩ := bcell hb
    obtain ⟨z0, z1, z2⟩ := size3 hb
    have HB : Hid (Below w.heap.size w w1) := end3 hb
    go_wp2_with fail
    refine (RIs_any _ _ _).mono ?_
    rintro e w2 ⟨rfl, hb2⟩
    have c1 := cell_later hb2 (show w1.cell? ⟨w.heap.size, 0, none⟩ = some (.int .i64 3) by simp [go_sem, hc])
    have c2 := cell_later hb2 (show w1.cell? ⟨w.heap.size, 1, none⟩ = some (.int .i64 m) by simp [go_sem, hc])
    have c3 := cell_later hb2 (show w1.cell? ⟨w.heap.size + 1, 0, none⟩ = some (.int .i64 t) by simp [go_sem, hc])
    have c4 := cell_later hb2 (show w1.cell? ⟨w.heap.size + 1, 1, none⟩ = some (.int .i64 n) by simp [go_sem, hc])
    have c5 := cell_later hb2 (show w1.cell? ⟨w.heap.size + 1 + 1, 0, none⟩ = some (.int .i64 0) by simp [go_sem, hc])
    have c6 := cell_later hb2 (show w1.cell? ⟨w.heap.size + 1 + 1, 1, none⟩ = some (.int .i64 0) by simp [go_sem, hc])
    obtain ⟨_, hf2⟩ := bcell hb2
    have l5 : w2.frozen? ⟨w.heap.size + 1 + 1, 0, none⟩ = false := by rw [hf2 _ _ z2]; simp [go_sem, hf]
    have l6 : w2.frozen? ⟨w.heap.size + 1 + 1, 1, none⟩ = false := by rw [hf2 _ _ z2]; simp [go_sem, hf]
    have HB := chainB HB hb2
    have y2 : w.heap.size + 1 + 1 < w2.heap.size := by have := hb2.size; omega
    clear hc hf hf2 z0 z1 z2 hb hb2
    go_wp2_with fail
    refine (ROf_any _ _ _).mono ?_
    rintro e w3 ⟨rfl, hb3⟩
    have HB := chainB HB hb3
    have c1 := cell_later hb3 c1
    have c2 := cell_later hb3 c2
    have c3 := cell_later hb3 c3
    have c4 := cell_later hb3 c4
    have c5 := cell_later hb3 c5
    have c6 := cell_later hb3 c6
    have l5 := fro_later hb3 l5 y2
    have l6 := fro_later hb3 l6 y2
    have y2 : w.heap.size + 1 + 1 < w3.heap.size := by have := hb3.size; omega
    clear hb3
    go_wp2_with fail
    refine (ROf_any _ _ _).mono ?_
    rintro e w4 ⟨rfl, hb4⟩
    have HB := chainB HB hb4
    have c1 := cell_later hb4 c1
    have c2 := cell_later hb4 c2
    have c3 := cell_later hb4 c3
    have c4 := cell_later hb4 c4
    have c5 := cell_later hb4 c5
    have c6 := cell_later hb4 c6
    have l5 := fro_later hb4 l5 y2
    have l6 := fro_later hb4 l6 y2
    have y2 : w.heap.size + 1 + 1 < w4.heap.size := by have := hb4.size; omega
    clear hb4
    obtain ⟨r, w5, hr, hv, hb5⟩ := run_float_any .quo (by simp) (ofX 3 m) (ofX t n) w4
    have HV : Hid (flt r = fltO (floatBits .quo .f64 (ofX 3 m) (ofX t n))) := hv
    clear hv
    have HB := chainB HB hb5
    have c5 := cell_later hb5 c5
    have c6 := cell_later hb5 c6
    have l5 := fro_later hb5 l5 y2
    have l6 := fro_later hb5 l6 y2
    have y2 : w.heap.size + 1 + 1 < w5.heap.size := by have := hb5.size; omega
    clear hb5
    go_wp2_with fail
    refine (RFloat_any _ _).mono ?_
    rintro e w6 ⟨rfl, hb6⟩
    have HB := chainB HB hb6
    have c5 := cell_later hb6 c5
    have c6 := cell_later hb6 c6
    have l5 := fro_later hb6 l5 y2
    have l6 := fro_later hb6 l6 y2
    have y2 : w.heap.size + 1 + 1 < w6.heap.size := by have := hb6.size; omega
    clear hb6
    go_wp2
    refine bodyPost_ret (v := .tuple #[AV 3 (flt r), .int .i64 0]) (by simp [results, Tryz.results27, go_sem, c5, c6]) rfl ⟨by rw [HV.out], ?_⟩
    exact (HB.out.setCell (by simp; omega) _).setCell (by simp; omega) _
end Go.Proofs.YtakpmefkddplhaaGreatDoor
