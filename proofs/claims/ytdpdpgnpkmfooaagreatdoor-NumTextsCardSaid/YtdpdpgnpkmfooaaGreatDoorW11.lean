/- An operation of two numbers of which one at least is a float. -/
import Derived.Test.YtdpdpgnpkmfooaaGreatDoorW10
namespace Go.Proofs.YtdpdpgnpkmfooaaGreatDoor
open Go.RowKit

theorem Of_num (t n : Int) (w : World) (h1 : -9223372036854775808 ≤ n) (h2 : n ≤ 9223372036854775807) (hi : isNum t n = true) :
    Calls Tryz.prog 13 #[AV t n] w fun e w' => e = .returned (.tuple #[.float .f64 (ofX t n), .bool true]) ∧ Below w.heap.size w w' := by
  refine (Of_any t n w h1 h2).mono ?_
  rintro e w' ⟨rfl, hb⟩
  exact ⟨by rw [hi]; rfl, hb⟩

set_option maxHeartbeats 2000000 in
theorem Op_fl_1a (m n : Int) (w : World) (g1 : -9223372036854775808 ≤ m) (g2 : m ≤ 9223372036854775807) (h1 : -9223372036854775808 ≤ n) (h2 : n ≤ 9223372036854775807)
    (i1 : isNum 2 m = true) (i2 : isNum 3 n = true) :
    Calls Tryz.prog 26 #[.int .i64 1, AV 2 m, AV 3 n] w fun e w' => e = .returned (.tuple #[AV 3 (fltO (floatBits .add .f64 (ofX 2 m) (ofX 3 n))), .int .i64 0]) ∧ Below w.heap.size w w' := by
    go_enter Tryz.func26, Tryz.ntmps26
    go_wp2_with fail
    refine (Is_any _ _ _ g1 g2).mono ?_
    rintro e w1 ⟨rfl, hb⟩
    obtain ⟨hc, hf⟩ := bcell hb
    obtain ⟨z0, z1, z2⟩ := size3 hb
    have HB : Hid (Below w.heap.size w w1) := end3 hb
    go_wp2_with fail
    refine (Is_any _ _ _ h1 h2).mono ?_
    rintro e w2 ⟨rfl, hb2⟩
    have c1 := cell_later hb2 (show w1.cell? ⟨w.heap.size, 0, none⟩ = some (.int .i64 2) by simp [go_sem, hc])
    have c2 := cell_later hb2 (show w1.cell? ⟨w.heap.size, 1, none⟩ = some (.int .i64 m) by simp [go_sem, hc])
    have c3 := cell_later hb2 (show w1.cell? ⟨w.heap.size + 1, 0, none⟩ = some (.int .i64 3) by simp [go_sem, hc])
    have c4 := cell_later hb2 (show w1.cell? ⟨w.heap.size + 1, 1, none⟩ = some (.int .i64 n) by simp [go_sem, hc])
    have c5 := cell_later hb2 (show w1.cell? ⟨w.heap.size + 1 + 1, 0, none⟩ = some (.int .i64 0) by simp [go_sem, hc])
    have c6 := cell_later hb2 (show w1.cell? ⟨w.heap.size + 1 + 1, 1, none⟩ = some (.int .i64 0) by simp [go_sem, hc])
    obtain ⟨_, hf2⟩ := bcell hb2
    have f5 : w2.frozen? ⟨w.heap.size + 1 + 1, 0, none⟩ = false := by rw [hf2 _ _ z2]; simp [go_sem, hf]
    have f6 : w2.frozen? ⟨w.heap.size + 1 + 1, 1, none⟩ = false := by rw [hf2 _ _ z2]; simp [go_sem, hf]
    have HB := chainB HB hb2
    have y2 : w.heap.size + 1 + 1 < w2.heap.size := by have := hb2.size; omega
    clear hc hf hf2 z0 z1 z2 hb hb2
    go_wp2_with fail
    refine (opOf_1 _).mono ?_
    rintro e w3 ⟨rfl, hb3⟩
    have c1 := cell_later hb3 c1
    have c2 := cell_later hb3 c2
    have c3 := cell_later hb3 c3
    have c4 := cell_later hb3 c4
    have c5 := cell_later hb3 c5
    have c6 := cell_later hb3 c6
    obtain ⟨_, hf3⟩ := bcell hb3
    have f5 : w3.frozen? ⟨w.heap.size + 1 + 1, 0, none⟩ = false := by rw [hf3 _ _ y2]; exact f5
    have f6 : w3.frozen? ⟨w.heap.size + 1 + 1, 1, none⟩ = false := by rw [hf3 _ _ y2]; exact f6
    have HB := chainB HB hb3
    have y2 : w.heap.size + 1 + 1 < w3.heap.size := by have := hb3.size; omega
    have y1 : w.heap.size + 1 < w3.heap.size := by omega
    have y0 : w.heap.size < w3.heap.size := by omega
    clear hf3 hb3
    go_wp2_with fail
    have k1 := al c1 y0 (o := .cells #[(fnV 69), (fnV 70)] 65)
    have k2 := al c2 y0 (o := .cells #[(fnV 69), (fnV 70)] 65)
    have k3 := al c3 y1 (o := .cells #[(fnV 69), (fnV 70)] 65)
    have k4 := al c4 y1 (o := .cells #[(fnV 69), (fnV 70)] 65)
    have k5 := al c5 y2 (o := .cells #[(fnV 69), (fnV 70)] 65)
    have k6 := al c6 y2 (o := .cells #[(fnV 69), (fnV 70)] 65)
    have k7 : (w3.alloc (.cells #[(fnV 69), (fnV 70)] 65)).cell? ⟨w3.heap.size, 0, none⟩ = some (fnV 69) := by simp [go_sem]
    have k8 : (w3.alloc (.cells #[(fnV 69), (fnV 70)] 65)).cell? ⟨w3.heap.size, 1, none⟩ = some (fnV 70) := by simp [go_sem]
    have l5 := alf f5 y2 (o := .cells #[(fnV 69), (fnV 70)] 65)
    have l6 := alf f6 y2 (o := .cells #[(fnV 69), (fnV 70)] 65)
    have HB : Hid (Below w.heap.size w (w3.alloc (.cells #[(fnV 69), (fnV 70)] 65))) := HB.out.alloc HB.out.size _
    clear c1 c2 c3 c4 c5 c6 f5 f6
    refine (Of_num _ _ _ g1 g2 i1).mono ?_
    rintro e w4 ⟨rfl, hb4⟩
    have HB := chainB HB hb4
    have x8 : w3.heap.size < w4.heap.size := by have := hb4.size; simp at this; omega
    have x2 : w.heap.size + 1 + 1 < w4.heap.size := by omega
    have k1 := cell_later hb4 k1
    have k2 := cell_later hb4 k2
    have k3 := cell_later hb4 k3
    have k4 := cell_later hb4 k4
    have k5 := cell_later hb4 k5
    have k6 := cell_later hb4 k6
    have k7 := cell_later hb4 k7
    have k8 := cell_later hb4 k8
    have l5 := fro_later hb4 l5 (by simp; omega)
    have l6 := fro_later hb4 l6 (by simp; omega)
    clear hb4 y0 y1 y2
    go_wp2_with fail
    refine (Of_num _ _ _ h1 h2 i2).mono ?_
    rintro e w5 ⟨rfl, hb5⟩
    have HB := chainB HB hb5
    have k5 := cell_later hb5 k5
    have k6 := cell_later hb5 k6
    have k7 := cell_later hb5 k7
    have k8 := cell_later hb5 k8
    have l5 := fro_later hb5 l5 x2
    have l6 := fro_later hb5 l6 x2
    have x2 : w.heap.size + 1 + 1 < w5.heap.size := by have := hb5.size; omega
    clear hb5 k1 k2 k3 k4 x8
    go_wp2_with fail
    refine (addF_any _ _ _).mono ?_
    rintro e w6 ⟨r, rfl, hv, hb6⟩
    have HV : Hid (flt r = fltO (floatBits .add .f64 (ofX 2 m) (ofX 3 n))) := hv
    have HB := chainB HB hb6
    have k5 := cell_later hb6 k5
    have k6 := cell_later hb6 k6
    have l5 := fro_later hb6 l5 x2
    have l6 := fro_later hb6 l6 x2
    have x2 : w.heap.size + 1 + 1 < w6.heap.size := by have := hb6.size; omega
    clear hb6 hv k7 k8
    go_wp2_with fail
    refine (Float_any _ _).mono ?_
    rintro e w7 ⟨rfl, hb7⟩
    have HB := chainB HB hb7
    have k5 := cell_later hb7 k5
    have k6 := cell_later hb7 k6
    have l5 := fro_later hb7 l5 x2
    have l6 := fro_later hb7 l6 x2
    clear hb7
    go_wp2
    refine bodyPost_ret (v := .tuple #[AV 3 (flt r), .int .i64 0]) (by simp [results, Tryz.results26, go_sem, k5, k6]) rfl ⟨by rw [HV.out], ?_⟩
    exact (HB.out.setCell (by simp; omega) _).setCell (by simp; omega) _

set_option maxHeartbeats 2000000 in
theorem Op_fl_1b (t m n : Int) (w : World) (g1 : -9223372036854775808 ≤ m) (g2 : m ≤ 9223372036854775807) (h1 : -9223372036854775808 ≤ n) (h2 : n ≤ 9223372036854775807)
    (i1 : isNum 3 m = true) (i2 : isNum t n = true) :
    Calls Tryz.prog 26 #[.int .i64 1, AV 3 m, AV t n] w fun e w' => e = .returned (.tuple #[AV 3 (fltO (floatBits .add .f64 (ofX 3 m) (ofX t n))), .int .i64 0]) ∧ Below w.heap.size w w' := by
    go_enter Tryz.func26, Tryz.ntmps26
    go_wp2_with fail
    refine (Is_any _ _ _ g1 g2).mono ?_
    rintro e w1 ⟨rfl, hb⟩
    obtain ⟨hc, hf⟩ := bcell hb
    obtain ⟨z0, z1, z2⟩ := size3 hb
    have HB : Hid (Below w.heap.size w w1) := end3 hb
    go_wp2_with fail
    refine (Is_any _ _ _ h1 h2).mono ?_
    rintro e w2 ⟨rfl, hb2⟩
    have c1 := cell_later hb2 (show w1.cell? ⟨w.heap.size, 0, none⟩ = some (.int .i64 3) by simp [go_sem, hc])
    have c2 := cell_later hb2 (show w1.cell? ⟨w.heap.size, 1, none⟩ = some (.int .i64 m) by simp [go_sem, hc])
    have c3 := cell_later hb2 (show w1.cell? ⟨w.heap.size + 1, 0, none⟩ = some (.int .i64 t) by simp [go_sem, hc])
    have c4 := cell_later hb2 (show w1.cell? ⟨w.heap.size + 1, 1, none⟩ = some (.int .i64 n) by simp [go_sem, hc])
    have c5 := cell_later hb2 (show w1.cell? ⟨w.heap.size + 1 + 1, 0, none⟩ = some (.int .i64 0) by simp [go_sem, hc])
    have c6 := cell_later hb2 (show w1.cell? ⟨w.heap.size + 1 + 1, 1, none⟩ = some (.int .i64 0) by simp [go_sem, hc])
    obtain ⟨_, hf2⟩ := bcell hb2
    have f5 : w2.frozen? ⟨w.heap.size + 1 + 1, 0, none⟩ = false := by rw [hf2 _ _ z2]; simp [go_sem, hf]
    have f6 : w2.frozen? ⟨w.heap.size + 1 + 1, 1, none⟩ = false := by rw [hf2 _ _ z2]; simp [go_sem, hf]
    have HB := chainB HB hb2
    have y2 : w.heap.size + 1 + 1 < w2.heap.size := by have := hb2.size; omega
    clear hc hf hf2 z0 z1 z2 hb hb2
    go_wp2_with fail
    refine (opOf_1 _).mono ?_
    rintro e w3 ⟨rfl, hb3⟩
    have c1 := cell_later hb3 c1
    have c2 := cell_later hb3 c2
    have c3 := cell_later hb3 c3
    have c4 := cell_later hb3 c4
    have c5 := cell_later hb3 c5
    have c6 := cell_later hb3 c6
    obtain ⟨_, hf3⟩ := bcell hb3
    have f5 : w3.frozen? ⟨w.heap.size + 1 + 1, 0, none⟩ = false := by rw [hf3 _ _ y2]; exact f5
    have f6 : w3.frozen? ⟨w.heap.size + 1 + 1, 1, none⟩ = false := by rw [hf3 _ _ y2]; exact f6
    have HB := chainB HB hb3
    have y2 : w.heap.size + 1 + 1 < w3.heap.size := by have := hb3.size; omega
    have y1 : w.heap.size + 1 < w3.heap.size := by omega
    have y0 : w.heap.size < w3.heap.size := by omega
    clear hf3 hb3
    go_wp2_with fail
    have k1 := al c1 y0 (o := .cells #[(fnV 69), (fnV 70)] 65)
    have k2 := al c2 y0 (o := .cells #[(fnV 69), (fnV 70)] 65)
    have k3 := al c3 y1 (o := .cells #[(fnV 69), (fnV 70)] 65)
    have k4 := al c4 y1 (o := .cells #[(fnV 69), (fnV 70)] 65)
    have k5 := al c5 y2 (o := .cells #[(fnV 69), (fnV 70)] 65)
    have k6 := al c6 y2 (o := .cells #[(fnV 69), (fnV 70)] 65)
    have k7 : (w3.alloc (.cells #[(fnV 69), (fnV 70)] 65)).cell? ⟨w3.heap.size, 0, none⟩ = some (fnV 69) := by simp [go_sem]
    have k8 : (w3.alloc (.cells #[(fnV 69), (fnV 70)] 65)).cell? ⟨w3.heap.size, 1, none⟩ = some (fnV 70) := by simp [go_sem]
    have l5 := alf f5 y2 (o := .cells #[(fnV 69), (fnV 70)] 65)
    have l6 := alf f6 y2 (o := .cells #[(fnV 69), (fnV 70)] 65)
    have HB : Hid (Below w.heap.size w (w3.alloc (.cells #[(fnV 69), (fnV 70)] 65))) := HB.out.alloc HB.out.size _
    clear c1 c2 c3 c4 c5 c6 f5 f6
    refine (Of_num _ _ _ g1 g2 i1).mono ?_
    rintro e w4 ⟨rfl, hb4⟩
    have HB := chainB HB hb4
    have x8 : w3.heap.size < w4.heap.size := by have := hb4.size; simp at this; omega
    have x2 : w.heap.size + 1 + 1 < w4.heap.size := by omega
    have k1 := cell_later hb4 k1
    have k2 := cell_later hb4 k2
    have k3 := cell_later hb4 k3
    have k4 := cell_later hb4 k4
    have k5 := cell_later hb4 k5
    have k6 := cell_later hb4 k6
    have k7 := cell_later hb4 k7
    have k8 := cell_later hb4 k8
    have l5 := fro_later hb4 l5 (by simp; omega)
    have l6 := fro_later hb4 l6 (by simp; omega)
    clear hb4 y0 y1 y2
    go_wp2_with fail
    refine (Of_num _ _ _ h1 h2 i2).mono ?_
    rintro e w5 ⟨rfl, hb5⟩
    have HB := chainB HB hb5
    have k5 := cell_later hb5 k5
    have k6 := cell_later hb5 k6
    have k7 := cell_later hb5 k7
    have k8 := cell_later hb5 k8
    have l5 := fro_later hb5 l5 x2
    have l6 := fro_later hb5 l6 x2
    have x2 : w.heap.size + 1 + 1 < w5.heap.size := by have := hb5.size; omega
    clear hb5 k1 k2 k3 k4 x8
    go_wp2_with fail
    refine (addF_any _ _ _).mono ?_
    rintro e w6 ⟨r, rfl, hv, hb6⟩
    have HV : Hid (flt r = fltO (floatBits .add .f64 (ofX 3 m) (ofX t n))) := hv
    have HB := chainB HB hb6
    have k5 := cell_later hb6 k5
    have k6 := cell_later hb6 k6
    have l5 := fro_later hb6 l5 x2
    have l6 := fro_later hb6 l6 x2
    have x2 : w.heap.size + 1 + 1 < w6.heap.size := by have := hb6.size; omega
    clear hb6 hv k7 k8
    go_wp2_with fail
    refine (Float_any _ _).mono ?_
    rintro e w7 ⟨rfl, hb7⟩
    have HB := chainB HB hb7
    have k5 := cell_later hb7 k5
    have k6 := cell_later hb7 k6
    have l5 := fro_later hb7 l5 x2
    have l6 := fro_later hb7 l6 x2
    clear hb7
    go_wp2
    refine bodyPost_ret (v := .tuple #[AV 3 (flt r), .int .i64 0]) (by simp [results, Tryz.results26, go_sem, k5, k6]) rfl ⟨by rw [HV.out], ?_⟩
    exact (HB.out.setCell (by simp; omega) _).setCell (by simp; omega) _

set_option maxHeartbeats 2000000 in
theorem Op_fl_2a (m n : Int) (w : World) (g1 : -9223372036854775808 ≤ m) (g2 : m ≤ 9223372036854775807) (h1 : -9223372036854775808 ≤ n) (h2 : n ≤ 9223372036854775807)
    (i1 : isNum 2 m = true) (i2 : isNum 3 n = true) :
    Calls Tryz.prog 26 #[.int .i64 2, AV 2 m, AV 3 n] w fun e w' => e = .returned (.tuple #[AV 3 (fltO (floatBits .sub .f64 (ofX 2 m) (ofX 3 n))), .int .i64 0]) ∧ Below w.heap.size w w' := by
    go_enter Tryz.func26, Tryz.ntmps26
    go_wp2_with fail
    refine (Is_any _ _ _ g1 g2).mono ?_
    rintro e w1 ⟨rfl, hb⟩
    obtain ⟨hc, hf⟩ := bcell hb
    obtain ⟨z0, z1, z2⟩ := size3 hb
    have HB : Hid (Below w.heap.size w w1) := end3 hb
    go_wp2_with fail
    refine (Is_any _ _ _ h1 h2).mono ?_
    rintro e w2 ⟨rfl, hb2⟩
    have c1 := cell_later hb2 (show w1.cell? ⟨w.heap.size, 0, none⟩ = some (.int .i64 2) by simp [go_sem, hc])
    have c2 := cell_later hb2 (show w1.cell? ⟨w.heap.size, 1, none⟩ = some (.int .i64 m) by simp [go_sem, hc])
    have c3 := cell_later hb2 (show w1.cell? ⟨w.heap.size + 1, 0, none⟩ = some (.int .i64 3) by simp [go_sem, hc])
    have c4 := cell_later hb2 (show w1.cell? ⟨w.heap.size + 1, 1, none⟩ = some (.int .i64 n) by simp [go_sem, hc])
    have c5 := cell_later hb2 (show w1.cell? ⟨w.heap.size + 1 + 1, 0, none⟩ = some (.int .i64 0) by simp [go_sem, hc])
    have c6 := cell_later hb2 (show w1.cell? ⟨w.heap.size + 1 + 1, 1, none⟩ = some (.int .i64 0) by simp [go_sem, hc])
    obtain ⟨_, hf2⟩ := bcell hb2
    have f5 : w2.frozen? ⟨w.heap.size + 1 + 1, 0, none⟩ = false := by rw [hf2 _ _ z2]; simp [go_sem, hf]
    have f6 : w2.frozen? ⟨w.heap.size + 1 + 1, 1, none⟩ = false := by rw [hf2 _ _ z2]; simp [go_sem, hf]
    have HB := chainB HB hb2
    have y2 : w.heap.size + 1 + 1 < w2.heap.size := by have := hb2.size; omega
    clear hc hf hf2 z0 z1 z2 hb hb2
    go_wp2_with fail
    refine (opOf_2 _).mono ?_
    rintro e w3 ⟨rfl, hb3⟩
    have c1 := cell_later hb3 c1
    have c2 := cell_later hb3 c2
    have c3 := cell_later hb3 c3
    have c4 := cell_later hb3 c4
    have c5 := cell_later hb3 c5
    have c6 := cell_later hb3 c6
    obtain ⟨_, hf3⟩ := bcell hb3
    have f5 : w3.frozen? ⟨w.heap.size + 1 + 1, 0, none⟩ = false := by rw [hf3 _ _ y2]; exact f5
    have f6 : w3.frozen? ⟨w.heap.size + 1 + 1, 1, none⟩ = false := by rw [hf3 _ _ y2]; exact f6
    have HB := chainB HB hb3
    have y2 : w.heap.size + 1 + 1 < w3.heap.size := by have := hb3.size; omega
    have y1 : w.heap.size + 1 < w3.heap.size := by omega
    have y0 : w.heap.size < w3.heap.size := by omega
    clear hf3 hb3
    go_wp2_with fail
    have k1 := al c1 y0 (o := .cells #[(fnV 71), (fnV 72)] 65)
    have k2 := al c2 y0 (o := .cells #[(fnV 71), (fnV 72)] 65)
    have k3 := al c3 y1 (o := .cells #[(fnV 71), (fnV 72)] 65)
    have k4 := al c4 y1 (o := .cells #[(fnV 71), (fnV 72)] 65)
    have k5 := al c5 y2 (o := .cells #[(fnV 71), (fnV 72)] 65)
    have k6 := al c6 y2 (o := .cells #[(fnV 71), (fnV 72)] 65)
    have k7 : (w3.alloc (.cells #[(fnV 71), (fnV 72)] 65)).cell? ⟨w3.heap.size, 0, none⟩ = some (fnV 71) := by simp [go_sem]
    have k8 : (w3.alloc (.cells #[(fnV 71), (fnV 72)] 65)).cell? ⟨w3.heap.size, 1, none⟩ = some (fnV 72) := by simp [go_sem]
    have l5 := alf f5 y2 (o := .cells #[(fnV 71), (fnV 72)] 65)
    have l6 := alf f6 y2 (o := .cells #[(fnV 71), (fnV 72)] 65)
    have HB : Hid (Below w.heap.size w (w3.alloc (.cells #[(fnV 71), (fnV 72)] 65))) := HB.out.alloc HB.out.size _
    clear c1 c2 c3 c4 c5 c6 f5 f6
    refine (Of_num _ _ _ g1 g2 i1).mono ?_
    rintro e w4 ⟨rfl, hb4⟩
    have HB := chainB HB hb4
    have x8 : w3.heap.size < w4.heap.size := by have := hb4.size; simp at this; omega
    have x2 : w.heap.size + 1 + 1 < w4.heap.size := by omega
    have k1 := cell_later hb4 k1
    have k2 := cell_later hb4 k2
    have k3 := cell_later hb4 k3
    have k4 := cell_later hb4 k4
    have k5 := cell_later hb4 k5
    have k6 := cell_later hb4 k6
    have k7 := cell_later hb4 k7
    have k8 := cell_later hb4 k8
    have l5 := fro_later hb4 l5 (by simp; omega)
    have l6 := fro_later hb4 l6 (by simp; omega)
    clear hb4 y0 y1 y2
    go_wp2_with fail
    refine (Of_num _ _ _ h1 h2 i2).mono ?_
    rintro e w5 ⟨rfl, hb5⟩
    have HB := chainB HB hb5
    have k5 := cell_later hb5 k5
    have k6 := cell_later hb5 k6
    have k7 := cell_later hb5 k7
    have k8 := cell_later hb5 k8
    have l5 := fro_later hb5 l5 x2
    have l6 := fro_later hb5 l6 x2
    have x2 : w.heap.size + 1 + 1 < w5.heap.size := by have := hb5.size; omega
    clear hb5 k1 k2 k3 k4 x8
    go_wp2_with fail
    refine (subF_any _ _ _).mono ?_
    rintro e w6 ⟨r, rfl, hv, hb6⟩
    have HV : Hid (flt r = fltO (floatBits .sub .f64 (ofX 2 m) (ofX 3 n))) := hv
    have HB := chainB HB hb6
    have k5 := cell_later hb6 k5
    have k6 := cell_later hb6 k6
    have l5 := fro_later hb6 l5 x2
    have l6 := fro_later hb6 l6 x2
    have x2 : w.heap.size + 1 + 1 < w6.heap.size := by have := hb6.size; omega
    clear hb6 hv k7 k8
    go_wp2_with fail
    refine (Float_any _ _).mono ?_
    rintro e w7 ⟨rfl, hb7⟩
    have HB := chainB HB hb7
    have k5 := cell_later hb7 k5
    have k6 := cell_later hb7 k6
    have l5 := fro_later hb7 l5 x2
    have l6 := fro_later hb7 l6 x2
    clear hb7
    go_wp2
    refine bodyPost_ret (v := .tuple #[AV 3 (flt r), .int .i64 0]) (by simp [results, Tryz.results26, go_sem, k5, k6]) rfl ⟨by rw [HV.out], ?_⟩
    exact (HB.out.setCell (by simp; omega) _).setCell (by simp; omega) _

set_option maxHeartbeats 2000000 in
theorem Op_fl_2b (t m n : Int) (w : World) (g1 : -9223372036854775808 ≤ m) (g2 : m ≤ 9223372036854775807) (h1 : -9223372036854775808 ≤ n) (h2 : n ≤ 9223372036854775807)
    (i1 : isNum 3 m = true) (i2 : isNum t n = true) :
    Calls Tryz.prog 26 #[.int .i64 2, AV 3 m, AV t n] w fun e w' => e = .returned (.tuple #[AV 3 (fltO (floatBits .sub .f64 (ofX 3 m) (ofX t n))), .int .i64 0]) ∧ Below w.heap.size w w' := by
    go_enter Tryz.func26, Tryz.ntmps26
    go_wp2_with fail
    refine (Is_any _ _ _ g1 g2).mono ?_
    rintro e w1 ⟨rfl, hb⟩
    obtain ⟨hc, hf⟩ := bcell hb
    obtain ⟨z0, z1, z2⟩ := size3 hb
    have HB : Hid (Below w.heap.size w w1) := end3 hb
    go_wp2_with fail
    refine (Is_any _ _ _ h1 h2).mono ?_
    rintro e w2 ⟨rfl, hb2⟩
    have c1 := cell_later hb2 (show w1.cell? ⟨w.heap.size, 0, none⟩ = some (.int .i64 3) by simp [go_sem, hc])
    have c2 := cell_later hb2 (show w1.cell? ⟨w.heap.size, 1, none⟩ = some (.int .i64 m) by simp [go_sem, hc])
    have c3 := cell_later hb2 (show w1.cell? ⟨w.heap.size + 1, 0, none⟩ = some (.int .i64 t) by simp [go_sem, hc])
    have c4 := cell_later hb2 (show w1.cell? ⟨w.heap.size + 1, 1, none⟩ = some (.int .i64 n) by simp [go_sem, hc])
    have c5 := cell_later hb2 (show w1.cell? ⟨w.heap.size + 1 + 1, 0, none⟩ = some (.int .i64 0) by simp [go_sem, hc])
    have c6 := cell_later hb2 (show w1.cell? ⟨w.heap.size + 1 + 1, 1, none⟩ = some (.int .i64 0) by simp [go_sem, hc])
    obtain ⟨_, hf2⟩ := bcell hb2
    have f5 : w2.frozen? ⟨w.heap.size + 1 + 1, 0, none⟩ = false := by rw [hf2 _ _ z2]; simp [go_sem, hf]
    have f6 : w2.frozen? ⟨w.heap.size + 1 + 1, 1, none⟩ = false := by rw [hf2 _ _ z2]; simp [go_sem, hf]
    have HB := chainB HB hb2
    have y2 : w.heap.size + 1 + 1 < w2.heap.size := by have := hb2.size; omega
    clear hc hf hf2 z0 z1 z2 hb hb2
    go_wp2_with fail
    refine (opOf_2 _).mono ?_
    rintro e w3 ⟨rfl, hb3⟩
    have c1 := cell_later hb3 c1
    have c2 := cell_later hb3 c2
    have c3 := cell_later hb3 c3
    have c4 := cell_later hb3 c4
    have c5 := cell_later hb3 c5
    have c6 := cell_later hb3 c6
    obtain ⟨_, hf3⟩ := bcell hb3
    have f5 : w3.frozen? ⟨w.heap.size + 1 + 1, 0, none⟩ = false := by rw [hf3 _ _ y2]; exact f5
    have f6 : w3.frozen? ⟨w.heap.size + 1 + 1, 1, none⟩ = false := by rw [hf3 _ _ y2]; exact f6
    have HB := chainB HB hb3
    have y2 : w.heap.size + 1 + 1 < w3.heap.size := by have := hb3.size; omega
    have y1 : w.heap.size + 1 < w3.heap.size := by omega
    have y0 : w.heap.size < w3.heap.size := by omega
    clear hf3 hb3
    go_wp2_with fail
    have k1 := al c1 y0 (o := .cells #[(fnV 71), (fnV 72)] 65)
    have k2 := al c2 y0 (o := .cells #[(fnV 71), (fnV 72)] 65)
    have k3 := al c3 y1 (o := .cells #[(fnV 71), (fnV 72)] 65)
    have k4 := al c4 y1 (o := .cells #[(fnV 71), (fnV 72)] 65)
    have k5 := al c5 y2 (o := .cells #[(fnV 71), (fnV 72)] 65)
    have k6 := al c6 y2 (o := .cells #[(fnV 71), (fnV 72)] 65)
    have k7 : (w3.alloc (.cells #[(fnV 71), (fnV 72)] 65)).cell? ⟨w3.heap.size, 0, none⟩ = some (fnV 71) := by simp [go_sem]
    have k8 : (w3.alloc (.cells #[(fnV 71), (fnV 72)] 65)).cell? ⟨w3.heap.size, 1, none⟩ = some (fnV 72) := by simp [go_sem]
    have l5 := alf f5 y2 (o := .cells #[(fnV 71), (fnV 72)] 65)
    have l6 := alf f6 y2 (o := .cells #[(fnV 71), (fnV 72)] 65)
    have HB : Hid (Below w.heap.size w (w3.alloc (.cells #[(fnV 71), (fnV 72)] 65))) := HB.out.alloc HB.out.size _
    clear c1 c2 c3 c4 c5 c6 f5 f6
    refine (Of_num _ _ _ g1 g2 i1).mono ?_
    rintro e w4 ⟨rfl, hb4⟩
    have HB := chainB HB hb4
    have x8 : w3.heap.size < w4.heap.size := by have := hb4.size; simp at this; omega
    have x2 : w.heap.size + 1 + 1 < w4.heap.size := by omega
    have k1 := cell_later hb4 k1
    have k2 := cell_later hb4 k2
    have k3 := cell_later hb4 k3
    have k4 := cell_later hb4 k4
    have k5 := cell_later hb4 k5
    have k6 := cell_later hb4 k6
    have k7 := cell_later hb4 k7
    have k8 := cell_later hb4 k8
    have l5 := fro_later hb4 l5 (by simp; omega)
    have l6 := fro_later hb4 l6 (by simp; omega)
    clear hb4 y0 y1 y2
    go_wp2_with fail
    refine (Of_num _ _ _ h1 h2 i2).mono ?_
    rintro e w5 ⟨rfl, hb5⟩
    have HB := chainB HB hb5
    have k5 := cell_later hb5 k5
    have k6 := cell_later hb5 k6
    have k7 := cell_later hb5 k7
    have k8 := cell_later hb5 k8
    have l5 := fro_later hb5 l5 x2
    have l6 := fro_later hb5 l6 x2
    have x2 : w.heap.size + 1 + 1 < w5.heap.size := by have := hb5.size; omega
    clear hb5 k1 k2 k3 k4 x8
    go_wp2_with fail
    refine (subF_any _ _ _).mono ?_
    rintro e w6 ⟨r, rfl, hv, hb6⟩
    have HV : Hid (flt r = fltO (floatBits .sub .f64 (ofX 3 m) (ofX t n))) := hv
    have HB := chainB HB hb6
    have k5 := cell_later hb6 k5
    have k6 := cell_later hb6 k6
    have l5 := fro_later hb6 l5 x2
    have l6 := fro_later hb6 l6 x2
    have x2 : w.heap.size + 1 + 1 < w6.heap.size := by have := hb6.size; omega
    clear hb6 hv k7 k8
    go_wp2_with fail
    refine (Float_any _ _).mono ?_
    rintro e w7 ⟨rfl, hb7⟩
    have HB := chainB HB hb7
    have k5 := cell_later hb7 k5
    have k6 := cell_later hb7 k6
    have l5 := fro_later hb7 l5 x2
    have l6 := fro_later hb7 l6 x2
    clear hb7
    go_wp2
    refine bodyPost_ret (v := .tuple #[AV 3 (flt r), .int .i64 0]) (by simp [results, Tryz.results26, go_sem, k5, k6]) rfl ⟨by rw [HV.out], ?_⟩
    exact (HB.out.setCell (by simp; omega) _).setCell (by simp; omega) _

set_option maxHeartbeats 2000000 in
theorem Op_fl_3a (m n : Int) (w : World) (g1 : -9223372036854775808 ≤ m) (g2 : m ≤ 9223372036854775807) (h1 : -9223372036854775808 ≤ n) (h2 : n ≤ 9223372036854775807)
    (i1 : isNum 2 m = true) (i2 : isNum 3 n = true) :
    Calls Tryz.prog 26 #[.int .i64 3, AV 2 m, AV 3 n] w fun e w' => e = .returned (.tuple #[AV 3 (fltO (floatBits .mul .f64 (ofX 2 m) (ofX 3 n))), .int .i64 0]) ∧ Below w.heap.size w w' := by
    go_enter Tryz.func26, Tryz.ntmps26
    go_wp2_with fail
    refine (Is_any _ _ _ g1 g2).mono ?_
    rintro e w1 ⟨rfl, hb⟩
    obtain ⟨hc, hf⟩ := bcell hb
    obtain ⟨z0, z1, z2⟩ := size3 hb
    have HB : Hid (Below w.heap.size w w1) := end3 hb
    go_wp2_with fail
    refine (Is_any _ _ _ h1 h2).mono ?_
    rintro e w2 ⟨rfl, hb2⟩
    have c1 := cell_later hb2 (show w1.cell? ⟨w.heap.size, 0, none⟩ = some (.int .i64 2) by simp [go_sem, hc])
    have c2 := cell_later hb2 (show w1.cell? ⟨w.heap.size, 1, none⟩ = some (.int .i64 m) by simp [go_sem, hc])
    have c3 := cell_later hb2 (show w1.cell? ⟨w.heap.size + 1, 0, none⟩ = some (.int .i64 3) by simp [go_sem, hc])
    have c4 := cell_later hb2 (show w1.cell? ⟨w.heap.size + 1, 1, none⟩ = some (.int .i64 n) by simp [go_sem, hc])
    have c5 := cell_later hb2 (show w1.cell? ⟨w.heap.size + 1 + 1, 0, none⟩ = some (.int .i64 0) by simp [go_sem, hc])
    have c6 := cell_later hb2 (show w1.cell? ⟨w.heap.size + 1 + 1, 1, none⟩ = some (.int .i64 0) by simp [go_sem, hc])
    obtain ⟨_, hf2⟩ := bcell hb2
    have f5 : w2.frozen? ⟨w.heap.size + 1 + 1, 0, none⟩ = false := by rw [hf2 _ _ z2]; simp [go_sem, hf]
    have f6 : w2.frozen? ⟨w.heap.size + 1 + 1, 1, none⟩ = false := by rw [hf2 _ _ z2]; simp [go_sem, hf]
    have HB := chainB HB hb2
    have y2 : w.heap.size + 1 + 1 < w2.heap.size := by have := hb2.size; omega
    clear hc hf hf2 z0 z1 z2 hb hb2
    go_wp2_with fail
    refine (opOf_3 _).mono ?_
    rintro e w3 ⟨rfl, hb3⟩
    have c1 := cell_later hb3 c1
    have c2 := cell_later hb3 c2
    have c3 := cell_later hb3 c3
    have c4 := cell_later hb3 c4
    have c5 := cell_later hb3 c5
    have c6 := cell_later hb3 c6
    obtain ⟨_, hf3⟩ := bcell hb3
    have f5 : w3.frozen? ⟨w.heap.size + 1 + 1, 0, none⟩ = false := by rw [hf3 _ _ y2]; exact f5
    have f6 : w3.frozen? ⟨w.heap.size + 1 + 1, 1, none⟩ = false := by rw [hf3 _ _ y2]; exact f6
    have HB := chainB HB hb3
    have y2 : w.heap.size + 1 + 1 < w3.heap.size := by have := hb3.size; omega
    have y1 : w.heap.size + 1 < w3.heap.size := by omega
    have y0 : w.heap.size < w3.heap.size := by omega
    clear hf3 hb3
    go_wp2_with fail
    have k1 := al c1 y0 (o := .cells #[(fnV 73), (fnV 74)] 65)
    have k2 := al c2 y0 (o := .cells #[(fnV 73), (fnV 74)] 65)
    have k3 := al c3 y1 (o := .cells #[(fnV 73), (fnV 74)] 65)
    have k4 := al c4 y1 (o := .cells #[(fnV 73), (fnV 74)] 65)
    have k5 := al c5 y2 (o := .cells #[(fnV 73), (fnV 74)] 65)
    have k6 := al c6 y2 (o := .cells #[(fnV 73), (fnV 74)] 65)
    have k7 : (w3.alloc (.cells #[(fnV 73), (fnV 74)] 65)).cell? ⟨w3.heap.size, 0, none⟩ = some (fnV 73) := by simp [go_sem]
    have k8 : (w3.alloc (.cells #[(fnV 73), (fnV 74)] 65)).cell? ⟨w3.heap.size, 1, none⟩ = some (fnV 74) := by simp [go_sem]
    have l5 := alf f5 y2 (o := .cells #[(fnV 73), (fnV 74)] 65)
    have l6 := alf f6 y2 (o := .cells #[(fnV 73), (fnV 74)] 65)
    have HB : Hid (Below w.heap.size w (w3.alloc (.cells #[(fnV 73), (fnV 74)] 65))) := HB.out.alloc HB.out.size _
    clear c1 c2 c3 c4 c5 c6 f5 f6
    refine (Of_num _ _ _ g1 g2 i1).mono ?_
    rintro e w4 ⟨rfl, hb4⟩
    have HB := chainB HB hb4
    have x8 : w3.heap.size < w4.heap.size := by have := hb4.size; simp at this; omega
    have x2 : w.heap.size + 1 + 1 < w4.heap.size := by omega
    have k1 := cell_later hb4 k1
    have k2 := cell_later hb4 k2
    have k3 := cell_later hb4 k3
    have k4 := cell_later hb4 k4
    have k5 := cell_later hb4 k5
    have k6 := cell_later hb4 k6
    have k7 := cell_later hb4 k7
    have k8 := cell_later hb4 k8
    have l5 := fro_later hb4 l5 (by simp; omega)
    have l6 := fro_later hb4 l6 (by simp; omega)
    clear hb4 y0 y1 y2
    go_wp2_with fail
    refine (Of_num _ _ _ h1 h2 i2).mono ?_
    rintro e w5 ⟨rfl, hb5⟩
    have HB := chainB HB hb5
    have k5 := cell_later hb5 k5
    have k6 := cell_later hb5 k6
    have k7 := cell_later hb5 k7
    have k8 := cell_later hb5 k8
    have l5 := fro_later hb5 l5 x2
    have l6 := fro_later hb5 l6 x2
    have x2 : w.heap.size + 1 + 1 < w5.heap.size := by have := hb5.size; omega
    clear hb5 k1 k2 k3 k4 x8
    go_wp2_with fail
    refine (mulF_any _ _ _).mono ?_
    rintro e w6 ⟨r, rfl, hv, hb6⟩
    have HV : Hid (flt r = fltO (floatBits .mul .f64 (ofX 2 m) (ofX 3 n))) := hv
    have HB := chainB HB hb6
    have k5 := cell_later hb6 k5
    have k6 := cell_later hb6 k6
    have l5 := fro_later hb6 l5 x2
    have l6 := fro_later hb6 l6 x2
    have x2 : w.heap.size + 1 + 1 < w6.heap.size := by have := hb6.size; omega
    clear hb6 hv k7 k8
    go_wp2_with fail
    refine (Float_any _ _).mono ?_
    rintro e w7 ⟨rfl, hb7⟩
    have HB := chainB HB hb7
    have k5 := cell_later hb7 k5
    have k6 := cell_later hb7 k6
    have l5 := fro_later hb7 l5 x2
    have l6 := fro_later hb7 l6 x2
    clear hb7
    go_wp2
    refine bodyPost_ret (v := .tuple #[AV 3 (flt r), .int .i64 0]) (by simp [results, Tryz.results26, go_sem, k5, k6]) rfl ⟨by rw [HV.out], ?_⟩
    exact (HB.out.setCell (by simp; omega) _).setCell (by simp; omega) _

set_option maxHeartbeats 2000000 in
theorem Op_fl_3b (t m n : Int) (w : World) (g1 : -9223372036854775808 ≤ m) (g2 : m ≤ 9223372036854775807) (h1 : -9223372036854775808 ≤ n) (h2 : n ≤ 9223372036854775807)
    (i1 : isNum 3 m = true) (i2 : isNum t n = true) :
    Calls Tryz.prog 26 #[.int .i64 3, AV 3 m, AV t n] w fun e w' => e = .returned (.tuple #[AV 3 (fltO (floatBits .mul .f64 (ofX 3 m) (ofX t n))), .int .i64 0]) ∧ Below w.heap.size w w' := by
    go_enter Tryz.func26, Tryz.ntmps26
    go_wp2_with fail
    refine (Is_any _ _ _ g1 g2).mono ?_
    rintro e w1 ⟨rfl, hb⟩
    obtain ⟨hc, hf⟩ := bcell hb
    obtain ⟨z0, z1, z2⟩ := size3 hb
    have HB : Hid (Below w.heap.size w w1) := end3 hb
    go_wp2_with fail
    refine (Is_any _ _ _ h1 h2).mono ?_
    rintro e w2 ⟨rfl, hb2⟩
    have c1 := cell_later hb2 (show w1.cell? ⟨w.heap.size, 0, none⟩ = some (.int .i64 3) by simp [go_sem, hc])
    have c2 := cell_later hb2 (show w1.cell? ⟨w.heap.size, 1, none⟩ = some (.int .i64 m) by simp [go_sem, hc])
    have c3 := cell_later hb2 (show w1.cell? ⟨w.heap.size + 1, 0, none⟩ = some (.int .i64 t) by simp [go_sem, hc])
    have c4 := cell_later hb2 (show w1.cell? ⟨w.heap.size + 1, 1, none⟩ = some (.int .i64 n) by simp [go_sem, hc])
    have c5 := cell_later hb2 (show w1.cell? ⟨w.heap.size + 1 + 1, 0, none⟩ = some (.int .i64 0) by simp [go_sem, hc])
    have c6 := cell_later hb2 (show w1.cell? ⟨w.heap.size + 1 + 1, 1, none⟩ = some (.int .i64 0) by simp [go_sem, hc])
    obtain ⟨_, hf2⟩ := bcell hb2
    have f5 : w2.frozen? ⟨w.heap.size + 1 + 1, 0, none⟩ = false := by rw [hf2 _ _ z2]; simp [go_sem, hf]
    have f6 : w2.frozen? ⟨w.heap.size + 1 + 1, 1, none⟩ = false := by rw [hf2 _ _ z2]; simp [go_sem, hf]
    have HB := chainB HB hb2
    have y2 : w.heap.size + 1 + 1 < w2.heap.size := by have := hb2.size; omega
    clear hc hf hf2 z0 z1 z2 hb hb2
    go_wp2_with fail
    refine (opOf_3 _).mono ?_
    rintro e w3 ⟨rfl, hb3⟩
    have c1 := cell_later hb3 c1
    have c2 := cell_later hb3 c2
    have c3 := cell_later hb3 c3
    have c4 := cell_later hb3 c4
    have c5 := cell_later hb3 c5
    have c6 := cell_later hb3 c6
    obtain ⟨_, hf3⟩ := bcell hb3
    have f5 : w3.frozen? ⟨w.heap.size + 1 + 1, 0, none⟩ = false := by rw [hf3 _ _ y2]; exact f5
    have f6 : w3.frozen? ⟨w.heap.size + 1 + 1, 1, none⟩ = false := by rw [hf3 _ _ y2]; exact f6
    have HB := chainB HB hb3
    have y2 : w.heap.size + 1 + 1 < w3.heap.size := by have := hb3.size; omega
    have y1 : w.heap.size + 1 < w3.heap.size := by omega
    have y0 : w.heap.size < w3.heap.size := by omega
    clear hf3 hb3
    go_wp2_with fail
    have k1 := al c1 y0 (o := .cells #[(fnV 73), (fnV 74)] 65)
    have k2 := al c2 y0 (o := .cells #[(fnV 73), (fnV 74)] 65)
    have k3 := al c3 y1 (o := .cells #[(fnV 73), (fnV 74)] 65)
    have k4 := al c4 y1 (o := .cells #[(fnV 73), (fnV 74)] 65)
    have k5 := al c5 y2 (o := .cells #[(fnV 73), (fnV 74)] 65)
    have k6 := al c6 y2 (o := .cells #[(fnV 73), (fnV 74)] 65)
    have k7 : (w3.alloc (.cells #[(fnV 73), (fnV 74)] 65)).cell? ⟨w3.heap.size, 0, none⟩ = some (fnV 73) := by simp [go_sem]
    have k8 : (w3.alloc (.cells #[(fnV 73), (fnV 74)] 65)).cell? ⟨w3.heap.size, 1, none⟩ = some (fnV 74) := by simp [go_sem]
    have l5 := alf f5 y2 (o := .cells #[(fnV 73), (fnV 74)] 65)
    have l6 := alf f6 y2 (o := .cells #[(fnV 73), (fnV 74)] 65)
    have HB : Hid (Below w.heap.size w (w3.alloc (.cells #[(fnV 73), (fnV 74)] 65))) := HB.out.alloc HB.out.size _
    clear c1 c2 c3 c4 c5 c6 f5 f6
    refine (Of_num _ _ _ g1 g2 i1).mono ?_
    rintro e w4 ⟨rfl, hb4⟩
    have HB := chainB HB hb4
    have x8 : w3.heap.size < w4.heap.size := by have := hb4.size; simp at this; omega
    have x2 : w.heap.size + 1 + 1 < w4.heap.size := by omega
    have k1 := cell_later hb4 k1
    have k2 := cell_later hb4 k2
    have k3 := cell_later hb4 k3
    have k4 := cell_later hb4 k4
    have k5 := cell_later hb4 k5
    have k6 := cell_later hb4 k6
    have k7 := cell_later hb4 k7
    have k8 := cell_later hb4 k8
    have l5 := fro_later hb4 l5 (by simp; omega)
    have l6 := fro_later hb4 l6 (by simp; omega)
    clear hb4 y0 y1 y2
    go_wp2_with fail
    refine (Of_num _ _ _ h1 h2 i2).mono ?_
    rintro e w5 ⟨rfl, hb5⟩
    have HB := chainB HB hb5
    have k5 := cell_later hb5 k5
    have k6 := cell_later hb5 k6
    have k7 := cell_later hb5 k7
    have k8 := cell_later hb5 k8
    have l5 := fro_later hb5 l5 x2
    have l6 := fro_later hb5 l6 x2
    have x2 : w.heap.size + 1 + 1 < w5.heap.size := by have := hb5.size; omega
    clear hb5 k1 k2 k3 k4 x8
    go_wp2_with fail
    refine (mulF_any _ _ _).mono ?_
    rintro e w6 ⟨r, rfl, hv, hb6⟩
    have HV : Hid (flt r = fltO (floatBits .mul .f64 (ofX 3 m) (ofX t n))) := hv
    have HB := chainB HB hb6
    have k5 := cell_later hb6 k5
    have k6 := cell_later hb6 k6
    have l5 := fro_later hb6 l5 x2
    have l6 := fro_later hb6 l6 x2
    have x2 : w.heap.size + 1 + 1 < w6.heap.size := by have := hb6.size; omega
    clear hb6 hv k7 k8
    go_wp2_with fail
    refine (Float_any _ _).mono ?_
    rintro e w7 ⟨rfl, hb7⟩
    have HB := chainB HB hb7
    have k5 := cell_later hb7 k5
    have k6 := cell_later hb7 k6
    have l5 := fro_later hb7 l5 x2
    have l6 := fro_later hb7 l6 x2
    clear hb7
    go_wp2
    refine bodyPost_ret (v := .tuple #[AV 3 (flt r), .int .i64 0]) (by simp [results, Tryz.results26, go_sem, k5, k6]) rfl ⟨by rw [HV.out], ?_⟩
    exact (HB.out.setCell (by simp; omega) _).setCell (by simp; omega) _

set_option maxHeartbeats 2000000 in
theorem Op_fl_4a (s t m n : Int) (w : World) (g1 : -9223372036854775808 ≤ m) (g2 : m ≤ 9223372036854775807) (h1 : -9223372036854775808 ≤ n) (h2 : n ≤ 9223372036854775807)
    (i1 : isNum s m = true) (i2 : isNum t n = true) :
    Calls Tryz.prog 26 #[.int .i64 4, AV s m, AV t n] w fun e w' => e = .returned (.tuple #[AV 3 (fltO (floatBits .quo .f64 (ofX s m) (ofX t n))), .int .i64 0]) ∧ Below w.heap.size w w' := by
    go_enter Tryz.func26, Tryz.ntmps26
    go_wp2_with fail
    refine (Is_any _ _ _ g1 g2).mono ?_
    rintro e w1 ⟨rfl, hb⟩
    obtain ⟨hc, hf⟩ := bcell hb
    obtain ⟨z0, z1, z2⟩ := size3 hb
    have HB : Hid (Below w.heap.size w w1) := end3 hb
    go_wp2_with fail
    refine (Is_any _ _ _ h1 h2).mono ?_
    rintro e w2 ⟨rfl, hb2⟩
    have c1 := cell_later hb2 (show w1.cell? ⟨w.heap.size, 0, none⟩ = some (.int .i64 s) by simp [go_sem, hc])
    have c2 := cell_later hb2 (show w1.cell? ⟨w.heap.size, 1, none⟩ = some (.int .i64 m) by simp [go_sem, hc])
    have c3 := cell_later hb2 (show w1.cell? ⟨w.heap.size + 1, 0, none⟩ = some (.int .i64 t) by simp [go_sem, hc])
    have c4 := cell_later hb2 (show w1.cell? ⟨w.heap.size + 1, 1, none⟩ = some (.int .i64 n) by simp [go_sem, hc])
    have c5 := cell_later hb2 (show w1.cell? ⟨w.heap.size + 1 + 1, 0, none⟩ = some (.int .i64 0) by simp [go_sem, hc])
    have c6 := cell_later hb2 (show w1.cell? ⟨w.heap.size + 1 + 1, 1, none⟩ = some (.int .i64 0) by simp [go_sem, hc])
    obtain ⟨_, hf2⟩ := bcell hb2
    have f5 : w2.frozen? ⟨w.heap.size + 1 + 1, 0, none⟩ = false := by rw [hf2 _ _ z2]; simp [go_sem, hf]
    have f6 : w2.frozen? ⟨w.heap.size + 1 + 1, 1, none⟩ = false := by rw [hf2 _ _ z2]; simp [go_sem, hf]
    have HB := chainB HB hb2
    have y2 : w.heap.size + 1 + 1 < w2.heap.size := by have := hb2.size; omega
    clear hc hf hf2 z0 z1 z2 hb hb2
    go_wp2_with fail
    refine (opOf_4 _).mono ?_
    rintro e w3 ⟨rfl, hb3⟩
    have c1 := cell_later hb3 c1
    have c2 := cell_later hb3 c2
    have c3 := cell_later hb3 c3
    have c4 := cell_later hb3 c4
    have c5 := cell_later hb3 c5
    have c6 := cell_later hb3 c6
    obtain ⟨_, hf3⟩ := bcell hb3
    have f5 : w3.frozen? ⟨w.heap.size + 1 + 1, 0, none⟩ = false := by rw [hf3 _ _ y2]; exact f5
    have f6 : w3.frozen? ⟨w.heap.size + 1 + 1, 1, none⟩ = false := by rw [hf3 _ _ y2]; exact f6
    have HB := chainB HB hb3
    have y2 : w.heap.size + 1 + 1 < w3.heap.size := by have := hb3.size; omega
    have y1 : w.heap.size + 1 < w3.heap.size := by omega
    have y0 : w.heap.size < w3.heap.size := by omega
    clear hf3 hb3
    go_wp2_with fail
    have k1 := al c1 y0 (o := .cells #[.nilFunc, (fnV 75)] 65)
    have k2 := al c2 y0 (o := .cells #[.nilFunc, (fnV 75)] 65)
    have k3 := al c3 y1 (o := .cells #[.nilFunc, (fnV 75)] 65)
    have k4 := al c4 y1 (o := .cells #[.nilFunc, (fnV 75)] 65)
    have k5 := al c5 y2 (o := .cells #[.nilFunc, (fnV 75)] 65)
    have k6 := al c6 y2 (o := .cells #[.nilFunc, (fnV 75)] 65)
    have k7 : (w3.alloc (.cells #[.nilFunc, (fnV 75)] 65)).cell? ⟨w3.heap.size, 0, none⟩ = some .nilFunc := by simp [go_sem]
    have k8 : (w3.alloc (.cells #[.nilFunc, (fnV 75)] 65)).cell? ⟨w3.heap.size, 1, none⟩ = some (fnV 75) := by simp [go_sem]
    have l5 := alf f5 y2 (o := .cells #[.nilFunc, (fnV 75)] 65)
    have l6 := alf f6 y2 (o := .cells #[.nilFunc, (fnV 75)] 65)
    have HB : Hid (Below w.heap.size w (w3.alloc (.cells #[.nilFunc, (fnV 75)] 65))) := HB.out.alloc HB.out.size _
    clear c1 c2 c3 c4 c5 c6 f5 f6
    refine (Of_num _ _ _ g1 g2 i1).mono ?_
    rintro e w4 ⟨rfl, hb4⟩
    have HB := chainB HB hb4
    have x8 : w3.heap.size < w4.heap.size := by have := hb4.size; simp at this; omega
    have x2 : w.heap.size + 1 + 1 < w4.heap.size := by omega
    have k1 := cell_later hb4 k1
    have k2 := cell_later hb4 k2
    have k3 := cell_later hb4 k3
    have k4 := cell_later hb4 k4
    have k5 := cell_later hb4 k5
    have k6 := cell_later hb4 k6
    have k7 := cell_later hb4 k7
    have k8 := cell_later hb4 k8
    have l5 := fro_later hb4 l5 (by simp; omega)
    have l6 := fro_later hb4 l6 (by simp; omega)
    clear hb4 y0 y1 y2
    go_wp2_with fail
    refine (Of_num _ _ _ h1 h2 i2).mono ?_
    rintro e w5 ⟨rfl, hb5⟩
    have HB := chainB HB hb5
    have k5 := cell_later hb5 k5
    have k6 := cell_later hb5 k6
    have k7 := cell_later hb5 k7
    have k8 := cell_later hb5 k8
    have l5 := fro_later hb5 l5 x2
    have l6 := fro_later hb5 l6 x2
    have x2 : w.heap.size + 1 + 1 < w5.heap.size := by have := hb5.size; omega
    clear hb5 k1 k2 k3 k4 x8
    go_wp2_with fail
    refine (quoF_any _ _ _).mono ?_
    rintro e w6 ⟨r, rfl, hv, hb6⟩
    have HV : Hid (flt r = fltO (floatBits .quo .f64 (ofX s m) (ofX t n))) := hv
    have HB := chainB HB hb6
    have k5 := cell_later hb6 k5
    have k6 := cell_later hb6 k6
    have l5 := fro_later hb6 l5 x2
    have l6 := fro_later hb6 l6 x2
    have x2 : w.heap.size + 1 + 1 < w6.heap.size := by have := hb6.size; omega
    clear hb6 hv k7 k8
    go_wp2_with fail
    refine (Float_any _ _).mono ?_
    rintro e w7 ⟨rfl, hb7⟩
    have HB := chainB HB hb7
    have k5 := cell_later hb7 k5
    have k6 := cell_later hb7 k6
    have l5 := fro_later hb7 l5 x2
    have l6 := fro_later hb7 l6 x2
    clear hb7
    go_wp2
    refine bodyPost_ret (v := .tuple #[AV 3 (flt r), .int .i64 0]) (by simp [results, Tryz.results26, go_sem, k5, k6]) rfl ⟨by rw [HV.out], ?_⟩
    exact (HB.out.setCell (by simp; omega) _).setCell (by simp; omega) _
end Go.Proofs.YtdpdpgnpkmfooaaGreatDoor
