/- An operation of two numbers: what is refused, and ints. -/
import Derived.Test.YtdpdpgnpkmfooaaGreatDoorW9
namespace Go.Proofs.YtdpdpgnpkmfooaaGreatDoor
open Go.RowKit

theorem end3 {w w1 : World} {o p q : Obj} (hb : Below (((w.alloc o).alloc p).alloc q).heap.size (((w.alloc o).alloc p).alloc q) w1) : Below w.heap.size w w1 :=
  ((((Below.refl _ _).alloc (Nat.le_refl _) _).alloc (by simp) _).alloc (by simp; omega) _).trans (hb.mono (by simp; omega))
theorem size3 {w w1 : World} {o p q : Obj} (hb : Below (((w.alloc o).alloc p).alloc q).heap.size (((w.alloc o).alloc p).alloc q) w1) :
    w.heap.size < w1.heap.size ∧ w.heap.size + 1 < w1.heap.size ∧ w.heap.size + 1 + 1 < w1.heap.size := by
  have := hb.size; simp at this; omega

theorem al {w : World} {b o' : Nat} {v : Value} {o : Obj} (h : w.cell? ⟨b, o', none⟩ = some v) (hb : b < w.heap.size) : (w.alloc o).cell? ⟨b, o', none⟩ = some v := by
  rw [((Below.refl w.heap.size w).alloc (Nat.le_refl _) o).cell (p := ⟨b, o', none⟩) hb]; exact h
theorem alf {w : World} {b o' : Nat} {v : Bool} {o : Obj} (h : w.frozen? ⟨b, o', none⟩ = v) (hb : b < w.heap.size) : (w.alloc o).frozen? ⟨b, o', none⟩ = v := by
  rw [((Below.refl w.heap.size w).alloc (Nat.le_refl _) o).frozen (p := ⟨b, o', none⟩) hb]; exact h
theorem fro_later {a w : World} {b o' : Nat} {v : Bool} (k : Below a.heap.size a w) (h : a.frozen? ⟨b, o', none⟩ = v) (hb : b < a.heap.size) : w.frozen? ⟨b, o', none⟩ = v := by
  rw [k.frozen (p := ⟨b, o', none⟩) hb]; exact h

set_option maxHeartbeats 1000000 in
theorem Op_arg (op s m t n : Int) (w : World) (ho : op < 1 ∨ 6 < op) :
    Calls Tryz.prog 26 #[.int .i64 op, AV s m, AV t n] w fun e w' => e = .returned (.tuple #[AV 0 0, .int .i64 1]) ∧ Below w.heap.size w w' := by
  rcases ho with ho | ho
  · go_enter Tryz.func26, Tryz.ntmps26
    go_wp2
    refine bodyPost_ret (v := .tuple #[AV 0 0, .int .i64 1]) (by simp [results, Tryz.results26, go_sem]) rfl ⟨rfl, ?_⟩
    exact (((Below.refl _ _).alloc (Nat.le_refl _) _).alloc (by simp) _).alloc (by simp; omega) _
  · have ho' : ¬ op < 1 := by omega
    go_enter Tryz.func26, Tryz.ntmps26
    go_wp2
    refine bodyPost_ret (v := .tuple #[AV 0 0, .int .i64 1]) (by simp [results, Tryz.results26, go_sem]) rfl ⟨rfl, ?_⟩
    exact (((Below.refl _ _).alloc (Nat.le_refl _) _).alloc (by simp) _).alloc (by simp; omega) _

set_option maxHeartbeats 1000000 in
theorem Op_type (op s m t n : Int) (w : World) (o1 : 1 ≤ op) (o2 : op ≤ 6) (g1 : -9223372036854775808 ≤ m) (g2 : m ≤ 9223372036854775807) (h1 : -9223372036854775808 ≤ n) (h2 : n ≤ 9223372036854775807)
    (hi : isNum s m = false ∨ isNum t n = false) :
    Calls Tryz.prog 26 #[.int .i64 op, AV s m, AV t n] w fun e w' => e = .returned (.tuple #[AV 0 0, .int .i64 10]) ∧ Below w.heap.size w w' := by
  cases i1 : isNum s m
  · clear hi
    go_enter Tryz.func26, Tryz.ntmps26
    go_wp2_with fail
    refine (Is_any _ _ _ g1 g2).mono ?_
    rintro e w1 ⟨rfl, hb⟩
    obtain ⟨hc, hf⟩ := bcell hb
    obtain ⟨z0, z1, z2⟩ := size3 hb
    have HB : Hid (Below w.heap.size w w1) := end3 hb
    go_wp2
    refine bodyPost_ret (v := .tuple #[AV 0 0, .int .i64 10]) (by simp [results, Tryz.results26, go_sem, hc]) rfl ⟨rfl, ?_⟩
    exact (HB.out.setCell (by simp; omega) _).setCell (by simp; omega) _
  · have i2 : isNum t n = false := by rcases hi with h | h; (rw [i1] at h; cases h); exact h
    clear hi
    go_enter Tryz.func26, Tryz.ntmps26
    go_wp2_with fail
    refine (Is_any _ _ _ g1 g2).mono ?_
    rintro e w1 ⟨rfl, hb⟩
    obtain ⟨hc, hf⟩ := bcell hb
    obtain ⟨z0, z1, z2⟩ := size3 hb
    have HB : Hid (Below w.heap.size w w1) := end3 hb
    go_wp2_with fail
    refine (Is_any _ _ _ h1 h2).mono ?_
    rintro e w2 ⟨rfl, hb2⟩
    obtain ⟨hc2, hf2⟩ := bcell hb2
    have HB := chainB HB hb2
    have hz2 := hb2.size
    go_wp2
    refine bodyPost_ret (v := .tuple #[AV 0 0, .int .i64 10]) (by simp [results, Tryz.results26, go_sem, hc, hc2, z2]) rfl ⟨rfl, ?_⟩
    exact (HB.out.setCell (by simp; omega) _).setCell (by simp; omega) _

set_option maxHeartbeats 2000000 in
theorem Op_ints_1 (m n : Int) (w : World) (g1 : -9223372036854775808 ≤ m) (g2 : m ≤ 9223372036854775807) (h1 : -9223372036854775808 ≤ n) (h2 : n ≤ 9223372036854775807) :
    Calls Tryz.prog 26 #[.int .i64 1, AV 2 m, AV 2 n] w fun e w' => e = .returned (.tuple #[AV 2 (wrap64 (m + n)), .int .i64 0]) ∧ Below w.heap.size w w' := by
    have i1 : isNum 2 m = true := rfl
    have i2 : isNum 2 n = true := rfl
    go_enter Tryz.func26, Tryz.ntmps26
    go_wp2_with fail
    refine (Is_any _ _ _ g1 g2).mono ?_
    rintro e w1 ⟨rfl, hb⟩
    obtain ⟨hc, hf⟩ := bcell hb
    obtain ⟨z0, z1, z2⟩ := size3 hb
    have HB : Hid (Below w.heap.size w w1) := end3 hb
    go_wp2_with fail
    refine (Is_any _ _ _ h1 h2).mono ?_
    rintro e w2 ⟨rfl, hb2⟩
    have c1 := cell_later hb2 (show w1.cell? ⟨w.heap.size, 0, none⟩ = some (.int .i64 2) by simp [go_sem, hc])
    have c2 := cell_later hb2 (show w1.cell? ⟨w.heap.size, 1, none⟩ = some (.int .i64 m) by simp [go_sem, hc])
    have c3 := cell_later hb2 (show w1.cell? ⟨w.heap.size + 1, 0, none⟩ = some (.int .i64 2) by simp [go_sem, hc])
    have c4 := cell_later hb2 (show w1.cell? ⟨w.heap.size + 1, 1, none⟩ = some (.int .i64 n) by simp [go_sem, hc])
    have c5 := cell_later hb2 (show w1.cell? ⟨w.heap.size + 1 + 1, 0, none⟩ = some (.int .i64 0) by simp [go_sem, hc])
    have c6 := cell_later hb2 (show w1.cell? ⟨w.heap.size + 1 + 1, 1, none⟩ = some (.int .i64 0) by simp [go_sem, hc])
    obtain ⟨_, hf2⟩ := bcell hb2
    have f5 : w2.frozen? ⟨w.heap.size + 1 + 1, 0, none⟩ = false := by rw [hf2 _ _ z2]; simp [go_sem, hf]
    have f6 : w2.frozen? ⟨w.heap.size + 1 + 1, 1, none⟩ = false := by rw [hf2 _ _ z2]; simp [go_sem, hf]
    have HB := chainB HB hb2
    have y2 : w.heap.size + 1 + 1 < w2.heap.size := by have := hb2.size; omega
    clear hc hf hf2 z0 z1 z2 hb hb2
    go_wp2_with fail
    refine (opOf_1 _).mono ?_
    rintro e w3 ⟨rfl, hb3⟩
    have c1 := cell_later hb3 c1
    have c2 := cell_later hb3 c2
    have c3 := cell_later hb3 c3
    have c4 := cell_later hb3 c4
    have c5 := cell_later hb3 c5
    have c6 := cell_later hb3 c6
    obtain ⟨_, hf3⟩ := bcell hb3
    have f5 : w3.frozen? ⟨w.heap.size + 1 + 1, 0, none⟩ = false := by rw [hf3 _ _ y2]; exact f5
    have f6 : w3.frozen? ⟨w.heap.size + 1 + 1, 1, none⟩ = false := by rw [hf3 _ _ y2]; exact f6
    have HB := chainB HB hb3
    have y2 : w.heap.size + 1 + 1 < w3.heap.size := by have := hb3.size; omega
    have y1 : w.heap.size + 1 < w3.heap.size := by omega
    have y0 : w.heap.size < w3.heap.size := by omega
    clear hf3 hb3
    go_wp2_with fail
    refine (addI_any _ _ _).mono ?_
    rintro e w' ⟨rfl, rfl⟩
    go_wp2_with fail
    have k1 := al c1 y0 (o := .cells #[(fnV 69), (fnV 70)] 65)
    have k2 := al c2 y0 (o := .cells #[(fnV 69), (fnV 70)] 65)
    have k3 := al c3 y1 (o := .cells #[(fnV 69), (fnV 70)] 65)
    have k4 := al c4 y1 (o := .cells #[(fnV 69), (fnV 70)] 65)
    have k5 := al c5 y2 (o := .cells #[(fnV 69), (fnV 70)] 65)
    have k6 := al c6 y2 (o := .cells #[(fnV 69), (fnV 70)] 65)
    have k7 : (w3.alloc (.cells #[(fnV 69), (fnV 70)] 65)).cell? ⟨w3.heap.size, 0, none⟩ = some (fnV 69) := by simp [go_sem]
    have k8 : (w3.alloc (.cells #[(fnV 69), (fnV 70)] 65)).cell? ⟨w3.heap.size, 1, none⟩ = some (fnV 70) := by simp [go_sem]
    have l5 := alf f5 y2 (o := .cells #[(fnV 69), (fnV 70)] 65)
    have l6 := alf f6 y2 (o := .cells #[(fnV 69), (fnV 70)] 65)
    have HB : Hid (Below w.heap.size w (w3.alloc (.cells #[(fnV 69), (fnV 70)] 65))) := HB.out.alloc HB.out.size _
    refine (Int_any _ _).mono ?_
    rintro e w4 ⟨rfl, hb4⟩
    have HB := chainB HB hb4
    have k5 := cell_later hb4 k5
    have k6 := cell_later hb4 k6
    have f5 := fro_later hb4 l5 (by simp; omega)
    have f6 := fro_later hb4 l6 (by simp; omega)
    clear c1 c2 c3 c4 c5 c6 k1 k2 k3 k4 k7 k8 l5 l6
    go_wp2
    refine bodyPost_ret (v := .tuple #[AV 2 (wrap64 (m + n)), .int .i64 0]) (by simp [results, Tryz.results26, go_sem, k5, k6]) rfl ⟨rfl, ?_⟩
    exact (HB.out.setCell (by simp; omega) _).setCell (by simp; omega) _

set_option maxHeartbeats 2000000 in
theorem Op_ints_2 (m n : Int) (w : World) (g1 : -9223372036854775808 ≤ m) (g2 : m ≤ 9223372036854775807) (h1 : -9223372036854775808 ≤ n) (h2 : n ≤ 9223372036854775807) :
    Calls Tryz.prog 26 #[.int .i64 2, AV 2 m, AV 2 n] w fun e w' => e = .returned (.tuple #[AV 2 (wrap64 (m - n)), .int .i64 0]) ∧ Below w.heap.size w w' := by
    have i1 : isNum 2 m = true := rfl
    have i2 : isNum 2 n = true := rfl
    go_enter Tryz.func26, Tryz.ntmps26
    go_wp2_with fail
    refine (Is_any _ _ _ g1 g2).mono ?_
    rintro e w1 ⟨rfl, hb⟩
    obtain ⟨hc, hf⟩ := bcell hb
    obtain ⟨z0, z1, z2⟩ := size3 hb
    have HB : Hid (Below w.heap.size w w1) := end3 hb
    go_wp2_with fail
    refine (Is_any _ _ _ h1 h2).mono ?_
    rintro e w2 ⟨rfl, hb2⟩
    have c1 := cell_later hb2 (show w1.cell? ⟨w.heap.size, 0, none⟩ = some (.int .i64 2) by simp [go_sem, hc])
    have c2 := cell_later hb2 (show w1.cell? ⟨w.heap.size, 1, none⟩ = some (.int .i64 m) by simp [go_sem, hc])
    have c3 := cell_later hb2 (show w1.cell? ⟨w.heap.size + 1, 0, none⟩ = some (.int .i64 2) by simp [go_sem, hc])
    have c4 := cell_later hb2 (show w1.cell? ⟨w.heap.size + 1, 1, none⟩ = some (.int .i64 n) by simp [go_sem, hc])
    have c5 := cell_later hb2 (show w1.cell? ⟨w.heap.size + 1 + 1, 0, none⟩ = some (.int .i64 0) by simp [go_sem, hc])
    have c6 := cell_later hb2 (show w1.cell? ⟨w.heap.size + 1 + 1, 1, none⟩ = some (.int .i64 0) by simp [go_sem, hc])
    obtain ⟨_, hf2⟩ := bcell hb2
    have f5 : w2.frozen? ⟨w.heap.size + 1 + 1, 0, none⟩ = false := by rw [hf2 _ _ z2]; simp [go_sem, hf]
    have f6 : w2.frozen? ⟨w.heap.size + 1 + 1, 1, none⟩ = false := by rw [hf2 _ _ z2]; simp [go_sem, hf]
    have HB := chainB HB hb2
    have y2 : w.heap.size + 1 + 1 < w2.heap.size := by have := hb2.size; omega
    clear hc hf hf2 z0 z1 z2 hb hb2
    go_wp2_with fail
    refine (opOf_2 _).mono ?_
    rintro e w3 ⟨rfl, hb3⟩
    have c1 := cell_later hb3 c1
    have c2 := cell_later hb3 c2
    have c3 := cell_later hb3 c3
    have c4 := cell_later hb3 c4
    have c5 := cell_later hb3 c5
    have c6 := cell_later hb3 c6
    obtain ⟨_, hf3⟩ := bcell hb3
    have f5 : w3.frozen? ⟨w.heap.size + 1 + 1, 0, none⟩ = false := by rw [hf3 _ _ y2]; exact f5
    have f6 : w3.frozen? ⟨w.heap.size + 1 + 1, 1, none⟩ = false := by rw [hf3 _ _ y2]; exact f6
    have HB := chainB HB hb3
    have y2 : w.heap.size + 1 + 1 < w3.heap.size := by have := hb3.size; omega
    have y1 : w.heap.size + 1 < w3.heap.size := by omega
    have y0 : w.heap.size < w3.heap.size := by omega
    clear hf3 hb3
    go_wp2_with fail
    refine (subI_any _ _ _).mono ?_
    rintro e w' ⟨rfl, rfl⟩
    go_wp2_with fail
    have k1 := al c1 y0 (o := .cells #[(fnV 71), (fnV 72)] 65)
    have k2 := al c2 y0 (o := .cells #[(fnV 71), (fnV 72)] 65)
    have k3 := al c3 y1 (o := .cells #[(fnV 71), (fnV 72)] 65)
    have k4 := al c4 y1 (o := .cells #[(fnV 71), (fnV 72)] 65)
    have k5 := al c5 y2 (o := .cells #[(fnV 71), (fnV 72)] 65)
    have k6 := al c6 y2 (o := .cells #[(fnV 71), (fnV 72)] 65)
    have k7 : (w3.alloc (.cells #[(fnV 71), (fnV 72)] 65)).cell? ⟨w3.heap.size, 0, none⟩ = some (fnV 71) := by simp [go_sem]
    have k8 : (w3.alloc (.cells #[(fnV 71), (fnV 72)] 65)).cell? ⟨w3.heap.size, 1, none⟩ = some (fnV 72) := by simp [go_sem]
    have l5 := alf f5 y2 (o := .cells #[(fnV 71), (fnV 72)] 65)
    have l6 := alf f6 y2 (o := .cells #[(fnV 71), (fnV 72)] 65)
    have HB : Hid (Below w.heap.size w (w3.alloc (.cells #[(fnV 71), (fnV 72)] 65))) := HB.out.alloc HB.out.size _
    refine (Int_any _ _).mono ?_
    rintro e w4 ⟨rfl, hb4⟩
    have HB := chainB HB hb4
    have k5 := cell_later hb4 k5
    have k6 := cell_later hb4 k6
    have f5 := fro_later hb4 l5 (by simp; omega)
    have f6 := fro_later hb4 l6 (by simp; omega)
    clear c1 c2 c3 c4 c5 c6 k1 k2 k3 k4 k7 k8 l5 l6
    go_wp2
    refine bodyPost_ret (v := .tuple #[AV 2 (wrap64 (m - n)), .int .i64 0]) (by simp [results, Tryz.results26, go_sem, k5, k6]) rfl ⟨rfl, ?_⟩
    exact (HB.out.setCell (by simp; omega) _).setCell (by simp; omega) _

set_option maxHeartbeats 2000000 in
theorem Op_ints_3 (m n : Int) (w : World) (g1 : -9223372036854775808 ≤ m) (g2 : m ≤ 9223372036854775807) (h1 : -9223372036854775808 ≤ n) (h2 : n ≤ 9223372036854775807) :
    Calls Tryz.prog 26 #[.int .i64 3, AV 2 m, AV 2 n] w fun e w' => e = .returned (.tuple #[AV 2 (wrap64 (m * n)), .int .i64 0]) ∧ Below w.heap.size w w' := by
    have i1 : isNum 2 m = true := rfl
    have i2 : isNum 2 n = true := rfl
    go_enter Tryz.func26, Tryz.ntmps26
    go_wp2_with fail
    refine (Is_any _ _ _ g1 g2).mono ?_
    rintro e w1 ⟨rfl, hb⟩
    obtain ⟨hc, hf⟩ := bcell hb
    obtain ⟨z0, z1, z2⟩ := size3 hb
    have HB : Hid (Below w.heap.size w w1) := end3 hb
    go_wp2_with fail
    refine (Is_any _ _ _ h1 h2).mono ?_
    rintro e w2 ⟨rfl, hb2⟩
    have c1 := cell_later hb2 (show w1.cell? ⟨w.heap.size, 0, none⟩ = some (.int .i64 2) by simp [go_sem, hc])
    have c2 := cell_later hb2 (show w1.cell? ⟨w.heap.size, 1, none⟩ = some (.int .i64 m) by simp [go_sem, hc])
    have c3 := cell_later hb2 (show w1.cell? ⟨w.heap.size + 1, 0, none⟩ = some (.int .i64 2) by simp [go_sem, hc])
    have c4 := cell_later hb2 (show w1.cell? ⟨w.heap.size + 1, 1, none⟩ = some (.int .i64 n) by simp [go_sem, hc])
    have c5 := cell_later hb2 (show w1.cell? ⟨w.heap.size + 1 + 1, 0, none⟩ = some (.int .i64 0) by simp [go_sem, hc])
    have c6 := cell_later hb2 (show w1.cell? ⟨w.heap.size + 1 + 1, 1, none⟩ = some (.int .i64 0) by simp [go_sem, hc])
    obtain ⟨_, hf2⟩ := bcell hb2
    have f5 : w2.frozen? ⟨w.heap.size + 1 + 1, 0, none⟩ = false := by rw [hf2 _ _ z2]; simp [go_sem, hf]
    have f6 : w2.frozen? ⟨w.heap.size + 1 + 1, 1, none⟩ = false := by rw [hf2 _ _ z2]; simp [go_sem, hf]
    have HB := chainB HB hb2
    have y2 : w.heap.size + 1 + 1 < w2.heap.size := by have := hb2.size; omega
    clear hc hf hf2 z0 z1 z2 hb hb2
    go_wp2_with fail
    refine (opOf_3 _).mono ?_
    rintro e w3 ⟨rfl, hb3⟩
    have c1 := cell_later hb3 c1
    have c2 := cell_later hb3 c2
    have c3 := cell_later hb3 c3
    have c4 := cell_later hb3 c4
    have c5 := cell_later hb3 c5
    have c6 := cell_later hb3 c6
    obtain ⟨_, hf3⟩ := bcell hb3
    have f5 : w3.frozen? ⟨w.heap.size + 1 + 1, 0, none⟩ = false := by rw [hf3 _ _ y2]; exact f5
    have f6 : w3.frozen? ⟨w.heap.size + 1 + 1, 1, none⟩ = false := by rw [hf3 _ _ y2]; exact f6
    have HB := chainB HB hb3
    have y2 : w.heap.size + 1 + 1 < w3.heap.size := by have := hb3.size; omega
    have y1 : w.heap.size + 1 < w3.heap.size := by omega
    have y0 : w.heap.size < w3.heap.size := by omega
    clear hf3 hb3
    go_wp2_with fail
    refine (mulI_any _ _ _).mono ?_
    rintro e w' ⟨rfl, rfl⟩
    go_wp2_with fail
    have k1 := al c1 y0 (o := .cells #[(fnV 73), (fnV 74)] 65)
    have k2 := al c2 y0 (o := .cells #[(fnV 73), (fnV 74)] 65)
    have k3 := al c3 y1 (o := .cells #[(fnV 73), (fnV 74)] 65)
    have k4 := al c4 y1 (o := .cells #[(fnV 73), (fnV 74)] 65)
    have k5 := al c5 y2 (o := .cells #[(fnV 73), (fnV 74)] 65)
    have k6 := al c6 y2 (o := .cells #[(fnV 73), (fnV 74)] 65)
    have k7 : (w3.alloc (.cells #[(fnV 73), (fnV 74)] 65)).cell? ⟨w3.heap.size, 0, none⟩ = some (fnV 73) := by simp [go_sem]
    have k8 : (w3.alloc (.cells #[(fnV 73), (fnV 74)] 65)).cell? ⟨w3.heap.size, 1, none⟩ = some (fnV 74) := by simp [go_sem]
    have l5 := alf f5 y2 (o := .cells #[(fnV 73), (fnV 74)] 65)
    have l6 := alf f6 y2 (o := .cells #[(fnV 73), (fnV 74)] 65)
    have HB : Hid (Below w.heap.size w (w3.alloc (.cells #[(fnV 73), (fnV 74)] 65))) := HB.out.alloc HB.out.size _
    refine (Int_any _ _).mono ?_
    rintro e w4 ⟨rfl, hb4⟩
    have HB := chainB HB hb4
    have k5 := cell_later hb4 k5
    have k6 := cell_later hb4 k6
    have f5 := fro_later hb4 l5 (by simp; omega)
    have f6 := fro_later hb4 l6 (by simp; omega)
    clear c1 c2 c3 c4 c5 c6 k1 k2 k3 k4 k7 k8 l5 l6
    go_wp2
    refine bodyPost_ret (v := .tuple #[AV 2 (wrap64 (m * n)), .int .i64 0]) (by simp [results, Tryz.results26, go_sem, k5, k6]) rfl ⟨rfl, ?_⟩
    exact (HB.out.setCell (by simp; omega) _).setCell (by simp; omega) _

set_option maxHeartbeats 2000000 in
theorem Op_div_5 (s m t n : Int) (w : World) (g1 : -9223372036854775808 ≤ m) (g2 : m ≤ 9223372036854775807) (h1 : -9223372036854775808 ≤ n) (h2 : n ≤ 9223372036854775807)
    (i1 : isNum s m = true) (i2 : isNum t n = true) :
    Calls Tryz.prog 26 #[.int .i64 5, AV s m, AV t n] w fun e w' => e = .returned (.tuple #[AV (dvT s m t n) (dvQ s m t n), .int .i64 (dvE s m t n)]) ∧ Below w.heap.size w w' := by
    go_enter Tryz.func26, Tryz.ntmps26
    go_wp2_with fail
    refine (Is_any _ _ _ g1 g2).mono ?_
    rintro e w1 ⟨rfl, hb⟩
    obtain ⟨hc, hf⟩ := bcell hb
    obtain ⟨z0, z1, z2⟩ := size3 hb
    have HB : Hid (Below w.heap.size w w1) := end3 hb
    go_wp2_with fail
    refine (Is_any _ _ _ h1 h2).mono ?_
    rintro e w2 ⟨rfl, hb2⟩
    have c1 := cell_later hb2 (show w1.cell? ⟨w.heap.size, 0, none⟩ = some (.int .i64 s) by simp [go_sem, hc])
    have c2 := cell_later hb2 (show w1.cell? ⟨w.heap.size, 1, none⟩ = some (.int .i64 m) by simp [go_sem, hc])
    have c3 := cell_later hb2 (show w1.cell? ⟨w.heap.size + 1, 0, none⟩ = some (.int .i64 t) by simp [go_sem, hc])
    have c4 := cell_later hb2 (show w1.cell? ⟨w.heap.size + 1, 1, none⟩ = some (.int .i64 n) by simp [go_sem, hc])
    have c5 := cell_later hb2 (show w1.cell? ⟨w.heap.size + 1 + 1, 0, none⟩ = some (.int .i64 0) by simp [go_sem, hc])
    have c6 := cell_later hb2 (show w1.cell? ⟨w.heap.size + 1 + 1, 1, none⟩ = some (.int .i64 0) by simp [go_sem, hc])
    obtain ⟨_, hf2⟩ := bcell hb2
    have f5 : w2.frozen? ⟨w.heap.size + 1 + 1, 0, none⟩ = false := by rw [hf2 _ _ z2]; simp [go_sem, hf]
    have f6 : w2.frozen? ⟨w.heap.size + 1 + 1, 1, none⟩ = false := by rw [hf2 _ _ z2]; simp [go_sem, hf]
    have HB := chainB HB hb2
    have y2 : w.heap.size + 1 + 1 < w2.heap.size := by have := hb2.size; omega
    clear hc hf hf2 z0 z1 z2 hb hb2
    go_wp2_with fail
    refine (opOf_5 _).mono ?_
    rintro e w3 ⟨rfl, hb3⟩
    have c1 := cell_later hb3 c1
    have c2 := cell_later hb3 c2
    have c3 := cell_later hb3 c3
    have c4 := cell_later hb3 c4
    have c5 := cell_later hb3 c5
    have c6 := cell_later hb3 c6
    obtain ⟨_, hf3⟩ := bcell hb3
    have f5 : w3.frozen? ⟨w.heap.size + 1 + 1, 0, none⟩ = false := by rw [hf3 _ _ y2]; exact f5
    have f6 : w3.frozen? ⟨w.heap.size + 1 + 1, 1, none⟩ = false := by rw [hf3 _ _ y2]; exact f6
    have HB := chainB HB hb3
    have y2 : w.heap.size + 1 + 1 < w3.heap.size := by have := hb3.size; omega
    have y1 : w.heap.size + 1 < w3.heap.size := by omega
    have y0 : w.heap.size < w3.heap.size := by omega
    clear hf3 hb3
    go_wp2_with fail
    have k1 := al c1 y0 (o := .cells #[(fnV 76), .nilFunc] 65)
    have k2 := al c2 y0 (o := .cells #[(fnV 76), .nilFunc] 65)
    have k3 := al c3 y1 (o := .cells #[(fnV 76), .nilFunc] 65)
    have k4 := al c4 y1 (o := .cells #[(fnV 76), .nilFunc] 65)
    have k5 := al c5 y2 (o := .cells #[(fnV 76), .nilFunc] 65)
    have k6 := al c6 y2 (o := .cells #[(fnV 76), .nilFunc] 65)
    have k7 : (w3.alloc (.cells #[(fnV 76), .nilFunc] 65)).cell? ⟨w3.heap.size, 0, none⟩ = some (fnV 76) := by simp [go_sem]
    have k8 : (w3.alloc (.cells #[(fnV 76), .nilFunc] 65)).cell? ⟨w3.heap.size, 1, none⟩ = some .nilFunc := by simp [go_sem]
    have l5 := alf f5 y2 (o := .cells #[(fnV 76), .nilFunc] 65)
    have l6 := alf f6 y2 (o := .cells #[(fnV 76), .nilFunc] 65)
    have HB : Hid (Below w.heap.size w (w3.alloc (.cells #[(fnV 76), .nilFunc] 65))) := HB.out.alloc HB.out.size _
    refine (div_76 _ _ _ _ _ g1 g2 h1 h2).mono ?_
    rintro e w4 ⟨rfl, hb4⟩
    have HB := chainB HB hb4
    have k5 := cell_later hb4 k5
    have k6 := cell_later hb4 k6
    have f5 := fro_later hb4 l5 (by simp; omega)
    have f6 := fro_later hb4 l6 (by simp; omega)
    clear c1 c2 c3 c4 c5 c6 k1 k2 k3 k4 k7 k8 l5 l6
    go_wp2
    refine bodyPost_ret (v := .tuple #[AV (dvT s m t n) (dvQ s m t n), .int .i64 (dvE s m t n)]) (by simp [results, Tryz.results26, go_sem, k5, k6]) rfl ⟨rfl, ?_⟩
    exact (HB.out.setCell (by simp; omega) _).setCell (by simp; omega) _

set_option maxHeartbeats 2000000 in
theorem Op_div_6 (s m t n : Int) (w : World) (g1 : -9223372036854775808 ≤ m) (g2 : m ≤ 9223372036854775807) (h1 : -9223372036854775808 ≤ n) (h2 : n ≤ 9223372036854775807)
    (i1 : isNum s m = true) (i2 : isNum t n = true) :
    Calls Tryz.prog 26 #[.int .i64 6, AV s m, AV t n] w fun e w' => e = .returned (.tuple #[AV (dvT s m t n) (dvR s m t n), .int .i64 (dvE s m t n)]) ∧ Below w.heap.size w w' := by
    go_enter Tryz.func26, Tryz.ntmps26
    go_wp2_with fail
    refine (Is_any _ _ _ g1 g2).mono ?_
    rintro e w1 ⟨rfl, hb⟩
    obtain ⟨hc, hf⟩ := bcell hb
    obtain ⟨z0, z1, z2⟩ := size3 hb
    have HB : Hid (Below w.heap.size w w1) := end3 hb
    go_wp2_with fail
    refine (Is_any _ _ _ h1 h2).mono ?_
    rintro e w2 ⟨rfl, hb2⟩
    have c1 := cell_later hb2 (show w1.cell? ⟨w.heap.size, 0, none⟩ = some (.int .i64 s) by simp [go_sem, hc])
    have c2 := cell_later hb2 (show w1.cell? ⟨w.heap.size, 1, none⟩ = some (.int .i64 m) by simp [go_sem, hc])
    have c3 := cell_later hb2 (show w1.cell? ⟨w.heap.size + 1, 0, none⟩ = some (.int .i64 t) by simp [go_sem, hc])
    have c4 := cell_later hb2 (show w1.cell? ⟨w.heap.size + 1, 1, none⟩ = some (.int .i64 n) by simp [go_sem, hc])
    have c5 := cell_later hb2 (show w1.cell? ⟨w.heap.size + 1 + 1, 0, none⟩ = some (.int .i64 0) by simp [go_sem, hc])
    have c6 := cell_later hb2 (show w1.cell? ⟨w.heap.size + 1 + 1, 1, none⟩ = some (.int .i64 0) by simp [go_sem, hc])
    obtain ⟨_, hf2⟩ := bcell hb2
    have f5 : w2.frozen? ⟨w.heap.size + 1 + 1, 0, none⟩ = false := by rw [hf2 _ _ z2]; simp [go_sem, hf]
    have f6 : w2.frozen? ⟨w.heap.size + 1 + 1, 1, none⟩ = false := by rw [hf2 _ _ z2]; simp [go_sem, hf]
    have HB := chainB HB hb2
    have y2 : w.heap.size + 1 + 1 < w2.heap.size := by have := hb2.size; omega
    clear hc hf hf2 z0 z1 z2 hb hb2
    go_wp2_with fail
    refine (opOf_6 _).mono ?_
    rintro e w3 ⟨rfl, hb3⟩
    have c1 := cell_later hb3 c1
    have c2 := cell_later hb3 c2
    have c3 := cell_later hb3 c3
    have c4 := cell_later hb3 c4
    have c5 := cell_later hb3 c5
    have c6 := cell_later hb3 c6
    obtain ⟨_, hf3⟩ := bcell hb3
    have f5 : w3.frozen? ⟨w.heap.size + 1 + 1, 0, none⟩ = false := by rw [hf3 _ _ y2]; exact f5
    have f6 : w3.frozen? ⟨w.heap.size + 1 + 1, 1, none⟩ = false := by rw [hf3 _ _ y2]; exact f6
    have HB := chainB HB hb3
    have y2 : w.heap.size + 1 + 1 < w3.heap.size := by have := hb3.size; omega
    have y1 : w.heap.size + 1 < w3.heap.size := by omega
    have y0 : w.heap.size < w3.heap.size := by omega
    clear hf3 hb3
    go_wp2_with fail
    have k1 := al c1 y0 (o := .cells #[(fnV 77), .nilFunc] 65)
    have k2 := al c2 y0 (o := .cells #[(fnV 77), .nilFunc] 65)
    have k3 := al c3 y1 (o := .cells #[(fnV 77), .nilFunc] 65)
    have k4 := al c4 y1 (o := .cells #[(fnV 77), .nilFunc] 65)
    have k5 := al c5 y2 (o := .cells #[(fnV 77), .nilFunc] 65)
    have k6 := al c6 y2 (o := .cells #[(fnV 77), .nilFunc] 65)
    have k7 : (w3.alloc (.cells #[(fnV 77), .nilFunc] 65)).cell? ⟨w3.heap.size, 0, none⟩ = some (fnV 77) := by simp [go_sem]
    have k8 : (w3.alloc (.cells #[(fnV 77), .nilFunc] 65)).cell? ⟨w3.heap.size, 1, none⟩ = some .nilFunc := by simp [go_sem]
    have l5 := alf f5 y2 (o := .cells #[(fnV 77), .nilFunc] 65)
    have l6 := alf f6 y2 (o := .cells #[(fnV 77), .nilFunc] 65)
    have HB : Hid (Below w.heap.size w (w3.alloc (.cells #[(fnV 77), .nilFunc] 65))) := HB.out.alloc HB.out.size _
    refine (div_77 _ _ _ _ _ g1 g2 h1 h2).mono ?_
    rintro e w4 ⟨rfl, hb4⟩
    have HB := chainB HB hb4
    have k5 := cell_later hb4 k5
    have k6 := cell_later hb4 k6
    have f5 := fro_later hb4 l5 (by simp; omega)
    have f6 := fro_later hb4 l6 (by simp; omega)
    clear c1 c2 c3 c4 c5 c6 k1 k2 k3 k4 k7 k8 l5 l6
    go_wp2
    refine bodyPost_ret (v := .tuple #[AV (dvT s m t n) (dvR s m t n), .int .i64 (dvE s m t n)]) (by simp [results, Tryz.results26, go_sem, k5, k6]) rfl ⟨rfl, ?_⟩
    exact (HB.out.setCell (by simp; omega) _).setCell (by simp; omega) _
end Go.Proofs.YtdpdpgnpkmfooaaGreatDoor
