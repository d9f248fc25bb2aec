/- The document's operation of two values: every answer. -/
import Derived.Test.YtakpmefkddplhaaGreatDoorW12
import Derived.Test.YtakpmefkddplhaaGreatDoorP1
namespace Go.Proofs.YtakpmefkddplhaaGreatDoor
open Go.RowKit

set_option maxHeartbeats 1000000 in
theorem ROp_arg (op s m t n : Int) (w : World) (ho : op < 1 ∨ 6 < op) :
    Calls Tryz.prog 27 #[.int .i64 op, AV s m, AV t n] w fun e w' => e = .returned (.tuple #[AV 0 0, .int .i64 1]) ∧ Below w.heap.size w w' := by
  rcases ho with ho | ho
  · go_enter Tryz.func27, Tryz.ntmps27
    go_wp2
    refine bodyPost_ret (v := .tuple #[AV 0 0, .int .i64 1]) (by simp [results, Tryz.results27, go_sem]) rfl ⟨rfl, ?_⟩
    exact (((Below.refl _ _).alloc (Nat.le_refl _) _).alloc (by simp) _).alloc (by simp; omega) _
  · have ho' : ¬ op < 1 := by omega
    go_enter Tryz.func27, Tryz.ntmps27
    go_wp2
    refine bodyPost_ret (v := .tuple #[AV 0 0, .int .i64 1]) (by simp [results, Tryz.results27, go_sem]) rfl ⟨rfl, ?_⟩
    exact (((Below.refl _ _).alloc (Nat.le_refl _) _).alloc (by simp) _).alloc (by simp; omega) _

set_option maxHeartbeats 1000000 in
theorem ROp_type (op s m t n : Int) (w : World) (o1 : 1 ≤ op) (o2 : op ≤ 6)
    (hi : isNum s m = false ∨ isNum t n = false) :
    Calls Tryz.prog 27 #[.int .i64 op, AV s m, AV t n] w fun e w' => e = .returned (.tuple #[AV 0 0, .int .i64 10]) ∧ Below w.heap.size w w' := by
  cases i1 : isNum s m
  · clear hi
    go_enter Tryz.func27, Tryz.ntmps27
    go_wp2_with fail
    refine (RIs_any _ _ _).mono ?_
    rintro e w1 ⟨rfl, hb⟩
    obtain ⟨hc, hf⟩ := bcell hb
    obtain ⟨z0, z1, z2⟩ := size3 hb
    have HB : Hid (Below w.heap.size w w1) := end3 hb
    go_wp2
    refine bodyPost_ret (v := .tuple #[AV 0 0, .int .i64 10]) (by simp [results, Tryz.results27, go_sem, hc]) rfl ⟨rfl, ?_⟩
    exact (HB.out.setCell (by simp; omega) _).setCell (by simp; omega) _
  · have i2 : isNum t n = false := by rcases hi with h | h; (rw [i1] at h; cases h); exact h
    clear hi
    go_enter Tryz.func27, Tryz.ntmps27
    go_wp2_with fail
    refine (RIs_any _ _ _).mono ?_
    rintro e w1 ⟨rfl, hb⟩
    obtain ⟨hc, hf⟩ := bcell hb
    obtain ⟨z0, z1, z2⟩ := size3 hb
    have HB : Hid (Below w.heap.size w w1) := end3 hb
    go_wp2_with fail
    refine (RIs_any _ _ _).mono ?_
    rintro e w2 ⟨rfl, hb2⟩
    obtain ⟨hc2, hf2⟩ := bcell hb2
    have HB := chainB HB hb2
    have hz2 := hb2.size
    go_wp2
    refine bodyPost_ret (v := .tuple #[AV 0 0, .int .i64 10]) (by simp [results, Tryz.results27, go_sem, hc, hc2, z2]) rfl ⟨rfl, ?_⟩
    exact (HB.out.setCell (by simp; omega) _).setCell (by simp; omega) _

set_option maxHeartbeats 2000000 in
theorem ROp_ints_1 (m n : Int) (w : World) :
    Calls Tryz.prog 27 #[.int .i64 1, AV 2 m, AV 2 n] w fun e w' => e = .returned (.tuple #[AV 2 (wrap64 (m + n)), .int .i64 0]) ∧ Below w.heap.size w w' := by
    have i1 : isNum 2 m = true := rfl
    have i2 : isNum 2 n = true := rfl
    go_enter Tryz.func27, Tryz.ntmps27
    go_wp2_with fail
    refine (RIs_any _ _ _).mono ?_
    rintro e w1 ⟨rfl, hb⟩
    obtain ⟨hc, hf⟩ := bcell hb
    obtain ⟨z0, z1, z2⟩ := size3 hb
    have HB : Hid (Below w.heap.size w w1) := end3 hb
    go_wp2_with fail
    refine (RIs_any _ _ _).mono ?_
    rintro e w2 ⟨rfl, hb2⟩
    have c1 := cell_later hb2 (show w1.cell? ⟨w.heap.size, 0, none⟩ = some (.int .i64 2) by simp [go_sem, hc])
    have c2 := cell_later hb2 (show w1.cell? ⟨w.heap.size, 1, none⟩ = some (.int .i64 m) by simp [go_sem, hc])
    have c3 := cell_later hb2 (show w1.cell? ⟨w.heap.size + 1, 0, none⟩ = some (.int .i64 2) by simp [go_sem, hc])
    have c4 := cell_later hb2 (show w1.cell? ⟨w.heap.size + 1, 1, none⟩ = some (.int .i64 n) by simp [go_sem, hc])
    have c5 := cell_later hb2 (show w1.cell? ⟨w.heap.size + 1 + 1, 0, none⟩ = some (.int .i64 0) by simp [go_sem, hc])
    have c6 := cell_later hb2 (show w1.cell? ⟨w.heap.size + 1 + 1, 1, none⟩ = some (.int .i64 0) by simp [go_sem, hc])
    obtain ⟨_, hf2⟩ := bcell hb2
    have l5 : w2.frozen? ⟨w.heap.size + 1 + 1, 0, none⟩ = false := by rw [hf2 _ _ z2]; simp [go_sem, hf]
    have l6 : w2.frozen? ⟨w.heap.size + 1 + 1, 1, none⟩ = false := by rw [hf2 _ _ z2]; simp [go_sem, hf]
    have HB := chainB HB hb2
    have y2 : w.heap.size + 1 + 1 < w2.heap.size := by have := hb2.size; omega
    clear hc hf hf2 z0 z1 z2 hb hb2
    go_wp2_with fail
    refine (RInt_any _ _).mono ?_
    rintro e w3 ⟨rfl, hb3⟩
    have HB := chainB HB hb3
    have c5 := cell_later hb3 c5
    have c6 := cell_later hb3 c6
    have l5 := fro_later hb3 l5 y2
    have l6 := fro_later hb3 l6 y2
    have y2 : w.heap.size + 1 + 1 < w3.heap.size := by have := hb3.size; omega
    clear hb3
    go_wp2
    refine bodyPost_ret (v := .tuple #[AV 2 (wrap64 (m + n)), .int .i64 0]) (by simp [results, Tryz.results27, go_sem, c5, c6]) rfl ⟨rfl, ?_⟩
    exact (HB.out.setCell (by simp; omega) _).setCell (by simp; omega) _

set_option maxHeartbeats 2000000 in
theorem ROp_ints_2 (m n : Int) (w : World) :
    Calls Tryz.prog 27 #[.int .i64 2, AV 2 m, AV 2 n] w fun e w' => e = .returned (.tuple #[AV 2 (wrap64 (m - n)), .int .i64 0]) ∧ Below w.heap.size w w' := by
    have i1 : isNum 2 m = true := rfl
    have i2 : isNum 2 n = true := rfl
    go_enter Tryz.func27, Tryz.ntmps27
    go_wp2_with fail
    refine (RIs_any _ _ _).mono ?_
    rintro e w1 ⟨rfl, hb⟩
    obtain ⟨hc, hf⟩ := bcell hb
    obtain ⟨z0, z1, z2⟩ := size3 hb
    have HB : Hid (Below w.heap.size w w1) := end3 hb
    go_wp2_with fail
    refine (RIs_any _ _ _).mono ?_
    rintro e w2 ⟨rfl, hb2⟩
    have c1 := cell_later hb2 (show w1.cell? ⟨w.heap.size, 0, none⟩ = some (.int .i64 2) by simp [go_sem, hc])
    have c2 := cell_later hb2 (show w1.cell? ⟨w.heap.size, 1, none⟩ = some (.int .i64 m) by simp [go_sem, hc])
    have c3 := cell_later hb2 (show w1.cell? ⟨w.heap.size + 1, 0, none⟩ = some (.int .i64 2) by simp [go_sem, hc])
    have c4 := cell_later hb2 (show w1.cell? ⟨w.heap.size + 1, 1, none⟩ = some (.int .i64 n) by simp [go_sem, hc])
    have c5 := cell_later hb2 (show w1.cell? ⟨w.heap.size + 1 + 1, 0, none⟩ = some (.int .i64 0) by simp [go_sem, hc])
    have c6 := cell_later hb2 (show w1.cell? ⟨w.heap.size + 1 + 1, 1, none⟩ = some (.int .i64 0) by simp [go_sem, hc])
    obtain ⟨_, hf2⟩ := bcell hb2
    have l5 : w2.frozen? ⟨w.heap.size + 1 + 1, 0, none⟩ = false := by rw [hf2 _ _ z2]; simp [go_sem, hf]
    have l6 : w2.frozen? ⟨w.heap.size + 1 + 1, 1, none⟩ = false := by rw [hf2 _ _ z2]; simp [go_sem, hf]
    have HB := chainB HB hb2
    have y2 : w.heap.size + 1 + 1 < w2.heap.size := by have := hb2.size; omega
    clear hc hf hf2 z0 z1 z2 hb hb2
    go_wp2_with fail
    refine (RInt_any _ _).mono ?_
    rintro e w3 ⟨rfl, hb3⟩
    have HB := chainB HB hb3
    have c5 := cell_later hb3 c5
    have c6 := cell_later hb3 c6
    have l5 := fro_later hb3 l5 y2
    have l6 := fro_later hb3 l6 y2
    have y2 : w.heap.size + 1 + 1 < w3.heap.size := by have := hb3.size; omega
    clear hb3
    go_wp2
    refine bodyPost_ret (v := .tuple #[AV 2 (wrap64 (m - n)), .int .i64 0]) (by simp [results, Tryz.results27, go_sem, c5, c6]) rfl ⟨rfl, ?_⟩
    exact (HB.out.setCell (by simp; omega) _).setCell (by simp; omega) _

set_option maxHeartbeats 2000000 in
theorem ROp_ints_3 (m n : Int) (w : World) :
    Calls Tryz.prog 27 #[.int .i64 3, AV 2 m, AV 2 n] w fun e w' => e = .returned (.tuple #[AV 2 (wrap64 (m * n)), .int .i64 0]) ∧ Below w.heap.size w w' := by
    have i1 : isNum 2 m = true := rfl
    have i2 : isNum 2 n = true := rfl
    go_enter Tryz.func27, Tryz.ntmps27
    go_wp2_with fail
    refine (RIs_any _ _ _).mono ?_
    rintro e w1 ⟨rfl, hb⟩
    obtain ⟨hc, hf⟩ := bcell hb
    obtain ⟨z0, z1, z2⟩ := size3 hb
    have HB : Hid (Below w.heap.size w w1) := end3 hb
    go_wp2_with fail
    refine (RIs_any _ _ _).mono ?_
    rintro e w2 ⟨rfl, hb2⟩
    have c1 := cell_later hb2 (show w1.cell? ⟨w.heap.size, 0, none⟩ = some (.int .i64 2) by simp [go_sem, hc])
    have c2 := cell_later hb2 (show w1.cell? ⟨w.heap.size, 1, none⟩ = some (.int .i64 m) by simp [go_sem, hc])
    have c3 := cell_later hb2 (show w1.cell? ⟨w.heap.size + 1, 0, none⟩ = some (.int .i64 2) by simp [go_sem, hc])
    have c4 := cell_later hb2 (show w1.cell? ⟨w.heap.size + 1, 1, none⟩ = some (.int .i64 n) by simp [go_sem, hc])
    have c5 := cell_later hb2 (show w1.cell? ⟨w.heap.size + 1 + 1, 0, none⟩ = some (.int .i64 0) by simp [go_sem, hc])
    have c6 := cell_later hb2 (show w1.cell? ⟨w.heap.size + 1 + 1, 1, none⟩ = some (.int .i64 0) by simp [go_sem, hc])
    obtain ⟨_, hf2⟩ := bcell hb2
    have l5 : w2.frozen? ⟨w.heap.size + 1 + 1, 0, none⟩ = false := by rw [hf2 _ _ z2]; simp [go_sem, hf]
    have l6 : w2.frozen? ⟨w.heap.size + 1 + 1, 1, none⟩ = false := by rw [hf2 _ _ z2]; simp [go_sem, hf]
    have HB := chainB HB hb2
    have y2 : w.heap.size + 1 + 1 < w2.heap.size := by have := hb2.size; omega
    clear hc hf hf2 z0 z1 z2 hb hb2
    go_wp2_with fail
    refine (RInt_any _ _).mono ?_
    rintro e w3 ⟨rfl, hb3⟩
    have HB := chainB HB hb3
    have c5 := cell_later hb3 c5
    have c6 := cell_later hb3 c6
    have l5 := fro_later hb3 l5 y2
    have l6 := fro_later hb3 l6 y2
    have y2 : w.heap.size + 1 + 1 < w3.heap.size := by have := hb3.size; omega
    clear hb3
    go_wp2
    refine bodyPost_ret (v := .tuple #[AV 2 (wrap64 (m * n)), .int .i64 0]) (by simp [results, Tryz.results27, go_sem, c5, c6]) rfl ⟨rfl, ?_⟩
    exact (HB.out.setCell (by simp; omega) _).setCell (by simp; omega) _
end Go.Proofs.YtakpmefkddplhaaGreatDoor
