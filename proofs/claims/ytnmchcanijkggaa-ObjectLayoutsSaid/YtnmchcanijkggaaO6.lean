/- Unpack. -/
import Derived.Test.YtnmchcanijkggaaO5
namespace Go.Proofs.Ytnmchcanijkggaa
open Go.RowKit

set_option maxHeartbeats 4000000 in
theorem Unpack_any (a b : Int) (w : World) :
    Calls Try.prog 20 #[.int .i64 a, .int .i64 b] w fun e w' => e = .returned (.tuple #[AH (unH a b), .int .i64 (unE a b)]) ∧ Below w.heap.size w w' := by
  obtain ⟨h, hh⟩ : ∃ h, h = hdOf a b := ⟨_, rfl⟩
  have HS : Hid (∀ w, Calls Try.prog 41 #[AC a b] w fun e w' => e = .returned (AH h) ∧ Below w.heap.size w w') := by rw [hh]; exact split_any a b
  by_cases hr : rightE h = 0
  · have HJ : Hid (∀ w, Calls Try.prog 37 #[AH h] w fun e w' => e = .returned (AC (c1 h) (c2 h)) ∧ Below w.heap.size w w') := fun w => joined_any h w hr
    obtain ⟨x, hx⟩ : ∃ x, x = c1 h := ⟨_, rfl⟩
    obtain ⟨y, hy⟩ : ∃ y, y = c2 h := ⟨_, rfl⟩
    have HU : Hid (unB a b = (decide (x = a) && decide (y = b)) ∧ hdOf a b = h) := ⟨by rw [hx, hy, hh, unB, ← hh, hr]; rfl, hh.symm⟩
    rw [← hx, ← hy] at HJ
    clear hx hy hh
    go_enter Try.func20, Try.ntmps20
    go_wp2_with fail
    refine (HS.out _).mono ?_
    rintro e w1 ⟨rfl, hb1⟩
    obtain ⟨hc, hf⟩ := bcell hb1
    have HB : Hid (Below w.heap.size w w1) := (((Below.refl _ _).alloc (Nat.le_refl _) _).alloc (by simp) _).trans (hb1.mono (by simp; omega))
    have hz : w.heap.size + 1 < w1.heap.size := by have := hb1.size; simp at this; omega
    have HA : Hid (w1.cell? ⟨w.heap.size + 1, 0, none⟩ = some (.int .i64 a) ∧ w1.cell? ⟨w.heap.size + 1, 1, none⟩ = some (.int .i64 b)) := by
      constructor
      · rw [hc _ _ (by simp)]; rw [World.cell?_alloc_at _ _ _ _ (by simp)]; rfl
      · rw [hc _ _ (by simp)]; rw [World.cell?_alloc_at _ _ _ _ (by simp)]; rfl
    have HZ : Hid (Zero8 w.heap.size w1) := by
      refine ⟨?_, ?_, ?_, ?_, ?_, ?_, ?_, ?_, ?_, ?_, ?_, ?_, ?_, ?_, ?_, ?_⟩
      all_goals first | (rw [hc _ _ (by simp; omega)]; simp [go_sem]; done) | (rw [hf _ _ (by simp; omega)]; simp [go_sem]; done)
    clear hb1 hc hf HS
    go_wp2
    have HB1 : Hid (Below w.heap.size w (w1.alloc (.cells #[.int .i64 h.k, .int .i64 h.c, .int .i64 h.a, .int .i64 h.w, .int .i64 h.s, .int .i64 h.f, .int .i64 h.x, .int .i64 h.l] 23))) := HB.out.alloc (by omega) _
    have HSn : Hid (SeenH w1.heap.size (w.heap.size + 1) h a b (w1.alloc (.cells #[.int .i64 h.k, .int .i64 h.c, .int .i64 h.a, .int .i64 h.w, .int .i64 h.s, .int .i64 h.f, .int .i64 h.x, .int .i64 h.l] 23))) := by
      refine ⟨?_, ?_, ?_, ?_, ?_, ?_, ?_, ?_, ?_, ?_⟩
      all_goals first | (rw [World.cell?_alloc_at _ _ _ _ rfl]; rfl) | (rw [World.cell?_alloc_past _ _ _ (by omega)]; first | exact HA.out.1 | exact HA.out.2)
    have HZ1 : Hid (Zero8 w.heap.size (w1.alloc (.cells #[.int .i64 h.k, .int .i64 h.c, .int .i64 h.a, .int .i64 h.w, .int .i64 h.s, .int .i64 h.f, .int .i64 h.x, .int .i64 h.l] 23))) := zero_keep HZ.out (by omega) ((Below.refl _ _).alloc (Nat.le_refl _) _)
    have hsz : (w1.alloc (.cells #[.int .i64 h.k, .int .i64 h.c, .int .i64 h.a, .int .i64 h.w, .int .i64 h.s, .int .i64 h.f, .int .i64 h.x, .int .i64 h.l] 23)).heap.size = w1.heap.size + 1 := by simp
    generalize hW : w1.alloc (.cells #[.int .i64 h.k, .int .i64 h.c, .int .i64 h.a, .int .i64 h.w, .int .i64 h.s, .int .i64 h.f, .int .i64 h.x, .int .i64 h.l] 23) = W at HB1 HSn HZ1 hsz ⊢
    clear hW HA HB HZ
    obtain ⟨q0, q1, q2, q3, q4, q5, q6, q7, q8, q9⟩ := HSn.out
    have hg := guard63
    have he := fun w => eq63 x y a b w
    cases hd : (x == a && y == b)
    · rw [hd] at he
      go_region_held3 (fun w' => w'.cell? ⟨w1.heap.size, 0, none⟩ = some (.int .i64 h.k) ∧ w'.cell? ⟨w1.heap.size, 1, none⟩ = some (.int .i64 h.c) ∧ w'.cell? ⟨w1.heap.size, 2, none⟩ = some (.int .i64 h.a) ∧ w'.cell? ⟨w1.heap.size, 3, none⟩ = some (.int .i64 h.w) ∧ w'.cell? ⟨w1.heap.size, 4, none⟩ = some (.int .i64 h.s) ∧ w'.cell? ⟨w1.heap.size, 5, none⟩ = some (.int .i64 h.f) ∧ w'.cell? ⟨w1.heap.size, 6, none⟩ = some (.int .i64 h.x) ∧ w'.cell? ⟨w1.heap.size, 7, none⟩ = some (.int .i64 h.l) ∧ w'.cell? ⟨w.heap.size + 1, 0, none⟩ = some (.int .i64 a) ∧ w'.cell? ⟨w.heap.size + 1, 1, none⟩ = some (.int .i64 b)) (first | (exact HS2.out) | go_keep)
        (first
        | (go_at_call 15; refine (Right_any _ _).mono ?_; rintro e w2 ⟨rfl, hb2⟩; rw [hr]; have H2 : Hid (Below W.heap.size W w2) := ((Below.refl _ _).drew).trans hb2; have HS2 : Hid (SeenH w1.heap.size (w.heap.size + 1) h a b w2) := seen_keep HSn.out (by omega) (by omega) H2.out; clear hb2)
        | (go_at_call 37; refine (HJ.out _).mono ?_; rintro e w3 ⟨rfl, hb3⟩; have H3 : Hid (Below W.heap.size W w3) := H2.out.trans (hb3.mono H2.out.size); have HS2 : Hid (SeenH w1.heap.size (w.heap.size + 1) h a b w3) := seen_keep HSn.out (by omega) (by omega) H3.out; clear hb3))
      have HZ3 : Hid (Zero8 w.heap.size w3) := zero_keep HZ1.out (by omega) H3.out
      have HB3 : Hid (Below w.heap.size w w3) := HB1.out.trans (H3.out.mono HB1.out.size)
      have hsz3 : w.heap.size < w3.heap.size := by have := H3.out.size; omega
      obtain ⟨z0, z1, z2, z3, z4, z5, z6, z7, f0, f1, f2, f3, f4, f5, f6, f7⟩ := HZ3.out
      go_wp2
      have hu : unB a b = false := by rw [HU.out.1]; simpa using hd
      rw [show unH a b = h0 by simp [unH, hu], show unE a b = 6 by simp [unE, hu]]
      exact bodyPost_ret (v := .tuple #[AH h0, .int .i64 6]) (by simp [results, Try.results20, go_sem, z0, z1, z2, z3, z4, z5, z6, z7, h0]) rfl ⟨rfl, set8_below HB3.out (Nat.le_refl _) _ _ _ _ _ _ _ _⟩
    · rw [hd] at he
      go_region_held3 (fun w' => w'.cell? ⟨w1.heap.size, 0, none⟩ = some (.int .i64 h.k) ∧ w'.cell? ⟨w1.heap.size, 1, none⟩ = some (.int .i64 h.c) ∧ w'.cell? ⟨w1.heap.size, 2, none⟩ = some (.int .i64 h.a) ∧ w'.cell? ⟨w1.heap.size, 3, none⟩ = some (.int .i64 h.w) ∧ w'.cell? ⟨w1.heap.size, 4, none⟩ = some (.int .i64 h.s) ∧ w'.cell? ⟨w1.heap.size, 5, none⟩ = some (.int .i64 h.f) ∧ w'.cell? ⟨w1.heap.size, 6, none⟩ = some (.int .i64 h.x) ∧ w'.cell? ⟨w1.heap.size, 7, none⟩ = some (.int .i64 h.l) ∧ w'.cell? ⟨w.heap.size + 1, 0, none⟩ = some (.int .i64 a) ∧ w'.cell? ⟨w.heap.size + 1, 1, none⟩ = some (.int .i64 b)) (first | (exact HS2.out) | go_keep)
        (first
        | (go_at_call 15; refine (Right_any _ _).mono ?_; rintro e w2 ⟨rfl, hb2⟩; rw [hr]; have H2 : Hid (Below W.heap.size W w2) := ((Below.refl _ _).drew).trans hb2; have HS2 : Hid (SeenH w1.heap.size (w.heap.size + 1) h a b w2) := seen_keep HSn.out (by omega) (by omega) H2.out; clear hb2)
        | (go_at_call 37; refine (HJ.out _).mono ?_; rintro e w3 ⟨rfl, hb3⟩; have H3 : Hid (Below W.heap.size W w3) := H2.out.trans (hb3.mono H2.out.size); have HS2 : Hid (SeenH w1.heap.size (w.heap.size + 1) h a b w3) := seen_keep HSn.out (by omega) (by omega) H3.out; clear hb3))
      have HZ3 : Hid (Zero8 w.heap.size w3) := zero_keep HZ1.out (by omega) H3.out
      have HB3 : Hid (Below w.heap.size w w3) := HB1.out.trans (H3.out.mono HB1.out.size)
      have hsz3 : w.heap.size < w3.heap.size := by have := H3.out.size; omega
      obtain ⟨z0, z1, z2, z3, z4, z5, z6, z7, f0, f1, f2, f3, f4, f5, f6, f7⟩ := HZ3.out
      go_wp2
      have hu : unB a b = true := by rw [HU.out.1]; simpa using hd
      rw [show unH a b = h by simp [unH, hu, HU.out.2], show unE a b = 0 by simp [unE, hu]]
      exact bodyPost_ret (v := .tuple #[AH h, .int .i64 0]) (by simp [results, Try.results20, go_sem, z0, z1, z2, z3, z4, z5, z6, z7]) rfl ⟨rfl, set8_below HB3.out (Nat.le_refl _) _ _ _ _ _ _ _ _⟩
  · have hr' : (rightE h != 0) = true := by simp [hr]
    have HU : Hid (unB a b = false) := by show _ = _; rw [unB, ← hh]; simp [hr]
    clear hh hr
    go_enter Try.func20, Try.ntmps20
    go_wp2_with fail
    refine (HS.out _).mono ?_
    rintro e w1 ⟨rfl, hb1⟩
    obtain ⟨hc, hf⟩ := bcell hb1
    have HB : Hid (Below w.heap.size w w1) := (((Below.refl _ _).alloc (Nat.le_refl _) _).alloc (by simp) _).trans (hb1.mono (by simp; omega))
    have hz : w.heap.size + 1 < w1.heap.size := by have := hb1.size; simp at this; omega
    have HA : Hid (w1.cell? ⟨w.heap.size + 1, 0, none⟩ = some (.int .i64 a) ∧ w1.cell? ⟨w.heap.size + 1, 1, none⟩ = some (.int .i64 b)) := by
      constructor
      · rw [hc _ _ (by simp)]; rw [World.cell?_alloc_at _ _ _ _ (by simp)]; rfl
      · rw [hc _ _ (by simp)]; rw [World.cell?_alloc_at _ _ _ _ (by simp)]; rfl
    have HZ : Hid (Zero8 w.heap.size w1) := by
      refine ⟨?_, ?_, ?_, ?_, ?_, ?_, ?_, ?_, ?_, ?_, ?_, ?_, ?_, ?_, ?_, ?_⟩
      all_goals first | (rw [hc _ _ (by simp; omega)]; simp [go_sem]; done) | (rw [hf _ _ (by simp; omega)]; simp [go_sem]; done)
    clear hb1 hc hf HS
    go_wp2
    have HB1 : Hid (Below w.heap.size w (w1.alloc (.cells #[.int .i64 h.k, .int .i64 h.c, .int .i64 h.a, .int .i64 h.w, .int .i64 h.s, .int .i64 h.f, .int .i64 h.x, .int .i64 h.l] 23))) := HB.out.alloc (by omega) _
    have HSn : Hid (SeenH w1.heap.size (w.heap.size + 1) h a b (w1.alloc (.cells #[.int .i64 h.k, .int .i64 h.c, .int .i64 h.a, .int .i64 h.w, .int .i64 h.s, .int .i64 h.f, .int .i64 h.x, .int .i64 h.l] 23))) := by
      refine ⟨?_, ?_, ?_, ?_, ?_, ?_, ?_, ?_, ?_, ?_⟩
      all_goals first | (rw [World.cell?_alloc_at _ _ _ _ rfl]; rfl) | (rw [World.cell?_alloc_past _ _ _ (by omega)]; first | exact HA.out.1 | exact HA.out.2)
    have HZ1 : Hid (Zero8 w.heap.size (w1.alloc (.cells #[.int .i64 h.k, .int .i64 h.c, .int .i64 h.a, .int .i64 h.w, .int .i64 h.s, .int .i64 h.f, .int .i64 h.x, .int .i64 h.l] 23))) := zero_keep HZ.out (by omega) ((Below.refl _ _).alloc (Nat.le_refl _) _)
    have hsz : (w1.alloc (.cells #[.int .i64 h.k, .int .i64 h.c, .int .i64 h.a, .int .i64 h.w, .int .i64 h.s, .int .i64 h.f, .int .i64 h.x, .int .i64 h.l] 23)).heap.size = w1.heap.size + 1 := by simp
    generalize hW : w1.alloc (.cells #[.int .i64 h.k, .int .i64 h.c, .int .i64 h.a, .int .i64 h.w, .int .i64 h.s, .int .i64 h.f, .int .i64 h.x, .int .i64 h.l] 23) = W at HB1 HSn HZ1 hsz ⊢
    clear hW HA HB HZ
    obtain ⟨q0, q1, q2, q3, q4, q5, q6, q7, q8, q9⟩ := HSn.out
    refine region_quiet_class (C := fun w' => Below W.heap.size W w') (by kernel_rfl) (by kernel_rfl) (Below.refl _ _).drew ?_
    refine q_op (AH h) (by kernel_rfl) (fun w2 hw2 => ?_) ?_
    · obtain ⟨q0, q1, q2, q3, q4, q5, q6, q7, q8, q9⟩ := seen_keep HSn.out (by omega) (by omega) hw2
      simp [go_sem, q0, q1, q2, q3, q4, q5, q6, q7]
    simp only [Act.put, List.setIfInBounds_toArray, List.set_cons_zero, List.set_cons_succ]
    refine q_call 15 #[AH h] (.int .i64 (rightE h)) (by kernel_rfl) (fun w2 hw2 => by simp [go_sem]) (fun w2 hw2 => (Right_any h w2).mono (fun e w3 ⟨he, hb⟩ => ⟨he, hw2.trans (hb.mono hw2.size)⟩)) ?_
    simp only [Act.put, List.setIfInBounds_toArray, List.set_cons_zero, List.set_cons_succ]
    refine q_op (.bool true) (by kernel_rfl) (fun w2 hw2 => by simp [go_sem, hr']) ?_
    simp only [Act.put, List.setIfInBounds_toArray, List.set_cons_zero, List.set_cons_succ]
    refine q_op (.bool true) (by kernel_rfl) (fun w2 hw2 => by simp [go_sem]) ?_
    simp only [Act.put, List.setIfInBounds_toArray, List.set_cons_zero, List.set_cons_succ]
    go_big_quiet_skip
    go_big_quiet_skip
    go_big_quiet_skip
    go_big_quiet_skip
    refine q_op (.bool true) (by kernel_rfl) (fun w2 hw2 => by simp [go_sem]) ?_
    simp only [Act.put, List.setIfInBounds_toArray, List.set_cons_zero, List.set_cons_succ]
    refine wpQuiet_nil ?_
    intro w3 H3
    have HZ3 : Hid (Zero8 w.heap.size w3) := zero_keep HZ1.out (by omega) H3
    have HB3 : Hid (Below w.heap.size w w3) := HB1.out.trans (Below.mono H3 HB1.out.size)
    have hsz3 : w.heap.size < w3.heap.size := by have := Below.size H3; omega
    clear H3
    obtain ⟨z0, z1, z2, z3, z4, z5, z6, z7, f0, f1, f2, f3, f4, f5, f6, f7⟩ := HZ3.out
    go_wp2
    have hu := HU.out
    rw [show unH a b = h0 by simp [unH, hu], show unE a b = 6 by simp [unE, hu]]
    exact bodyPost_ret (v := .tuple #[AH h0, .int .i64 6]) (by simp [results, Try.results20, go_sem, z0, z1, z2, z3, z4, z5, z6, z7, h0]) rfl ⟨rfl, set8_below HB3.out (Nat.le_refl _) _ _ _ _ _ _ _ _⟩

end Go.Proofs.Ytnmchcanijkggaa
