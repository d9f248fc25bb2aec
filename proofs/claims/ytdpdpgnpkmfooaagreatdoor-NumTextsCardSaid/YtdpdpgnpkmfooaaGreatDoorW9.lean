/- IDiv and Mod of two numbers. -/
import Derived.Test.YtdpdpgnpkmfooaaGreatDoorW8
import Derived.Deep.RegionWith
namespace Go.Proofs.YtdpdpgnpkmfooaaGreatDoor
open Go.RowKit

theorem chainB {w a b : World} (h : Hid (Below w.heap.size w a)) (k : Below a.heap.size a b) : Hid (Below w.heap.size w b) := h.out.trans (k.mono h.out.size)
theorem chainB_drew {w a b : World} (h : Hid (Below w.heap.size w a)) (k : Below a.drew.heap.size a.drew b) : Hid (Below w.heap.size w b) := h.out.drew.trans (k.mono h.out.size)

/-- The answer of divideWhole. -/
def dvE (s m t n : Int) : Int := if whE s m = 0 then (if whE t n = 0 then (if whN t n = 0 then 11 else 0) else whE t n) else whE s m
def dvT (s m t n : Int) : Int := if dvE s m t n = 0 then 2 else 0
def dvQ (s m t n : Int) : Int := if dvE s m t n = 0 then qd (whN s m) (whN t n) else 0
def dvR (s m t n : Int) : Int := if dvE s m t n = 0 then rd (whN s m) (whN t n) else 0

theorem dv_ok {s m t n : Int} (h : dvE s m t n = 0) : whE s m = 0 ∧ whE t n = 0 ∧ ¬ whN t n = 0 := by
  unfold dvE at h
  by_cases h1 : whE s m = 0
  · rw [if_pos h1] at h
    by_cases h2 : whE t n = 0
    · rw [if_pos h2] at h
      by_cases h3 : whN t n = 0
      · rw [if_pos h3] at h; omega
      · exact ⟨h1, h2, h3⟩
    · rw [if_neg h2] at h; exact absurd h h2
  · rw [if_neg h1] at h; exact absurd h h1
theorem dv_1 {s m t n : Int} (h1 : ¬ whE s m = 0) : dvE s m t n = whE s m := by unfold dvE; rw [if_neg h1]
theorem dv_2 {s m t n : Int} (h1 : whE s m = 0) (h2 : ¬ whE t n = 0) : dvE s m t n = whE t n := by unfold dvE; rw [if_pos h1, if_neg h2]
theorem dv_3 {s m t n : Int} (h1 : whE s m = 0) (h2 : whE t n = 0) (h3 : whN t n = 0) : dvE s m t n = 11 := by unfold dvE; rw [if_pos h1, if_pos h2, if_pos h3]
theorem dv_4 {s m t n : Int} (h1 : whE s m = 0) (h2 : whE t n = 0) (h3 : ¬ whN t n = 0) : dvE s m t n = 0 := by unfold dvE; rw [if_pos h1, if_pos h2, if_neg h3]

theorem end4 {w w1 : World} {o p q r : Obj} (hb : Below ((((w.alloc o).alloc p).alloc q).alloc r).heap.size ((((w.alloc o).alloc p).alloc q).alloc r) w1) : Below w.heap.size w w1 :=
  (((((Below.refl _ _).alloc (Nat.le_refl _) _).alloc (by simp) _).alloc (by simp; omega) _).alloc (by simp; omega) _).trans (hb.mono (by simp; omega))
theorem size4 {w w1 : World} {o p q r : Obj} (hb : Below ((((w.alloc o).alloc p).alloc q).alloc r).heap.size ((((w.alloc o).alloc p).alloc q).alloc r) w1) :
    w.heap.size < w1.heap.size ∧ w.heap.size + 1 < w1.heap.size ∧ w.heap.size + 1 + 1 < w1.heap.size ∧ w.heap.size + 1 + 1 + 1 < w1.heap.size := by
  have := hb.size; simp at this; omega

set_option maxHeartbeats 2000000 in
theorem div_76 (s m t n : Int) (w : World) (g1 : -9223372036854775808 ≤ m) (g2 : m ≤ 9223372036854775807) (h1 : -9223372036854775808 ≤ n) (h2 : n ≤ 9223372036854775807) :
    Calls Tryz.prog 46 #[.agg #[fnV 76, .nilFunc], AV s m, AV t n] w fun e w' => e = .returned (.tuple #[AV (dvT s m t n) (dvQ s m t n), .int .i64 (dvE s m t n)]) ∧ Below w.heap.size w w' := by
  by_cases e1 : whE s m = 0
  · have q1 : (whE s m != 0) = false := by simp [e1]
    by_cases e2 : whE t n = 0
    · have q2 : (whE t n != 0) = false := by simp [e2]
      by_cases e3 : whN t n = 0
      · have q3 : (whN t n == 0) = true := by simp [e3]
        have HV : Hid (dvT s m t n = 0 ∧ dvQ s m t n = 0 ∧ dvE s m t n = 11) := by
          have := dv_3 e1 e2 e3
          exact ⟨by unfold dvT; rw [this]; rfl, by unfold dvQ; rw [this]; rfl, this⟩
        clear e1 e2 e3
        go_enter Tryz.func46, Tryz.ntmps46
        go_wp2_with fail
        refine (Whole_any _ _ _ g1 g2).mono ?_
        rintro e w1 ⟨rfl, hb⟩
        obtain ⟨hc, hf⟩ := bcell hb
        have HB : Hid (Below w.heap.size w w1) := end4 hb
        obtain ⟨z0, z1, z2, z3⟩ := size4 hb
        go_wp2_with fail
        refine (Whole_any _ _ _ h1 h2).mono ?_
        rintro e w2 ⟨rfl, hb2⟩
        obtain ⟨hc2, hf2⟩ := bcell hb2
        have HB := chainB HB hb2
        have hz2 := hb2.size
        go_wp2
        refine bodyPost_ret (v := .tuple #[AV 0 0, .int .i64 11]) (by simp [results, Tryz.results46, go_sem, hc, hc2, z3]) rfl ⟨by rw [HV.out.1, HV.out.2.1, HV.out.2.2], ?_⟩
        exact (HB.out.setCell (by simp; omega) _).setCell (by simp; omega) _
      · have q3 : (whN t n == 0) = false := by simp [e3]
        have HV : Hid (dvT s m t n = 2 ∧ dvQ s m t n = qd (whN s m) (whN t n) ∧ dvE s m t n = 0) := by
          have := dv_4 e1 e2 e3
          exact ⟨by unfold dvT; rw [this]; rfl, by unfold dvQ; rw [this]; rfl, this⟩
        clear e1 e2
        go_enter Tryz.func46, Tryz.ntmps46
        go_wp2_with fail
        refine (Whole_any _ _ _ g1 g2).mono ?_
        rintro e w1 ⟨rfl, hb⟩
        obtain ⟨hc, hf⟩ := bcell hb
        have HB : Hid (Below w.heap.size w w1) := end4 hb
        obtain ⟨z0, z1, z2, z3⟩ := size4 hb
        go_wp2_with fail
        refine (Whole_any _ _ _ h1 h2).mono ?_
        rintro e w2 ⟨rfl, hb2⟩
        obtain ⟨hc2, hf2⟩ := bcell hb2
        have HB := chainB HB hb2
        have hz2 := hb2.size
        have y3 : w.heap.size + 1 + 1 + 1 < w2.heap.size := by omega
        go_wp2_with fail
        refine (quot_any _ _ _ e3).mono ?_
        rintro e w' ⟨rfl, rfl⟩
        go_wp2_with fail
        refine (Int_any _ _).mono ?_
        rintro e w3 ⟨rfl, hb3⟩
        obtain ⟨hc3, hf3⟩ := bcell hb3
        have HB := chainB HB hb3
        have hz3 := hb3.size
        go_wp2
        refine bodyPost_ret (v := .tuple #[AV 2 (qd (whN s m) (whN t n)), .int .i64 0]) (by simp [results, Tryz.results46, go_sem, hc, hc2, hc3, z3, y3]) rfl ⟨by rw [HV.out.1, HV.out.2.1, HV.out.2.2], ?_⟩
        exact (HB.out.setCell (by simp; omega) _).setCell (by simp; omega) _
    · have q2 : (whE t n != 0) = true := by simp [e2]
      have HV : Hid (dvT s m t n = 0 ∧ dvQ s m t n = 0 ∧ dvE s m t n = whE t n) := by
        have := dv_2 e1 e2
        exact ⟨by unfold dvT; rw [this, if_neg e2], by unfold dvQ; rw [this, if_neg e2], this⟩
      clear e1 e2
      go_enter Tryz.func46, Tryz.ntmps46
      go_wp2_with fail
      refine (Whole_any _ _ _ g1 g2).mono ?_
      rintro e w1 ⟨rfl, hb⟩
      obtain ⟨hc, hf⟩ := bcell hb
      have HB : Hid (Below w.heap.size w w1) := end4 hb
      obtain ⟨z0, z1, z2, z3⟩ := size4 hb
      go_wp2_with fail
      refine (Whole_any _ _ _ h1 h2).mono ?_
      rintro e w2 ⟨rfl, hb2⟩
      obtain ⟨hc2, hf2⟩ := bcell hb2
      have HB := chainB HB hb2
      have hz2 := hb2.size
      go_wp2
      refine bodyPost_ret (v := .tuple #[AV 0 0, .int .i64 (whE t n)]) (by simp [results, Tryz.results46, go_sem, hc, hc2, z3]) rfl ⟨by rw [HV.out.1, HV.out.2.1, HV.out.2.2], ?_⟩
      exact (HB.out.setCell (by simp; omega) _).setCell (by simp; omega) _
  · have q1 : (whE s m != 0) = true := by simp [e1]
    have HV : Hid (dvT s m t n = 0 ∧ dvQ s m t n = 0 ∧ dvE s m t n = whE s m) := by
      have := dv_1 (t := t) (n := n) e1
      exact ⟨by unfold dvT; rw [this, if_neg e1], by unfold dvQ; rw [this, if_neg e1], this⟩
    clear e1
    go_enter Tryz.func46, Tryz.ntmps46
    go_wp2_with fail
    refine (Whole_any _ _ _ g1 g2).mono ?_
    rintro e w1 ⟨rfl, hb⟩
    obtain ⟨hc, hf⟩ := bcell hb
    have HB : Hid (Below w.heap.size w w1) := end4 hb
    obtain ⟨z0, z1, z2, z3⟩ := size4 hb
    go_wp2
    refine bodyPost_ret (v := .tuple #[AV 0 0, .int .i64 (whE s m)]) (by simp [results, Tryz.results46, go_sem, hc]) rfl ⟨by rw [HV.out.1, HV.out.2.1, HV.out.2.2], ?_⟩
    exact (HB.out.setCell (by simp; omega) _).setCell (by simp; omega) _

set_option maxHeartbeats 2000000 in
theorem div_77 (s m t n : Int) (w : World) (g1 : -9223372036854775808 ≤ m) (g2 : m ≤ 9223372036854775807) (h1 : -9223372036854775808 ≤ n) (h2 : n ≤ 9223372036854775807) :
    Calls Tryz.prog 46 #[.agg #[fnV 77, .nilFunc], AV s m, AV t n] w fun e w' => e = .returned (.tuple #[AV (dvT s m t n) (dvR s m t n), .int .i64 (dvE s m t n)]) ∧ Below w.heap.size w w' := by
  by_cases e1 : whE s m = 0
  · have q1 : (whE s m != 0) = false := by simp [e1]
    by_cases e2 : whE t n = 0
    · have q2 : (whE t n != 0) = false := by simp [e2]
      by_cases e3 : whN t n = 0
      · have q3 : (whN t n == 0) = true := by simp [e3]
        have HV : Hid (dvT s m t n = 0 ∧ dvR s m t n = 0 ∧ dvE s m t n = 11) := by
          have := dv_3 e1 e2 e3
          exact ⟨by unfold dvT; rw [this]; rfl, by unfold dvR; rw [this]; rfl, this⟩
        clear e1 e2 e3
        go_enter Tryz.func46, Tryz.ntmps46
        go_wp2_with fail
        refine (Whole_any _ _ _ g1 g2).mono ?_
        rintro e w1 ⟨rfl, hb⟩
        obtain ⟨hc, hf⟩ := bcell hb
        have HB : Hid (Below w.heap.size w w1) := end4 hb
        obtain ⟨z0, z1, z2, z3⟩ := size4 hb
        go_wp2_with fail
        refine (Whole_any _ _ _ h1 h2).mono ?_
        rintro e w2 ⟨rfl, hb2⟩
        obtain ⟨hc2, hf2⟩ := bcell hb2
        have HB := chainB HB hb2
        have hz2 := hb2.size
        go_wp2
        refine bodyPost_ret (v := .tuple #[AV 0 0, .int .i64 11]) (by simp [results, Tryz.results46, go_sem, hc, hc2, z3]) rfl ⟨by rw [HV.out.1, HV.out.2.1, HV.out.2.2], ?_⟩
        exact (HB.out.setCell (by simp; omega) _).setCell (by simp; omega) _
      · have q3 : (whN t n == 0) = false := by simp [e3]
        have HV : Hid (dvT s m t n = 2 ∧ dvR s m t n = rd (whN s m) (whN t n) ∧ dvE s m t n = 0) := by
          have := dv_4 e1 e2 e3
          exact ⟨by unfold dvT; rw [this]; rfl, by unfold dvR; rw [this]; rfl, this⟩
        clear e1 e2
        go_enter Tryz.func46, Tryz.ntmps46
        go_wp2_with fail
        refine (Whole_any _ _ _ g1 g2).mono ?_
        rintro e w1 ⟨rfl, hb⟩
        obtain ⟨hc, hf⟩ := bcell hb
        have HB : Hid (Below w.heap.size w w1) := end4 hb
        obtain ⟨z0, z1, z2, z3⟩ := size4 hb
        go_wp2_with fail
        refine (Whole_any _ _ _ h1 h2).mono ?_
        rintro e w2 ⟨rfl, hb2⟩
        obtain ⟨hc2, hf2⟩ := bcell hb2
        have HB := chainB HB hb2
        have hz2 := hb2.size
        have y3 : w.heap.size + 1 + 1 + 1 < w2.heap.size := by omega
        go_wp2_with fail
        refine (rest_any _ _ _ e3).mono ?_
        rintro e w' ⟨rfl, rfl⟩
        go_wp2_with fail
        refine (Int_any _ _).mono ?_
        rintro e w3 ⟨rfl, hb3⟩
        obtain ⟨hc3, hf3⟩ := bcell hb3
        have HB := chainB HB hb3
        have hz3 := hb3.size
        go_wp2
        refine bodyPost_ret (v := .tuple #[AV 2 (rd (whN s m) (whN t n)), .int .i64 0]) (by simp [results, Tryz.results46, go_sem, hc, hc2, hc3, z3, y3]) rfl ⟨by rw [HV.out.1, HV.out.2.1, HV.out.2.2], ?_⟩
        exact (HB.out.setCell (by simp; omega) _).setCell (by simp; omega) _
    · have q2 : (whE t n != 0) = true := by simp [e2]
      have HV : Hid (dvT s m t n = 0 ∧ dvR s m t n = 0 ∧ dvE s m t n = whE t n) := by
        have := dv_2 e1 e2
        exact ⟨by unfold dvT; rw [this, if_neg e2], by unfold dvR; rw [this, if_neg e2], this⟩
      clear e1 e2
      go_enter Tryz.func46, Tryz.ntmps46
      go_wp2_with fail
      refine (Whole_any _ _ _ g1 g2).mono ?_
      rintro e w1 ⟨rfl, hb⟩
      obtain ⟨hc, hf⟩ := bcell hb
      have HB : Hid (Below w.heap.size w w1) := end4 hb
      obtain ⟨z0, z1, z2, z3⟩ := size4 hb
      go_wp2_with fail
      refine (Whole_any _ _ _ h1 h2).mono ?_
      rintro e w2 ⟨rfl, hb2⟩
      obtain ⟨hc2, hf2⟩ := bcell hb2
      have HB := chainB HB hb2
      have hz2 := hb2.size
      go_wp2
      refine bodyPost_ret (v := .tuple #[AV 0 0, .int .i64 (whE t n)]) (by simp [results, Tryz.results46, go_sem, hc, hc2, z3]) rfl ⟨by rw [HV.out.1, HV.out.2.1, HV.out.2.2], ?_⟩
      exact (HB.out.setCell (by simp; omega) _).setCell (by simp; omega) _
  · have q1 : (whE s m != 0) = true := by simp [e1]
    have HV : Hid (dvT s m t n = 0 ∧ dvR s m t n = 0 ∧ dvE s m t n = whE s m) := by
      have := dv_1 (t := t) (n := n) e1
      exact ⟨by unfold dvT; rw [this, if_neg e1], by unfold dvR; rw [this, if_neg e1], this⟩
    clear e1
    go_enter Tryz.func46, Tryz.ntmps46
    go_wp2_with fail
    refine (Whole_any _ _ _ g1 g2).mono ?_
    rintro e w1 ⟨rfl, hb⟩
    obtain ⟨hc, hf⟩ := bcell hb
    have HB : Hid (Below w.heap.size w w1) := end4 hb
    obtain ⟨z0, z1, z2, z3⟩ := size4 hb
    go_wp2
    refine bodyPost_ret (v := .tuple #[AV 0 0, .int .i64 (whE s m)]) (by simp [results, Tryz.results46, go_sem, hc]) rfl ⟨by rw [HV.out.1, HV.out.2.1, HV.out.2.2], ?_⟩
    exact (HB.out.setCell (by simp; omega) _).setCell (by simp; omega) _
end Go.Proofs.YtdpdpgnpkmfooaaGreatDoor
