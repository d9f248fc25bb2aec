/- unlink: a block is taken out of the order of addresses. -/
import Derived.Test.YtdaklohfecinjaaA2
import Derived.Deep.RegionWith
namespace Go.Proofs.Ytdaklohfecinjaa
open Go.RowKit
set_option linter.unusedSimpArgs false
set_option linter.unusedVariables false

/-- Which block is 'full' behind unlink. -/
def nf (ba e x f : Nat) : Nat := if ba < e then x else f
theorem nf_lt {ba e x f : Nat} (h : ba < e) : nf ba e x f = x := if_pos h
theorem nf_ge {ba e x f : Nat} (h : ¬ ba < e) : nf ba e x f = f := if_neg h

theorem ar_nd {w : World} {A b C M F f size least a s : Nat} {p n : Option Nat} (hA : w.heap[A]? = some (ar C M F f size least)) (hb : w.heap[b]? = some (nd a s p n)) : A ≠ b := by
  intro e; subst e; rw [hA] at hb; simp [ar, nd] at hb

set_option maxHeartbeats 1000000 in
theorem unlink_last {A C M F f size least b x ba bs xa xs fa fs : Nat} {xp fp fn : Option Nat} (w : World) (hA : w.heap[A]? = some (ar C M F f size least)) (hf : w.heap[f]? = some (nd fa fs fp fn))
    (hb : w.heap[b]? = some (nd ba bs (some x) none)) (hx : w.heap[x]? = some (nd xa xs xp (some b))) (hne : b ≠ x) (hbd : fa + fs ≤ 65536) :
    Calls Try.prog 63 #[.pointer (some ⟨A, 0, none⟩), .pointer (some ⟨b, 0, none⟩)] w fun e w' => (∃ v, e = .returned v) ∧ w'.heap[A]? = some (ar C M F (nf ba (fa + fs) x f) size least) ∧ w'.heap[b]? = some (nd ba bs (some x) none) ∧ w'.heap[x]? = some (nd xa xs xp none) ∧
      Kept (fun k => k = A ∨ k = x) w w' ∧ w'.heap.size = w.heap.size := by
  have HA : Hid (w.heap[A]? = some (ar C M F f size least)) := hA
  have HB : Hid (w.heap[b]? = some (nd ba bs (some x) none)) := hb
  have HX : Hid (w.heap[x]? = some (nd xa xs xp (some b))) := hx
  have hAb : A ≠ b := ar_nd hA hb
  have hAx : A ≠ x := ar_nd hA hx
  obtain ⟨a0, a1, a2, a3, a4⟩ := ar_cells hA
  obtain ⟨fa3, fa4⟩ := ar_frozen hA
  obtain ⟨b0, b1, b2, b3⟩ := nd_cells hb
  obtain ⟨x0, x1, x2, x3⟩ := nd_cells hx
  obtain ⟨fx0, fx1, fx2, fx3⟩ := nd_frozen hx
  rw [pt_none] at b3
  rw [pt_some] at x3 b2
  have hne' : x ≠ b := fun e => hne e.symm
  have hAb' : b ≠ A := fun e => hAb e.symm
  have hAx' : x ≠ A := fun e => hAx e.symm
  have hA' : Hid (∀ n, (w.drewN n).heap[f]? = some (nd fa fs fp fn)) := fun _ => hf
  clear hb hx hA hf
  by_cases hlt : ba < fa + fs
  · rw [nf_lt hlt]
    have hl' : (ba : Int) < ((fa + fs : Nat) : Int) := by omega
    go_enter Try.func63, Try.ntmps63
    go_wp2
    go_quiet ((go_at_call 57; exact Calls.quiet_of (end_any _ (hA'.out _) (by omega))))
    go_wp2
    go_region
    all_goals
      go_wp2
      go_end0
      refine ⟨⟨_, rfl⟩, ?_, ?_, ?_, ?_, ?_⟩
      · simp [hp_set, hp_drew, hp_drewN, HA.out, hAx, ar, stO]
      · simp [hp_set, hp_drew, hp_drewN, HB.out, hAb', hne]
      · simp [hp_set, hp_drew, hp_drewN, HX.out, hAx', nd, stO, pt]
      · repeat first | exact Kept.refl _ _ | refine Kept.drew ?_ | refine Kept.drewN ?_ _ | refine Kept.set ?_ _ _ _ (by simp)
      · simp only [hp_drew, hp_drewN, size_set]
  · rw [nf_ge hlt]
    have hl' : ¬ (ba : Int) < ((fa + fs : Nat) : Int) := by omega
    go_enter Try.func63, Try.ntmps63
    go_wp2
    go_quiet ((go_at_call 57; exact Calls.quiet_of (end_any _ (hA'.out _) (by omega))))
    go_wp2
    go_region
    all_goals
      go_wp2
      go_end0
      refine ⟨⟨_, rfl⟩, ?_, ?_, ?_, ?_, ?_⟩
      · simp [hp_set, hp_drew, hp_drewN, HA.out, hAx, ar, stO]
      · simp [hp_set, hp_drew, hp_drewN, HB.out, hAb', hne]
      · simp [hp_set, hp_drew, hp_drewN, HX.out, hAx', nd, stO, pt]
      · repeat first | exact Kept.refl _ _ | refine Kept.drew ?_ | refine Kept.drewN ?_ _ | refine Kept.set ?_ _ _ _ (by simp)
      · simp only [hp_drew, hp_drewN, size_set]

set_option maxHeartbeats 1000000 in
theorem unlink_mid {A C M F f size least b x y ba bs xa xs ya ys fa fs : Nat} {xp yn yp fp fn : Option Nat} (w : World) (hA : w.heap[A]? = some (ar C M F f size least)) (hf : w.heap[f]? = some (nd fa fs fp fn))
    (hb : w.heap[b]? = some (nd ba bs (some x) (some y))) (hx : w.heap[x]? = some (nd xa xs xp (some b))) (hy : w.heap[y]? = some (nd ya ys yp yn)) (hne : b ≠ x) (hby : b ≠ y) (hxy : x ≠ y) (hbd : fa + fs ≤ 65536) :
    Calls Try.prog 63 #[.pointer (some ⟨A, 0, none⟩), .pointer (some ⟨b, 0, none⟩)] w fun e w' => (∃ v, e = .returned v) ∧ w'.heap[A]? = some (ar C M F (nf ba (fa + fs) x f) size least) ∧ w'.heap[b]? = some (nd ba bs (some x) (some y)) ∧ w'.heap[x]? = some (nd xa xs xp (some y)) ∧ w'.heap[y]? = some (nd ya ys (some x) yn) ∧
      Kept (fun k => k = A ∨ k = x ∨ k = y) w w' ∧ w'.heap.size = w.heap.size := by
  have HA : Hid (w.heap[A]? = some (ar C M F f size least)) := hA
  have HB : Hid (w.heap[b]? = some (nd ba bs (some x) (some y))) := hb
  have HX : Hid (w.heap[x]? = some (nd xa xs xp (some b))) := hx
  have HY : Hid (w.heap[y]? = some (nd ya ys yp yn)) := hy
  have hAb : A ≠ b := ar_nd hA hb
  have hAx : A ≠ x := ar_nd hA hx
  have hAy : A ≠ y := ar_nd hA hy
  obtain ⟨a0, a1, a2, a3, a4⟩ := ar_cells hA
  obtain ⟨fa3, fa4⟩ := ar_frozen hA
  obtain ⟨b0, b1, b2, b3⟩ := nd_cells hb
  obtain ⟨x0, x1, x2, x3⟩ := nd_cells hx
  obtain ⟨fx0, fx1, fx2, fx3⟩ := nd_frozen hx
  obtain ⟨y0, y1, y2, y3⟩ := nd_cells hy
  obtain ⟨fy0, fy1, fy2, fy3⟩ := nd_frozen hy
  rw [pt_some] at x3 b2 b3
  have hne' : x ≠ b := fun e => hne e.symm
  have hby' : y ≠ b := fun e => hby e.symm
  have hxy' : y ≠ x := fun e => hxy e.symm
  have hAb' : b ≠ A := fun e => hAb e.symm
  have hAx' : x ≠ A := fun e => hAx e.symm
  have hAy' : y ≠ A := fun e => hAy e.symm
  have hA' : Hid (∀ n, (w.drewN n).heap[f]? = some (nd fa fs fp fn)) := fun _ => hf
  clear hb hx hA hf hy
  by_cases hlt : ba < fa + fs
  · rw [nf_lt hlt]
    have hl' : (ba : Int) < ((fa + fs : Nat) : Int) := by omega
    go_enter Try.func63, Try.ntmps63
    go_wp2
    go_quiet ((go_at_call 57; exact Calls.quiet_of (end_any _ (hA'.out _) (by omega))))
    go_wp2
    go_region
    all_goals
      go_wp2
      go_region
      all_goals
        go_wp2
        go_end0
        refine ⟨⟨_, rfl⟩, ?_, ?_, ?_, ?_, ?_, ?_⟩
        · simp [hp_set, hp_drew, hp_drewN, HA.out, hAx, hAy, ar, stO]
        · simp [hp_set, hp_drew, hp_drewN, HB.out, hAb', hne, hby]
        · simp [hp_set, hp_drew, hp_drewN, HX.out, hAx', hxy, nd, stO, pt]
        · simp [hp_set, hp_drew, hp_drewN, HY.out, hAy', hxy', nd, stO, pt]
        · repeat first | exact Kept.refl _ _ | refine Kept.drew ?_ | refine Kept.drewN ?_ _ | refine Kept.set ?_ _ _ _ (by simp)
        · simp only [hp_drew, hp_drewN, size_set]
  · rw [nf_ge hlt]
    have hl' : ¬ (ba : Int) < ((fa + fs : Nat) : Int) := by omega
    go_enter Try.func63, Try.ntmps63
    go_wp2
    go_quiet ((go_at_call 57; exact Calls.quiet_of (end_any _ (hA'.out _) (by omega))))
    go_wp2
    go_region
    all_goals
      go_wp2
      go_region
      all_goals
        go_wp2
        go_end0
        refine ⟨⟨_, rfl⟩, ?_, ?_, ?_, ?_, ?_, ?_⟩
        · simp [hp_set, hp_drew, hp_drewN, HA.out, hAx, hAy, ar, stO]
        · simp [hp_set, hp_drew, hp_drewN, HB.out, hne, hby]
        · simp [hp_set, hp_drew, hp_drewN, HX.out, hxy, nd, stO, pt]
        · simp [hp_set, hp_drew, hp_drewN, HY.out, hxy', nd, stO, pt]
        · repeat first | exact Kept.refl _ _ | refine Kept.drew ?_ | refine Kept.drewN ?_ _ | refine Kept.set ?_ _ _ _ (by simp)
        · simp only [hp_drew, hp_drewN, size_set]
end Go.Proofs.Ytdaklohfecinjaa
