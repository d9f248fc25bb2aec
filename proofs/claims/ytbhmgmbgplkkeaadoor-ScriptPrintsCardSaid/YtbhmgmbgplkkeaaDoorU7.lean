/- ScriptBack. -/
import Derived.Test.YtbhmgmbgplkkeaaDoorU6
namespace Go.Proofs.YtbhmgmbgplkkeaaDoor
open Go.RowKit
set_option linter.unusedSimpArgs false
set_option linter.unusedVariables false

theorem out_pos : ∀ (m : Nat) (st : St) (a : Nat) (l : List UInt8) (b e : Nat), l.length ≤ m → outS st a l = .err b e → (e : Int) ≠ 0 := by
  intro m
  induction m with
  | zero =>
    intro st a l b e hl h
    by_cases hd : ∃ y, st = .done y
    · obtain ⟨y, rfl⟩ := hd
      rw [outS_done] at h; cases h
    · have hd' : ∀ y, st ≠ .done y := fun y e => hd ⟨y, e⟩
      have : l = [] := List.length_eq_zero_iff.1 (by omega)
      subst this
      rw [outS_err st a [] 6 hd' (by rfl)] at h
      injection h with _ h; omega
  | succ m ih =>
    intro st a l b e hl h
    by_cases hd : ∃ y, st = .done y
    · obtain ⟨y, rfl⟩ := hd
      rw [outS_done] at h; cases h
    · have hd' : ∀ y, st ≠ .done y := fun y e => hd ⟨y, e⟩
      cases hs : stepS st l with
      | inl e' =>
        rw [outS_err st a l e' hd' hs] at h
        injection h with _ h
        subst h
        exact (stepS_pos st l e' hs).1
      | inr q =>
        obtain ⟨st', l'⟩ := q
        have hlt := stepS_lt st l st' l' hs
        rw [outS_go st a l st' l' hd' hs] at h
        exact ih st' (a + 1) l' b e (by omega) h
theorem parse_pos {l : List UInt8} {a e : Nat} (h : parseF l = .err a e) : (e : Int) ≠ 0 := by
  unfold parseF at h
  split at h
  · injection h with _ h; omega
  · exact out_pos _ _ _ l _ _ (Nat.le_refl _) h

set_option maxRecDepth 20000 in
set_option maxHeartbeats 4000000 in
theorem ScriptBack_any {z n : Int} {pv : Value} {src : ByteArray} {L : List V} {w : World} (hL : RdV w pv L) (hn : L.length ≤ 140737488355328) (hsrc : src.size ≤ 140737488355328) (s : ByteArray) (hs : s.size ≤ 140737488355328) (hm : MaxIs w) (hr : RowsIs w) (ht : TenIs w) :
    Calls Tryd.prog 6 #[SC z n pv src, .string s] w fun e w' => e = .returned (.bool true) ∧ Kept No w w' := by
  have HL0 : Hid (RdV w pv L) := hL
  obtain ⟨ao, cap, rfl, hcap, hC⟩ := hL
  obtain ⟨W, HW⟩ : ∃ W, Hid (W = w.alloc (.cells #[.int .i64 z, .int .i64 n, .slice ao L.length cap, .string src] 25)) := ⟨_, rfl⟩
  have HK : Hid (Kept No w W) := by show Kept _ _ _; rw [HW.out]; exact (Kept.refl No w).alloc _
  obtain ⟨R, HR⟩ : ∃ R, Hid (w.heap.size = R) := ⟨_, rfl⟩
  have HB : Hid (W.heap[R]? = some (.cells #[.int .i64 z, .int .i64 n, .slice ao L.length cap, .string src] 25 (0, 0))) := by show _ = _; rw [HW.out, ← HR.out]; exact World.alloc_heap_new w _
  have HX : Hid (∀ X, Kept No W X → X.cell? ⟨R, 0, none⟩ = some (.int .i64 z) ∧ X.cell? ⟨R, 1, none⟩ = some (.int .i64 n) ∧ X.cell? ⟨R, 2, none⟩ = some (.slice ao L.length cap) ∧ X.cell? ⟨R, 3, none⟩ = some (.string src)) := fun X hX => by
    have hb := hX.heap HB.out id
    exact ⟨by rw [cell_of hb]; rfl, by rw [cell_of hb]; rfl, by rw [cell_of hb]; rfl, by rw [cell_of hb]; rfl⟩
  obtain ⟨b0, b1, b2, b3⟩ := HX.out W (Kept.refl _ _)
  have hm := hm.no HK.out
  have hr := hr.no HK.out
  have ht := ht.no HK.out
  have HLW : Hid (RdV W (.slice ao L.length cap) L) := HL0.out.no HK.out
  have HA : Hid (∀ X, Kept No W X → Calls Tryd.prog 9 #[] X fun e w' => e = .returned (.bool true) ∧ Kept No X w') := fun X hX => alive_any X (hm.no hX) (hr.no hX)
  have HV : Hid (∀ X, Calls Tryd.prog 14 #[SC z n (.slice ao L.length cap) src] X fun e w' => e = .returned (.bool (decide (5000 < L.length) || decide (20000 < src.size))) ∧ Kept No X w') := fun X => vast_any L.length X
  clear hC HL0
  by_cases hv : (decide (5000 < L.length) || decide (20000 < src.size)) = true
  · rw [hv] at HV
    clear hm hr ht
    go_enter Tryd.func6, Tryd.ntmps6
    go_wp2_with (first | rw [← HW.out, HR.out])
    refine Calls.mono (HV.out _) ?_
    rintro e w1 ⟨rfl, hk1⟩
    have HK1 : Hid (Kept No W w1) := hk1
    obtain ⟨b0, b1, b2, b3⟩ := HX.out w1 HK1.out
    clear hk1
    go_wp2_with fail
    refine Calls.mono (HA.out w1 HK1.out) ?_
    rintro e w2 ⟨rfl, hk2⟩
    have HK2 : Hid (Kept No W w2) := HK1.out.trans hk2
    clear hk2
    go_wp2
    go_ret
    exact ⟨rfl, HK.out.trans HK2.out⟩
  have hv' : (decide (5000 < L.length) || decide (20000 < src.size)) = false := by simpa using hv
  rw [hv'] at HV
  clear hv
  by_cases hlong : 80000 < s.size
  · have i1 : (80000 : Int) < (s.size : Int) := by omega
    clear hm hr ht
    go_enter Tryd.func6, Tryd.ntmps6
    go_wp2_with (first | rw [← HW.out, HR.out])
    refine Calls.mono (HV.out _) ?_
    rintro e w1 ⟨rfl, hk1⟩
    have HK1 : Hid (Kept No W w1) := hk1
    obtain ⟨b0, b1, b2, b3⟩ := HX.out w1 HK1.out
    clear hk1
    go_wp2_with fail
    refine Calls.mono (HA.out w1 HK1.out) ?_
    rintro e w2 ⟨rfl, hk2⟩
    have HK2 : Hid (Kept No W w2) := HK1.out.trans hk2
    clear hk2
    go_wp2
    go_ret
    exact ⟨rfl, HK.out.trans HK2.out⟩
  have i1 : ¬ (80000 : Int) < (s.size : Int) := by omega
  have HPr : Hid (∀ X, Kept No W X → Calls Tryd.prog 15 #[SC z n (.slice ao L.length cap) src] X fun e w' => e = .returned (prV (printF ⟨z, n, L, bl src⟩)) ∧ Kept No X w') := fun X hX => Print_any (HLW.out.no hX) hn hsrc (hr.no hX) (ht.no hX)
  rcases print_fault ⟨z, n, L, bl src⟩ with ⟨h0, hg, hp⟩ | ⟨h0, hp⟩
  · rw [hp] at HPr
    have HSm : Hid (∀ X, Kept No W X → ∀ xo xc, RdV X (.slice xo L.length xc) L → Calls Tryd.prog 12 #[SC z n (.slice ao L.length cap) src, SC z n (.slice xo L.length xc) src] X fun e w' => e = .returned (.bool true) ∧ Kept No X w') := fun X hX xo xc h => Same_eq (HLW.out.no hX) h (by have := hg.len; dsimp only at this; omega)
    obtain ⟨T, HT⟩ : ∃ T, Hid (mk (textF ⟨z, n, L, bl src⟩) = T) := ⟨_, rfl⟩
    have sT : T.size ≤ 68222 := by rw [← HT.out, mk_size]; exact text_le hg
    have HPr : Hid (∀ X, Kept No W X → Calls Tryd.prog 15 #[SC z n (.slice ao L.length cap) src] X fun e w' => e = .returned (.tuple #[.string T, .int .i64 0]) ∧ Kept No X w') := by rw [← HT.out]; exact HPr
    have HPt : Hid (∀ X, Kept No W X → Calls Tryd.prog 10 #[.string T] X fun e w' => (∃ ao c, e = .returned (.tuple #[SC z n (.slice ao L.length c) src, .int .i64 0, .int .i64 0]) ∧ RdV w' (.slice ao L.length c) L) ∧ Kept No X w') := fun X hX => by
      have := parse_ok T (by omega) ⟨z, n, L, bl src⟩ (by rw [← HT.out, bl_mk]; exact parse_text hg) X (hm.no hX) (hr.no hX)
      rwa [show mk (⟨z, n, L, bl src⟩ : Sc).src = src from mk_bl src] at this
    cases hps : parseF (bl s) with
    | err a er =>
      have j0 : ((er : Int) == 0) = false := by rw [beq_eq_false_iff_ne]; exact parse_pos hps
      have HPs : Hid (∀ X, Kept No W X → Calls Tryd.prog 10 #[.string s] X fun e w' => e = .returned (.tuple #[SC 0 0 (.slice none 0 0) ⟨#[]⟩, .int .i64 (a : Int), .int .i64 (er : Int)]) ∧ Kept No X w') := fun X hX => parse_no s (by omega) a er hps X (hm.no hX) (hr.no hX)
      clear hm hr ht hps hp
      go_enter Tryd.func6, Tryd.ntmps6
      go_wp2_with (first | rw [← HW.out, HR.out])
      refine Calls.mono (HV.out _) ?_
      rintro e w1 ⟨rfl, hk1⟩
      have HK1 : Hid (Kept No W w1) := hk1
      obtain ⟨b0, b1, b2, b3⟩ := HX.out w1 HK1.out
      clear hk1
      go_wp2_with fail
      refine Calls.mono (HPr.out w1 HK1.out) ?_
      rintro e w2 ⟨rfl, hk2⟩
      have HK2 : Hid (Kept No W w2) := HK1.out.trans hk2
      obtain ⟨b0, b1, b2, b3⟩ := HX.out w2 HK2.out
      clear hk2
      go_wp2_with fail
      refine Calls.mono (no_any _ _) ?_
      rintro e w9 ⟨rfl, rfl⟩
      go_wp2_with fail
      refine Calls.mono (HPt.out w2 HK2.out) ?_
      rintro e w3 ⟨⟨xo, xc, rfl, hrd⟩, hk3⟩
      have HRx : Hid (RdV w3 (.slice xo L.length xc) L) := hrd
      have HK3 : Hid (Kept No W w3) := HK2.out.trans hk3
      obtain ⟨W3, HW3⟩ : ∃ W3, Hid (W3 = w3.alloc (.cells #[.int .i64 z, .int .i64 n, .slice xo L.length xc, .string src] 25)) := ⟨_, rfl⟩
      have HKW3 : Hid (Kept No W W3) := by show Kept _ _ _; rw [HW3.out]; exact HK3.out.alloc _
      have HRX3 : Hid (RdV W3 (.slice xo L.length xc) L) := by show RdV _ _ _; rw [HW3.out]; exact hrd.no ((Kept.refl No w3).alloc _)
      have q0 : ∀ o, (w3.alloc o).cell? ⟨R, 0, none⟩ = some (.int .i64 z) := fun o => (HX.out _ (HK3.out.alloc o)).1
      have q1 : ∀ o, (w3.alloc o).cell? ⟨R, 1, none⟩ = some (.int .i64 n) := fun o => (HX.out _ (HK3.out.alloc o)).2.1
      have q2 : ∀ o, (w3.alloc o).cell? ⟨R, 2, none⟩ = some (.slice ao L.length cap) := fun o => (HX.out _ (HK3.out.alloc o)).2.2.1
      have q3 : ∀ o, (w3.alloc o).cell? ⟨R, 3, none⟩ = some (.string src) := fun o => (HX.out _ (HK3.out.alloc o)).2.2.2
      clear hk3 hrd HRx
      go_wp2_with fail
      refine Calls.mono (no_any _ _) ?_
      rintro e w9 ⟨rfl, rfl⟩
      go_wp2_with fail
      rw [← HW3.out]
      refine Calls.mono (HSm.out W3 HKW3.out _ _ HRX3.out) ?_
      rintro e wb ⟨rfl, hk4⟩
      have HKb : Hid (Kept No W wb) := HKW3.out.trans hk4
      clear hk4 HRX3 HKW3 HW3 q0 q1 q2 q3 HK3
      go_wp2_with fail
      refine Calls.mono (HPs.out wb HKb.out) ?_
      rintro e w5 ⟨rfl, hk5⟩
      have HK5 : Hid (Kept No W w5) := HKb.out.trans hk5
      obtain ⟨W5, HW5⟩ : ∃ W5, Hid (W5 = w5.alloc (.cells #[.int .i64 0, .int .i64 0, .slice none 0 0, .string ⟨#[]⟩] 25)) := ⟨_, rfl⟩
      have HKW5 : Hid (Kept No W W5) := by show Kept _ _ _; rw [HW5.out]; exact HK5.out.alloc _
      clear hk5
      go_wp2_with fail
      refine Calls.mono (no_any _ _) ?_
      rintro e w9 ⟨rfl, rfl⟩
      go_wp2_with fail
      rw [← HW5.out]
      refine Calls.mono (Same_nil W5) ?_
      rintro e w6 ⟨rfl, hk6⟩
      have HK6 : Hid (Kept No W w6) := HKW5.out.trans hk6
      clear hk6
      go_wp2_with fail
      refine Calls.mono (HA.out w6 HK6.out) ?_
      rintro e w7 ⟨rfl, hk7⟩
      have HK7 : Hid (Kept No w w7) := HK.out.trans (HK6.out.trans hk7)
      clear hk7
      go_wp2
      go_ret
      exact ⟨rfl, HK7.out⟩
    | ok y =>
      obtain ⟨hgy, hly⟩ := parse_good hps
      obtain ⟨yz, yn, Y, yb⟩ := y
      obtain ⟨ys, hys⟩ : ∃ ys, mk yb = ys := ⟨_, rfl⟩
      obtain rfl : bl ys = yb := by rw [← hys, bl_mk]
      obtain ⟨U, HU⟩ : ∃ U, Hid (mk (textF ⟨yz, yn, Y, bl ys⟩) = U) := ⟨_, rfl⟩
      have sU : U.size ≤ s.size := by rw [← HU.out, mk_size, ← bl_len]; exact hly
      have iU : (U.size : Int) ≤ (s.size : Int) := by omega
      have HPs : Hid (∀ X, Kept No W X → Calls Tryd.prog 10 #[.string s] X fun e w' => (∃ ao c, e = .returned (.tuple #[SC yz yn (.slice ao Y.length c) ys, .int .i64 0, .int .i64 0]) ∧ RdV w' (.slice ao Y.length c) Y) ∧ Kept No X w') := fun X hX => by
        have := parse_ok s (by omega) ⟨yz, yn, Y, bl ys⟩ hps X (hm.no hX) (hr.no hX)
        rwa [show mk (⟨yz, yn, Y, bl ys⟩ : Sc).src = ys from mk_bl ys] at this
      have HPu : Hid (∀ X, Kept No W X → Calls Tryd.prog 10 #[.string U] X fun e w' => (∃ ao c, e = .returned (.tuple #[SC yz yn (.slice ao Y.length c) ys, .int .i64 0, .int .i64 0]) ∧ RdV w' (.slice ao Y.length c) Y) ∧ Kept No X w') := fun X hX => by
        have := parse_ok U (by omega) ⟨yz, yn, Y, bl ys⟩ (by rw [← HU.out, bl_mk]; exact parse_text hgy) X (hm.no hX) (hr.no hX)
        rwa [show mk (⟨yz, yn, Y, bl ys⟩ : Sc).src = ys from mk_bl ys] at this
      have HPy : Hid (∀ X, Kept No W X → ∀ yo yc, RdV X (.slice yo Y.length yc) Y → Calls Tryd.prog 15 #[SC yz yn (.slice yo Y.length yc) ys] X fun e w' => e = .returned (.tuple #[.string U, .int .i64 0]) ∧ Kept No X w') := fun X hX yo yc hY => by
        have := Print_any (z := yz) (n := yn) (src := ys) hY (by have := hgy.len; dsimp only at this; omega) (by have := hgy.src; rw [bl_len] at this; omega) (hr.no hX) (ht.no hX)
        rw [print_good hgy] at this
        rw [← HU.out]; exact this
      have HSy : Hid (∀ X yo yc zo zc, RdV X (.slice yo Y.length yc) Y → RdV X (.slice zo Y.length zc) Y → Calls Tryd.prog 12 #[SC yz yn (.slice yo Y.length yc) ys, SC yz yn (.slice zo Y.length zc) ys] X fun e w' => e = .returned (.bool true) ∧ Kept No X w') := fun X yo yc zo zc h1 h2 => Same_eq h1 h2 (by have := hgy.len; dsimp only at this; omega)
      clear hm hr ht hps hp hgy hly hys
      go_enter Tryd.func6, Tryd.ntmps6
      go_wp2_with (first | rw [← HW.out, HR.out])
      refine Calls.mono (HV.out _) ?_
      rintro e w1 ⟨rfl, hk1⟩
      have HK1 : Hid (Kept No W w1) := hk1
      obtain ⟨b0, b1, b2, b3⟩ := HX.out w1 HK1.out
      clear hk1
      go_wp2_with fail
      refine Calls.mono (HPr.out w1 HK1.out) ?_
      rintro e w2 ⟨rfl, hk2⟩
      have HK2 : Hid (Kept No W w2) := HK1.out.trans hk2
      obtain ⟨b0, b1, b2, b3⟩ := HX.out w2 HK2.out
      clear hk2
      go_wp2_with fail
      refine Calls.mono (no_any _ _) ?_
      rintro e w9 ⟨rfl, rfl⟩
      go_wp2_with fail
      refine Calls.mono (HPt.out w2 HK2.out) ?_
      rintro e w3 ⟨⟨xo, xc, rfl, hrd⟩, hk3⟩
      have HRx : Hid (RdV w3 (.slice xo L.length xc) L) := hrd
      have HK3 : Hid (Kept No W w3) := HK2.out.trans hk3
      obtain ⟨W3, HW3⟩ : ∃ W3, Hid (W3 = w3.alloc (.cells #[.int .i64 z, .int .i64 n, .slice xo L.length xc, .string src] 25)) := ⟨_, rfl⟩
      have HKW3 : Hid (Kept No W W3) := by show Kept _ _ _; rw [HW3.out]; exact HK3.out.alloc _
      have HRX3 : Hid (RdV W3 (.slice xo L.length xc) L) := by show RdV _ _ _; rw [HW3.out]; exact hrd.no ((Kept.refl No w3).alloc _)
      have q0 : ∀ o, (w3.alloc o).cell? ⟨R, 0, none⟩ = some (.int .i64 z) := fun o => (HX.out _ (HK3.out.alloc o)).1
      have q1 : ∀ o, (w3.alloc o).cell? ⟨R, 1, none⟩ = some (.int .i64 n) := fun o => (HX.out _ (HK3.out.alloc o)).2.1
      have q2 : ∀ o, (w3.alloc o).cell? ⟨R, 2, none⟩ = some (.slice ao L.length cap) := fun o => (HX.out _ (HK3.out.alloc o)).2.2.1
      have q3 : ∀ o, (w3.alloc o).cell? ⟨R, 3, none⟩ = some (.string src) := fun o => (HX.out _ (HK3.out.alloc o)).2.2.2
      clear hk3 hrd HRx
      go_wp2_with fail
      refine Calls.mono (no_any _ _) ?_
      rintro e w9 ⟨rfl, rfl⟩
      go_wp2_with fail
      rw [← HW3.out]
      refine Calls.mono (HSm.out W3 HKW3.out _ _ HRX3.out) ?_
      rintro e wb ⟨rfl, hk4⟩
      have HKb : Hid (Kept No W wb) := HKW3.out.trans hk4
      clear hk4 HRX3 HKW3 HW3 q0 q1 q2 q3 HK3
      go_wp2_with fail
      refine Calls.mono (HPs.out wb HKb.out) ?_
      rintro e w5 ⟨⟨yo, yc, rfl, hrd⟩, hk5⟩
      have HK5 : Hid (Kept No W w5) := HKb.out.trans hk5
      obtain ⟨W5, HW5⟩ : ∃ W5, Hid (W5 = w5.alloc (.cells #[.int .i64 yz, .int .i64 yn, .slice yo Y.length yc, .string ys] 25)) := ⟨_, rfl⟩
      have HKW5 : Hid (Kept No W W5) := by show Kept _ _ _; rw [HW5.out]; exact HK5.out.alloc _
      have HRy : Hid (RdV W5 (.slice yo Y.length yc) Y) := by show RdV _ _ _; rw [HW5.out]; exact hrd.no ((Kept.refl No w5).alloc _)
      obtain ⟨by5, HBy⟩ : ∃ b, Hid (w5.heap.size = b) := ⟨_, rfl⟩
      have HY : Hid (∀ X, Kept No W5 X → ∀ o, (X.alloc o).cell? ⟨by5, 0, none⟩ = some (.int .i64 yz) ∧ (X.alloc o).cell? ⟨by5, 1, none⟩ = some (.int .i64 yn) ∧ (X.alloc o).cell? ⟨by5, 2, none⟩ = some (.slice yo Y.length yc) ∧ (X.alloc o).cell? ⟨by5, 3, none⟩ = some (.string ys)) := fun X hX o => by
        have hb : W5.heap[by5]? = some (.cells #[.int .i64 yz, .int .i64 yn, .slice yo Y.length yc, .string ys] 25 (0, 0)) := by rw [HW5.out, ← HBy.out]; exact World.alloc_heap_new w5 _
        have hb := (hX.alloc o).heap hb id
        exact ⟨by rw [cell_of hb]; rfl, by rw [cell_of hb]; rfl, by rw [cell_of hb]; rfl, by rw [cell_of hb]; rfl⟩
      clear hk5 hrd
      go_wp2_with fail
      refine Calls.mono (no_any _ _) ?_
      rintro e w9 ⟨rfl, rfl⟩
      go_wp2_with fail
      rw [← HW5.out, HBy.out]
      refine Calls.mono (HPy.out W5 HKW5.out _ _ HRy.out) ?_
      rintro e w6 ⟨rfl, hk6⟩
      have HK6 : Hid (Kept No W w6 ∧ Kept No W5 w6) := ⟨HKW5.out.trans hk6, hk6⟩
      clear hk6
      go_wp2_with fail
      refine Calls.mono (HPu.out w6 HK6.out.1) ?_
      rintro e w7 ⟨⟨zo, zc, rfl, hrd⟩, hk7⟩
      have HK7 : Hid (Kept No W w7 ∧ Kept No W5 w7) := ⟨HK6.out.1.trans hk7, HK6.out.2.trans hk7⟩
      obtain ⟨W7, HW7⟩ : ∃ W7, Hid (W7 = w7.alloc (.cells #[.int .i64 yz, .int .i64 yn, .slice zo Y.length zc, .string ys] 25)) := ⟨_, rfl⟩
      have HKW7 : Hid (Kept No W W7 ∧ Kept No W5 W7) := by
        rw [HW7.out]; exact ⟨HK7.out.1.alloc _, HK7.out.2.alloc _⟩
      have HRz : Hid (RdV W7 (.slice zo Y.length zc) Y) := by show RdV _ _ _; rw [HW7.out]; exact hrd.no ((Kept.refl No w7).alloc _)
      have q0 : ∀ o, (w7.alloc o).cell? ⟨by5, 0, none⟩ = some (.int .i64 yz) := fun o => (HY.out _ HK7.out.2 o).1
      have q1 : ∀ o, (w7.alloc o).cell? ⟨by5, 1, none⟩ = some (.int .i64 yn) := fun o => (HY.out _ HK7.out.2 o).2.1
      have q2 : ∀ o, (w7.alloc o).cell? ⟨by5, 2, none⟩ = some (.slice yo Y.length yc) := fun o => (HY.out _ HK7.out.2 o).2.2.1
      have q3 : ∀ o, (w7.alloc o).cell? ⟨by5, 3, none⟩ = some (.string ys) := fun o => (HY.out _ HK7.out.2 o).2.2.2
      clear hk7 hrd
      go_wp2_with fail
      refine Calls.mono (no_any _ _) ?_
      rintro e w9 ⟨rfl, rfl⟩
      go_wp2_with fail
      refine Calls.mono (no_any _ _) ?_
      rintro e w9 ⟨rfl, rfl⟩
      go_wp2_with fail
      rw [← HW7.out]
      refine Calls.mono (HSy.out W7 _ _ _ _ (HRy.out.no HKW7.out.2) HRz.out) ?_
      rintro e w8 ⟨rfl, hk8⟩
      have HK8 : Hid (Kept No W w8) := HKW7.out.1.trans hk8
      clear hk8 q0 q1 q2 q3
      go_wp2_with fail
      refine Calls.mono (HA.out w8 HK8.out) ?_
      rintro e wc ⟨rfl, hkc⟩
      have HKc : Hid (Kept No w wc) := HK.out.trans (HK8.out.trans hkc)
      clear hkc
      go_wp2
      go_ret
      exact ⟨rfl, HKc.out⟩
  · rw [hp] at HPr
    generalize faultF ⟨z, n, L, bl src⟩ = F at h0 HPr
    have i0 : ((F : Int) == 0) = false := by rw [beq_eq_false_iff_ne]; omega
    have HPr : Hid (∀ X, Kept No W X → Calls Tryd.prog 15 #[SC z n (.slice ao L.length cap) src] X fun e w' => e = .returned (.tuple #[.string ⟨#[]⟩, .int .i64 (F : Int)]) ∧ Kept No X w') := HPr
    cases hps : parseF (bl s) with
    | err a er =>
      have j0 : ((er : Int) == 0) = false := by rw [beq_eq_false_iff_ne]; exact parse_pos hps
      have HPs : Hid (∀ X, Kept No W X → Calls Tryd.prog 10 #[.string s] X fun e w' => e = .returned (.tuple #[SC 0 0 (.slice none 0 0) ⟨#[]⟩, .int .i64 (a : Int), .int .i64 (er : Int)]) ∧ Kept No X w') := fun X hX => parse_no s (by omega) a er hps X (hm.no hX) (hr.no hX)
      clear hm hr ht hps hp
      go_enter Tryd.func6, Tryd.ntmps6
      go_wp2_with (first | rw [← HW.out, HR.out])
      refine Calls.mono (HV.out _) ?_
      rintro e w1 ⟨rfl, hk1⟩
      have HK1 : Hid (Kept No W w1) := hk1
      obtain ⟨b0, b1, b2, b3⟩ := HX.out w1 HK1.out
      clear hk1
      go_wp2_with fail
      refine Calls.mono (HPr.out w1 HK1.out) ?_
      rintro e w2 ⟨rfl, hk2⟩
      have HK2 : Hid (Kept No W w2) := HK1.out.trans hk2
      obtain ⟨b0, b1, b2, b3⟩ := HX.out w2 HK2.out
      clear hk2
      go_wp2_with fail
      refine Calls.mono (no_any _ _) ?_
      rintro e w9 ⟨rfl, rfl⟩
      go_wp2_with fail
      refine Calls.mono (HPs.out w2 HK2.out) ?_
      rintro e w5 ⟨rfl, hk5⟩
      have HK5 : Hid (Kept No W w5) := HK2.out.trans hk5
      obtain ⟨W5, HW5⟩ : ∃ W5, Hid (W5 = w5.alloc (.cells #[.int .i64 0, .int .i64 0, .slice none 0 0, .string ⟨#[]⟩] 25)) := ⟨_, rfl⟩
      have HKW5 : Hid (Kept No W W5) := by show Kept _ _ _; rw [HW5.out]; exact HK5.out.alloc _
      clear hk5
      go_wp2_with fail
      refine Calls.mono (no_any _ _) ?_
      rintro e w9 ⟨rfl, rfl⟩
      go_wp2_with fail
      rw [← HW5.out]
      refine Calls.mono (Same_nil W5) ?_
      rintro e w6 ⟨rfl, hk6⟩
      have HK6 : Hid (Kept No W w6) := HKW5.out.trans hk6
      clear hk6
      go_wp2_with fail
      refine Calls.mono (HA.out w6 HK6.out) ?_
      rintro e w7 ⟨rfl, hk7⟩
      have HK7 : Hid (Kept No w w7) := HK.out.trans (HK6.out.trans hk7)
      clear hk7
      go_wp2
      go_ret
      exact ⟨rfl, HK7.out⟩
    | ok y =>
      obtain ⟨hgy, hly⟩ := parse_good hps
      obtain ⟨yz, yn, Y, yb⟩ := y
      obtain ⟨ys, hys⟩ : ∃ ys, mk yb = ys := ⟨_, rfl⟩
      obtain rfl : bl ys = yb := by rw [← hys, bl_mk]
      obtain ⟨U, HU⟩ : ∃ U, Hid (mk (textF ⟨yz, yn, Y, bl ys⟩) = U) := ⟨_, rfl⟩
      have sU : U.size ≤ s.size := by rw [← HU.out, mk_size, ← bl_len]; exact hly
      have iU : (U.size : Int) ≤ (s.size : Int) := by omega
      have HPs : Hid (∀ X, Kept No W X → Calls Tryd.prog 10 #[.string s] X fun e w' => (∃ ao c, e = .returned (.tuple #[SC yz yn (.slice ao Y.length c) ys, .int .i64 0, .int .i64 0]) ∧ RdV w' (.slice ao Y.length c) Y) ∧ Kept No X w') := fun X hX => by
        have := parse_ok s (by omega) ⟨yz, yn, Y, bl ys⟩ hps X (hm.no hX) (hr.no hX)
        rwa [show mk (⟨yz, yn, Y, bl ys⟩ : Sc).src = ys from mk_bl ys] at this
      have HPu : Hid (∀ X, Kept No W X → Calls Tryd.prog 10 #[.string U] X fun e w' => (∃ ao c, e = .returned (.tuple #[SC yz yn (.slice ao Y.length c) ys, .int .i64 0, .int .i64 0]) ∧ RdV w' (.slice ao Y.length c) Y) ∧ Kept No X w') := fun X hX => by
        have := parse_ok U (by omega) ⟨yz, yn, Y, bl ys⟩ (by rw [← HU.out, bl_mk]; exact parse_text hgy) X (hm.no hX) (hr.no hX)
        rwa [show mk (⟨yz, yn, Y, bl ys⟩ : Sc).src = ys from mk_bl ys] at this
      have HPy : Hid (∀ X, Kept No W X → ∀ yo yc, RdV X (.slice yo Y.length yc) Y → Calls Tryd.prog 15 #[SC yz yn (.slice yo Y.length yc) ys] X fun e w' => e = .returned (.tuple #[.string U, .int .i64 0]) ∧ Kept No X w') := fun X hX yo yc hY => by
        have := Print_any (z := yz) (n := yn) (src := ys) hY (by have := hgy.len; dsimp only at this; omega) (by have := hgy.src; rw [bl_len] at this; omega) (hr.no hX) (ht.no hX)
        rw [print_good hgy] at this
        rw [← HU.out]; exact this
      have HSy : Hid (∀ X yo yc zo zc, RdV X (.slice yo Y.length yc) Y → RdV X (.slice zo Y.length zc) Y → Calls Tryd.prog 12 #[SC yz yn (.slice yo Y.length yc) ys, SC yz yn (.slice zo Y.length zc) ys] X fun e w' => e = .returned (.bool true) ∧ Kept No X w') := fun X yo yc zo zc h1 h2 => Same_eq h1 h2 (by have := hgy.len; dsimp only at this; omega)
      clear hm hr ht hps hp hgy hly hys
      go_enter Tryd.func6, Tryd.ntmps6
      go_wp2_with (first | rw [← HW.out, HR.out])
      refine Calls.mono (HV.out _) ?_
      rintro e w1 ⟨rfl, hk1⟩
      have HK1 : Hid (Kept No W w1) := hk1
      obtain ⟨b0, b1, b2, b3⟩ := HX.out w1 HK1.out
      clear hk1
      go_wp2_with fail
      refine Calls.mono (HPr.out w1 HK1.out) ?_
      rintro e w2 ⟨rfl, hk2⟩
      have HK2 : Hid (Kept No W w2) := HK1.out.trans hk2
      obtain ⟨b0, b1, b2, b3⟩ := HX.out w2 HK2.out
      clear hk2
      go_wp2_with fail
      refine Calls.mono (no_any _ _) ?_
      rintro e w9 ⟨rfl, rfl⟩
      go_wp2_with fail
      refine Calls.mono (HPs.out w2 HK2.out) ?_
      rintro e w5 ⟨⟨yo, yc, rfl, hrd⟩, hk5⟩
      have HK5 : Hid (Kept No W w5) := HK2.out.trans hk5
      obtain ⟨W5, HW5⟩ : ∃ W5, Hid (W5 = w5.alloc (.cells #[.int .i64 yz, .int .i64 yn, .slice yo Y.length yc, .string ys] 25)) := ⟨_, rfl⟩
      have HKW5 : Hid (Kept No W W5) := by show Kept _ _ _; rw [HW5.out]; exact HK5.out.alloc _
      have HRy : Hid (RdV W5 (.slice yo Y.length yc) Y) := by show RdV _ _ _; rw [HW5.out]; exact hrd.no ((Kept.refl No w5).alloc _)
      obtain ⟨by5, HBy⟩ : ∃ b, Hid (w5.heap.size = b) := ⟨_, rfl⟩
      have HY : Hid (∀ X, Kept No W5 X → ∀ o, (X.alloc o).cell? ⟨by5, 0, none⟩ = some (.int .i64 yz) ∧ (X.alloc o).cell? ⟨by5, 1, none⟩ = some (.int .i64 yn) ∧ (X.alloc o).cell? ⟨by5, 2, none⟩ = some (.slice yo Y.length yc) ∧ (X.alloc o).cell? ⟨by5, 3, none⟩ = some (.string ys)) := fun X hX o => by
        have hb : W5.heap[by5]? = some (.cells #[.int .i64 yz, .int .i64 yn, .slice yo Y.length yc, .string ys] 25 (0, 0)) := by rw [HW5.out, ← HBy.out]; exact World.alloc_heap_new w5 _
        have hb := (hX.alloc o).heap hb id
        exact ⟨by rw [cell_of hb]; rfl, by rw [cell_of hb]; rfl, by rw [cell_of hb]; rfl, by rw [cell_of hb]; rfl⟩
      clear hk5 hrd
      go_wp2_with fail
      refine Calls.mono (no_any _ _) ?_
      rintro e w9 ⟨rfl, rfl⟩
      go_wp2_with fail
      rw [← HW5.out, HBy.out]
      refine Calls.mono (HPy.out W5 HKW5.out _ _ HRy.out) ?_
      rintro e w6 ⟨rfl, hk6⟩
      have HK6 : Hid (Kept No W w6 ∧ Kept No W5 w6) := ⟨HKW5.out.trans hk6, hk6⟩
      clear hk6
      go_wp2_with fail
      refine Calls.mono (HPu.out w6 HK6.out.1) ?_
      rintro e w7 ⟨⟨zo, zc, rfl, hrd⟩, hk7⟩
      have HK7 : Hid (Kept No W w7 ∧ Kept No W5 w7) := ⟨HK6.out.1.trans hk7, HK6.out.2.trans hk7⟩
      obtain ⟨W7, HW7⟩ : ∃ W7, Hid (W7 = w7.alloc (.cells #[.int .i64 yz, .int .i64 yn, .slice zo Y.length zc, .string ys] 25)) := ⟨_, rfl⟩
      have HKW7 : Hid (Kept No W W7 ∧ Kept No W5 W7) := by
        rw [HW7.out]; exact ⟨HK7.out.1.alloc _, HK7.out.2.alloc _⟩
      have HRz : Hid (RdV W7 (.slice zo Y.length zc) Y) := by show RdV _ _ _; rw [HW7.out]; exact hrd.no ((Kept.refl No w7).alloc _)
      have q0 : ∀ o, (w7.alloc o).cell? ⟨by5, 0, none⟩ = some (.int .i64 yz) := fun o => (HY.out _ HK7.out.2 o).1
      have q1 : ∀ o, (w7.alloc o).cell? ⟨by5, 1, none⟩ = some (.int .i64 yn) := fun o => (HY.out _ HK7.out.2 o).2.1
      have q2 : ∀ o, (w7.alloc o).cell? ⟨by5, 2, none⟩ = some (.slice yo Y.length yc) := fun o => (HY.out _ HK7.out.2 o).2.2.1
      have q3 : ∀ o, (w7.alloc o).cell? ⟨by5, 3, none⟩ = some (.string ys) := fun o => (HY.out _ HK7.out.2 o).2.2.2
      clear hk7 hrd
      go_wp2_with fail
      refine Calls.mono (no_any _ _) ?_
      rintro e w9 ⟨rfl, rfl⟩
      go_wp2_with fail
      refine Calls.mono (no_any _ _) ?_
      rintro e w9 ⟨rfl, rfl⟩
      go_wp2_with fail
      rw [← HW7.out]
      refine Calls.mono (HSy.out W7 _ _ _ _ (HRy.out.no HKW7.out.2) HRz.out) ?_
      rintro e w8 ⟨rfl, hk8⟩
      have HK8 : Hid (Kept No W w8) := HKW7.out.1.trans hk8
      clear hk8 q0 q1 q2 q3
      go_wp2_with fail
      refine Calls.mono (HA.out w8 HK8.out) ?_
      rintro e wc ⟨rfl, hkc⟩
      have HKc : Hid (Kept No w wc) := HK.out.trans (HK8.out.trans hkc)
      clear hkc
      go_wp2
      go_ret
      exact ⟨rfl, HKc.out⟩
end Go.Proofs.YtbhmgmbgplkkeaaDoor
