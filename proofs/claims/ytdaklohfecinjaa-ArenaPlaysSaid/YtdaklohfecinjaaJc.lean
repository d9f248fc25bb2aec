/- Joined: JD JE. -/
import Derived.Test.YtdaklohfecinjaaJb
import Derived.Deep.RegionHeld3
import Derived.Test.YtdaklohfecinjaaP2
/- Both arenas side by side: do. -/
namespace Go.Proofs.Ytdaklohfecinjaa
open Go.RowKit
set_option linter.unusedSimpArgs false
set_option linter.unusedVariables false

/-- A call's box. -/
def bx (kd h m x : Int) : Obj := .cells #[.int .i64 kd, .int .i64 h, .int .i64 m, .int .i64 x] 34 (0, 0)
theorem bx_cells {w : World} {k : Nat} {kd h m x : Int} (e : w.heap[k]? = some (bx kd h m x)) : w.cell? ⟨k, 0, none⟩ = some (.int .i64 kd) ∧ w.cell? ⟨k, 1, none⟩ = some (.int .i64 h) ∧ w.cell? ⟨k, 2, none⟩ = some (.int .i64 m) ∧ w.cell? ⟨k, 3, none⟩ = some (.int .i64 x) :=
  ⟨by rw [cell_of e]; rfl, by rw [cell_of e]; rfl, by rw [cell_of e]; rfl, by rw [cell_of e]; rfl⟩
theorem bx_st {w w' : World} {k : Nat} {kd h m x : Int} (e : w.heap[k]? = some (bx kd h m x)) (hs : St w w') : w'.heap[k]? = some (bx kd h m x) := hs _ _ _ e

set_option maxRecDepth 20000 in
set_option maxHeartbeats 2000000 in
theorem do_1 {w0 w : World} {A T size n : Nat} (hD : DS w0 w A T size n) (hn : n ≤ 1000) (h m x : Int) (hw : wf h) :
    Calls Try.prog 16 #[.pointer (some ⟨A, 0, none⟩), .pointer (some ⟨T, 0, none⟩), .agg #[.int .i64 1, .int .i64 h, .int .i64 m, .int .i64 x]] w fun e w' => e = .returned (.bool true) ∧ DS w0 w' A T size (n + 1) := by
  obtain ⟨W, HW⟩ : ∃ W, Hid (W = w.alloc (.cells #[.int .i64 1, .int .i64 h, .int .i64 m, .int .i64 x] 34)) := ⟨_, show _ = _ from rfl⟩
  have HT : Hid (DS w0 W A T size n) := by show DS _ _ _ _ _ _; rw [HW.out]; exact hD.no ((Kept.refl _ _).alloc _)
  have HB : Hid (W.heap[w.heap.size]? = some (bx 1 h m x)) := by show _ = _; rw [HW.out]; exact World.alloc_heap_new w _
  have HWF : Hid (wf h) := hw
  clear hD hw
  obtain ⟨c0, c1, c2, c3⟩ := bx_cells HB.out
  have HP : Hid _ := HT.out.alloc hn m
  go_enter Try.func16, Try.ntmps16
  go_wp2_with fail
  rw [← HW.out]
  go_wp2_with fail
  refine Calls.mono HP.out ?_
  rintro e w1 ⟨y, er, rfl, hst, hcall⟩
  have HC : Hid _ := hcall
  obtain ⟨d0, d1, d2, d3⟩ := bx_cells (bx_st HB.out hst)
  clear hst hcall HP c0 c1 c2 c3
  go_wp2_with fail
  refine Calls.mono HC.out ?_
  rintro e w2 ⟨rfl, hd, hs2⟩
  have HD : Hid _ := hd
  clear hd hs2 HC d0 d1 d2 d3
  go_wp2_with (go_at_call 14; refine (no_any _ _).mono ?_; rintro e w' ⟨rfl, rfl⟩)
  go_ret
  exact ⟨rfl, HD.out⟩

set_option maxRecDepth 20000 in
set_option maxHeartbeats 2000000 in
theorem do_5 {w0 w : World} {A T size n : Nat} (hD : DS w0 w A T size n) (hn : n ≤ 1000) (h m x : Int) (hw : wf h) :
    Calls Try.prog 16 #[.pointer (some ⟨A, 0, none⟩), .pointer (some ⟨T, 0, none⟩), .agg #[.int .i64 5, .int .i64 h, .int .i64 m, .int .i64 x]] w fun e w' => e = .returned (.bool true) ∧ DS w0 w' A T size (n + 1) := by
  obtain ⟨W, HW⟩ : ∃ W, Hid (W = w.alloc (.cells #[.int .i64 5, .int .i64 h, .int .i64 m, .int .i64 x] 34)) := ⟨_, show _ = _ from rfl⟩
  have HT : Hid (DS w0 W A T size n) := by show DS _ _ _ _ _ _; rw [HW.out]; exact hD.no ((Kept.refl _ _).alloc _)
  have HB : Hid (W.heap[w.heap.size]? = some (bx 5 h m x)) := by show _ = _; rw [HW.out]; exact World.alloc_heap_new w _
  have HWF : Hid (wf h) := hw
  clear hD hw
  obtain ⟨c0, c1, c2, c3⟩ := bx_cells HB.out
  have HP : Hid _ := HT.out.load h m HWF.out
  go_enter Try.func16, Try.ntmps16
  go_wp2_with fail
  rw [← HW.out]
  go_wp2_with fail
  refine Calls.mono HP.out ?_
  rintro e w1 ⟨y, er, rfl, hst, hcall⟩
  have HC : Hid _ := hcall
  obtain ⟨d0, d1, d2, d3⟩ := bx_cells (bx_st HB.out hst)
  clear hst hcall HP c0 c1 c2 c3
  go_wp2_with fail
  refine Calls.mono HC.out ?_
  rintro e w2 ⟨rfl, hd, hs2⟩
  have HD : Hid _ := hd
  clear hd hs2 HC d0 d1 d2 d3
  go_wp2_with (go_at_call 14; refine (no_any _ _).mono ?_; rintro e w' ⟨rfl, rfl⟩)
  go_ret
  exact ⟨rfl, HD.out⟩

set_option maxRecDepth 20000 in
set_option maxHeartbeats 2000000 in
theorem do_6 {w0 w : World} {A T size n : Nat} (hD : DS w0 w A T size n) (hn : n ≤ 1000) (h m x : Int) (hw : wf h) :
    Calls Try.prog 16 #[.pointer (some ⟨A, 0, none⟩), .pointer (some ⟨T, 0, none⟩), .agg #[.int .i64 6, .int .i64 h, .int .i64 m, .int .i64 x]] w fun e w' => e = .returned (.bool true) ∧ DS w0 w' A T size (n + 1) := by
  obtain ⟨W, HW⟩ : ∃ W, Hid (W = w.alloc (.cells #[.int .i64 6, .int .i64 h, .int .i64 m, .int .i64 x] 34)) := ⟨_, show _ = _ from rfl⟩
  have HT : Hid (DS w0 W A T size n) := by show DS _ _ _ _ _ _; rw [HW.out]; exact hD.no ((Kept.refl _ _).alloc _)
  have HB : Hid (W.heap[w.heap.size]? = some (bx 6 h m x)) := by show _ = _; rw [HW.out]; exact World.alloc_heap_new w _
  have HWF : Hid (wf h) := hw
  clear hD hw
  obtain ⟨c0, c1, c2, c3⟩ := bx_cells HB.out
  have HP : Hid _ := HT.out.compact
  go_enter Try.func16, Try.ntmps16
  go_wp2_with fail
  rw [← HW.out]
  go_wp2_with fail
  refine Calls.mono HP.out ?_
  rintro e w1 ⟨er, rfl, hst, hcall⟩
  have HC : Hid _ := hcall
  clear hst hcall HP c0 c1 c2 c3
  go_wp2_with fail
  refine Calls.mono HC.out ?_
  rintro e w2 ⟨rfl, hd, hs2⟩
  have HD : Hid _ := hd
  clear hd hs2 HC
  go_wp2
  go_ret
  exact ⟨rfl, HD.out⟩

set_option maxRecDepth 20000 in
set_option maxHeartbeats 2000000 in
theorem do_2 {w0 w : World} {A T size n : Nat} (hD : DS w0 w A T size n) (hn : n ≤ 1000) (h m x : Int) (hw : wf h) :
    Calls Try.prog 16 #[.pointer (some ⟨A, 0, none⟩), .pointer (some ⟨T, 0, none⟩), .agg #[.int .i64 2, .int .i64 h, .int .i64 m, .int .i64 x]] w fun e w' => e = .returned (.bool true) ∧ DS w0 w' A T size (n + 1) := by
  obtain ⟨W, HW⟩ : ∃ W, Hid (W = w.alloc (.cells #[.int .i64 2, .int .i64 h, .int .i64 m, .int .i64 x] 34)) := ⟨_, show _ = _ from rfl⟩
  have HT : Hid (DS w0 W A T size n) := by show DS _ _ _ _ _ _; rw [HW.out]; exact hD.no ((Kept.refl _ _).alloc _)
  have HB : Hid (W.heap[w.heap.size]? = some (bx 2 h m x)) := by show _ = _; rw [HW.out]; exact World.alloc_heap_new w _
  have HWF : Hid (wf h) := hw
  clear hD hw
  obtain ⟨c0, c1, c2, c3⟩ := bx_cells HB.out
  have HP : Hid _ := (HT.out.no (Kept.refl No W).drew).free h HWF.out
  have HBd : Hid (W.drew.heap[w.heap.size]? = some (bx 2 h m x)) := HB.out
  go_enter Try.func16, Try.ntmps16
  go_wp2_with fail
  rw [← HW.out]
  go_wp2_with fail
  go_region_held3 (fun w' => w'.cell? ⟨w.heap.size, 1, none⟩ = some (.int .i64 h)) (go_keep)
    (first
    | (go_at_call 35
       refine Calls.mono HP.out ?_
       rintro e w1 ⟨er, rfl, hst, hcall⟩
       have HC : Hid _ := hcall
       have HB1 : Hid (w1.heap[w.heap.size]? = some (bx 2 h m x)) := bx_st HBd.out hst
       obtain ⟨d0, d1, d2, d3⟩ := bx_cells HB1.out
       clear hst hcall)
    | (go_at_call 14; refine (no_any _ _).mono ?_; rintro e w' ⟨rfl, rfl⟩)
    | (go_at_call 40
       refine Calls.mono HC.out ?_
       rintro e w2 ⟨rfl, hd, hs2⟩
       have HD : Hid _ := hd
       obtain ⟨g0, g1, g2, g3⟩ := bx_cells (bx_st HB1.out hs2)
       clear hd hs2))
  go_wp2
  go_ret
  exact ⟨rfl, HD.out⟩

set_option maxRecDepth 20000 in
set_option maxHeartbeats 2000000 in
theorem do_3 {w0 w : World} {A T size n : Nat} (hD : DS w0 w A T size n) (hn : n ≤ 1000) (h m x : Int) (hw : wf h) :
    Calls Try.prog 16 #[.pointer (some ⟨A, 0, none⟩), .pointer (some ⟨T, 0, none⟩), .agg #[.int .i64 3, .int .i64 h, .int .i64 m, .int .i64 x]] w fun e w' => e = .returned (.bool true) ∧ DS w0 w' A T size (n + 1) := by
  obtain ⟨W, HW⟩ : ∃ W, Hid (W = w.alloc (.cells #[.int .i64 3, .int .i64 h, .int .i64 m, .int .i64 x] 34)) := ⟨_, show _ = _ from rfl⟩
  have HT : Hid (DS w0 W A T size n) := by show DS _ _ _ _ _ _; rw [HW.out]; exact hD.no ((Kept.refl _ _).alloc _)
  have HB : Hid (W.heap[w.heap.size]? = some (bx 3 h m x)) := by show _ = _; rw [HW.out]; exact World.alloc_heap_new w _
  have HWF : Hid (wf h) := hw
  clear hD hw
  obtain ⟨c0, c1, c2, c3⟩ := bx_cells HB.out
  have HP : Hid _ := (HT.out.no (Kept.refl No W).drew).resize h m HWF.out
  have HBd : Hid (W.drew.heap[w.heap.size]? = some (bx 3 h m x)) := HB.out
  go_enter Try.func16, Try.ntmps16
  go_wp2_with fail
  rw [← HW.out]
  go_wp2_with fail
  go_region_held3 (fun w' => w'.cell? ⟨w.heap.size, 1, none⟩ = some (.int .i64 h) ∧ w'.cell? ⟨w.heap.size, 2, none⟩ = some (.int .i64 m)) (go_keep)
    (first
    | (go_at_call 34
       refine Calls.mono HP.out ?_
       rintro e w1 ⟨er, rfl, hst, hcall⟩
       have HC : Hid _ := hcall
       have HB1 : Hid (w1.heap[w.heap.size]? = some (bx 3 h m x)) := bx_st HBd.out hst
       obtain ⟨d0, d1, d2, d3⟩ := bx_cells HB1.out
       clear hst hcall)
    | (go_at_call 14; refine (no_any _ _).mono ?_; rintro e w' ⟨rfl, rfl⟩)
    | (go_at_call 41
       refine Calls.mono HC.out ?_
       rintro e w2 ⟨rfl, hd, hs2⟩
       have HD : Hid _ := hd
       obtain ⟨g0, g1, g2, g3⟩ := bx_cells (bx_st HB1.out hs2)
       clear hd hs2))
  go_wp2
  go_ret
  exact ⟨rfl, HD.out⟩

set_option maxRecDepth 20000 in
set_option maxHeartbeats 2000000 in
theorem do_4 {w0 w : World} {A T size n : Nat} (hD : DS w0 w A T size n) (hn : n ≤ 1000) (h m x : Int) (hw : wf h) :
    Calls Try.prog 16 #[.pointer (some ⟨A, 0, none⟩), .pointer (some ⟨T, 0, none⟩), .agg #[.int .i64 4, .int .i64 h, .int .i64 m, .int .i64 x]] w fun e w' => e = .returned (.bool true) ∧ DS w0 w' A T size (n + 1) := by
  obtain ⟨W, HW⟩ : ∃ W, Hid (W = w.alloc (.cells #[.int .i64 4, .int .i64 h, .int .i64 m, .int .i64 x] 34)) := ⟨_, show _ = _ from rfl⟩
  have HT : Hid (DS w0 W A T size n) := by show DS _ _ _ _ _ _; rw [HW.out]; exact hD.no ((Kept.refl _ _).alloc _)
  have HB : Hid (W.heap[w.heap.size]? = some (bx 4 h m x)) := by show _ = _; rw [HW.out]; exact World.alloc_heap_new w _
  have HWF : Hid (wf h) := hw
  clear hD hw
  obtain ⟨c0, c1, c2, c3⟩ := bx_cells HB.out
  have HP : Hid _ := (HT.out.no (Kept.refl No W).drew).store h m x HWF.out
  have HBd : Hid (W.drew.heap[w.heap.size]? = some (bx 4 h m x)) := HB.out
  go_enter Try.func16, Try.ntmps16
  go_wp2_with fail
  rw [← HW.out]
  go_wp2_with fail
  go_region_held3 (fun w' => w'.cell? ⟨w.heap.size, 1, none⟩ = some (.int .i64 h) ∧ w'.cell? ⟨w.heap.size, 2, none⟩ = some (.int .i64 m) ∧ w'.cell? ⟨w.heap.size, 3, none⟩ = some (.int .i64 x)) (go_keep)
    (first
    | (go_at_call 28
       refine Calls.mono HP.out ?_
       rintro e w1 ⟨er, rfl, hst, hcall⟩
       have HC : Hid _ := hcall
       have HB1 : Hid (w1.heap[w.heap.size]? = some (bx 4 h m x)) := bx_st HBd.out hst
       obtain ⟨d0, d1, d2, d3⟩ := bx_cells HB1.out
       clear hst hcall)
    | (go_at_call 14; refine (no_any _ _).mono ?_; rintro e w' ⟨rfl, rfl⟩)
    | (go_at_call 42
       refine Calls.mono HC.out ?_
       rintro e w2 ⟨rfl, hd, hs2⟩
       have HD : Hid _ := hd
       obtain ⟨g0, g1, g2, g3⟩ := bx_cells (bx_st HB1.out hs2)
       clear hd hs2))
  go_wp2
  go_ret
  exact ⟨rfl, HD.out⟩

set_option maxRecDepth 20000 in
set_option maxHeartbeats 2000000 in
theorem do_7 {w0 w : World} {A T size n : Nat} (hD : DS w0 w A T size n) (hn : n ≤ 1000) (h m x : Int) (hw : wf h) :
    Calls Try.prog 16 #[.pointer (some ⟨A, 0, none⟩), .pointer (some ⟨T, 0, none⟩), .agg #[.int .i64 7, .int .i64 h, .int .i64 m, .int .i64 x]] w fun e w' => e = .returned (.bool true) ∧ DS w0 w' A T size (n + 1) := by
  obtain ⟨W, HW⟩ : ∃ W, Hid (W = w.alloc (.cells #[.int .i64 7, .int .i64 h, .int .i64 m, .int .i64 x] 34)) := ⟨_, show _ = _ from rfl⟩
  have HT : Hid (DS w0 W A T size n) := by show DS _ _ _ _ _ _; rw [HW.out]; exact hD.no ((Kept.refl _ _).alloc _)
  have HB : Hid (W.heap[w.heap.size]? = some (bx 7 h m x)) := by show _ = _; rw [HW.out]; exact World.alloc_heap_new w _
  have HWF : Hid (wf h) := hw
  clear hD hw
  obtain ⟨c0, c1, c2, c3⟩ := bx_cells HB.out
  have HP : Hid _ := (HT.out.no (Kept.refl No W).drew).extend h m HWF.out
  have HBd : Hid (W.drew.heap[w.heap.size]? = some (bx 7 h m x)) := HB.out
  go_enter Try.func16, Try.ntmps16
  go_wp2_with fail
  rw [← HW.out]
  go_wp2_with fail
  go_region_held3 (fun w' => w'.cell? ⟨w.heap.size, 1, none⟩ = some (.int .i64 h) ∧ w'.cell? ⟨w.heap.size, 2, none⟩ = some (.int .i64 m)) (go_keep)
    (first
    | (go_at_call 36
       refine Calls.mono HP.out ?_
       rintro e w1 ⟨er, rfl, hst, hcall⟩
       have HC : Hid _ := hcall
       have HB1 : Hid (w1.heap[w.heap.size]? = some (bx 7 h m x)) := bx_st HBd.out hst
       obtain ⟨d0, d1, d2, d3⟩ := bx_cells HB1.out
       clear hst hcall)
    | (go_at_call 14; refine (no_any _ _).mono ?_; rintro e w' ⟨rfl, rfl⟩)
    | (go_at_call 45
       refine Calls.mono HC.out ?_
       rintro e w2 ⟨rfl, hd, hs2⟩
       have HD : Hid _ := hd
       obtain ⟨g0, g1, g2, g3⟩ := bx_cells (bx_st HB1.out hs2)
       clear hd hs2))
  go_wp2
  go_ret
  exact ⟨rfl, HD.out⟩

set_option maxRecDepth 20000 in
set_option maxHeartbeats 2000000 in
theorem do_0 {w0 w : World} {A T size n : Nat} (hD : DS w0 w A T size n) (kd h m x : Int) (hk : kd < 1 ∨ 7 < kd) :
    Calls Try.prog 16 #[.pointer (some ⟨A, 0, none⟩), .pointer (some ⟨T, 0, none⟩), .agg #[.int .i64 kd, .int .i64 h, .int .i64 m, .int .i64 x]] w fun e w' => e = .returned (.bool true) ∧ DS w0 w' A T size (n + 1) := by
  have HT : Hid (DS w0 (w.alloc (.cells #[.int .i64 kd, .int .i64 h, .int .i64 m, .int .i64 x] 34)) A T size (n + 1)) := (hD.no ((Kept.refl _ _).alloc _)).mono (by omega)
  clear hD
  have b1 : (kd == 1) = false := by rw [beq_eq_false_iff_ne]; omega
  have q1 : ¬ kd = 1 := by omega
  have b2 : (kd == 2) = false := by rw [beq_eq_false_iff_ne]; omega
  have q2 : ¬ kd = 2 := by omega
  have b3 : (kd == 3) = false := by rw [beq_eq_false_iff_ne]; omega
  have q3 : ¬ kd = 3 := by omega
  have b4 : (kd == 4) = false := by rw [beq_eq_false_iff_ne]; omega
  have q4 : ¬ kd = 4 := by omega
  have b5 : (kd == 5) = false := by rw [beq_eq_false_iff_ne]; omega
  have q5 : ¬ kd = 5 := by omega
  have b6 : (kd == 6) = false := by rw [beq_eq_false_iff_ne]; omega
  have q6 : ¬ kd = 6 := by omega
  have b7 : (kd == 7) = false := by rw [beq_eq_false_iff_ne]; omega
  have q7 : ¬ kd = 7 := by omega
  clear hk
  go_enter Try.func16, Try.ntmps16
  go_wp2
  go_ret
  exact ⟨rfl, HT.out⟩

theorem do_any {w0 w : World} {A T size n : Nat} (hD : DS w0 w A T size n) (hn : n ≤ 1000) (kd h m x : Int) (hw : wf h) :
    Calls Try.prog 16 #[.pointer (some ⟨A, 0, none⟩), .pointer (some ⟨T, 0, none⟩), .agg #[.int .i64 kd, .int .i64 h, .int .i64 m, .int .i64 x]] w fun e w' => e = .returned (.bool true) ∧ DS w0 w' A T size (n + 1) := by
  by_cases hk : kd < 1 ∨ 7 < kd
  · exact do_0 hD kd h m x hk
  · have : kd = 1 ∨ kd = 2 ∨ kd = 3 ∨ kd = 4 ∨ kd = 5 ∨ kd = 6 ∨ kd = 7 := by omega
    rcases this with rfl | rfl | rfl | rfl | rfl | rfl | rfl
    · exact do_1 hD hn h m x hw
    · exact do_2 hD hn h m x hw
    · exact do_3 hD hn h m x hw
    · exact do_4 hD hn h m x hw
    · exact do_5 hD hn h m x hw
    · exact do_6 hD hn h m x hw
    · exact do_7 hD hn h m x hw
end Go.Proofs.Ytdaklohfecinjaa

/- Both arenas side by side: looks; ArenaPlays. -/
namespace Go.Proofs.Ytdaklohfecinjaa
open Go.RowKit
set_option linter.unusedSimpArgs false
set_option linter.unusedVariables false

set_option maxRecDepth 20000 in
set_option maxHeartbeats 1000000 in
theorem Ints_same {w : World} {B B' : Nat} {v v' : Value} {l : List Nat} (h : IRow w B v l) (h' : IRow w B' v' l) (hl : l.length ≤ 100000) :
    Calls Try.prog 33 #[v, v'] w fun e w' => e = .returned (.bool true) ∧ Kept No w w' := by
  have mixed : Try.prog.follows .mixedOrders = true := by kernel_rfl
  obtain ⟨ao, c, rfl, _⟩ := h.form
  obtain ⟨ao', c', rfl, _⟩ := h'.form
  have HC : Hid (∀ W, Kept No w W → ∀ j (hj : j < l.length), ∃ g g', ao = some ⟨g, 0, none⟩ ∧ ao' = some ⟨g', 0, none⟩ ∧ W.cell? ⟨g, j, none⟩ = some (.int .i64 (l[j] : Int)) ∧ W.cell? ⟨g', j, none⟩ = some (.int .i64 (l[j] : Int))) := fun W hW j hj => by
    obtain ⟨a1, q1, e1, f1⟩ := (h.no hW).form
    obtain ⟨a2, q2, e2, f2⟩ := (h'.no hW).form
    injection e1 with e1 _ _
    injection e2 with e2 _ _
    subst e1 e2
    obtain ⟨g, x1, x2⟩ := f1 j hj
    obtain ⟨g', y1, y2⟩ := f2 j hj
    exact ⟨g, g', x1, y1, x2, y2⟩
  clear h h'
  go_enter Try.func33, Try.ntmps33
  go_wp2_with fail
  go_loopw [5] (fun i wr => ∃ j : Nat, j ≤ l.length ∧ i = .int .i64 j ∧ Hid (Kept No w wr)) (fun i _ => l.length - (intOf i).toNat)
  case atStart => exact ⟨0, Nat.zero_le _, rfl, Kept.refl _ _⟩
  case round =>
    obtain ⟨j, hj, rfl, HK⟩ := hrel
    by_cases hlt : j < l.length
    · obtain ⟨g, g', rfl, rfl, c1, c2⟩ := HC.out wr HK.out j hlt
      have j1 : (j : Int) < (l.length : Int) := by omega
      generalize (l[j] : Int) = z at c1 c2
      have HK2 : Hid (Kept No w wr.drew) := HK.out.drew
      go_wp2_with fail
      go_big_region_o
      generalize wr.drew = W at HK2 ⊢
      clear c1 c2
      go_wp2
      go_round
      case rel => exact ⟨j + 1, by omega, by go_num, HK2.out⟩
      case measure => simp [intOf] <;> omega
    · obtain rfl : j = l.length := by omega
      go_wp2
      go_ret
      exact ⟨rfl, HK.out⟩

theorem RTop_any {w : World} {B T size : Nat} {v : Value} {K : List Bk} (h : Rt w B T size v K) (hb : BdK K) :
    Calls Try.prog 48 #[.pointer (some ⟨T, 0, none⟩)] w fun e w' => e = .returned (.int .i64 (enK K K.length : Nat)) ∧ Kept No w w' := by
  rcases Nat.eq_zero_or_pos K.length with e | e
  · obtain rfl := List.eq_nil_of_length_eq_zero e
    refine (RTop_nil h).mono ?_
    rintro e w' ⟨he, rfl⟩
    exact ⟨he, Kept.refl _ _⟩
  · exact RTop_some h hb e

theorem wf_le {x : Nat} (h : x ≤ 70000) : wf (x : Int) := by
  have h1 : IntKind.i64.max = 9223372036854775807 := by decide
  have h2 : IntKind.i64.min = -9223372036854775808 := by decide
  unfold wf
  simp [Lit.wf]
  omega

/-- What both tell, wherever nothing has turned. -/
structure Lk (w : World) (A T size : Nat) (hl : List Nat) (adr len : Nat → Int) (lv tp : Nat) (gp : Int) : Prop where
  t0 : ∀ W, Kept No w W → W.cell? ⟨T, 0, none⟩ = some (.int .i64 (size : Int))
  hn : hl.length ≤ 65536
  ha : ∀ W, Kept No w W → Calls Try.prog 23 #[.pointer (some ⟨A, 0, none⟩)] W fun e w' => ∃ v : Value, e = .returned v ∧ IRow w' W.heap.size v hl ∧ Kept No W w'
  rh : ∀ W, Kept No w W → Calls Try.prog 46 #[.pointer (some ⟨T, 0, none⟩)] W fun e w' => ∃ v : Value, e = .returned v ∧ IRow w' W.heap.size v hl ∧ Kept No W w'
  sz : ∀ W, Kept No w W → Calls Try.prog 26 #[.pointer (some ⟨A, 0, none⟩)] W fun e w' => e = .returned (.int .i64 (size : Int)) ∧ W = w'
  li : ∀ W, Kept No w W → Calls Try.prog 24 #[.pointer (some ⟨A, 0, none⟩)] W fun e w' => e = .returned (.int .i64 (lv : Int)) ∧ Kept No W w'
  rl : ∀ W, Kept No w W → Calls Try.prog 47 #[.pointer (some ⟨T, 0, none⟩)] W fun e w' => e = .returned (.int .i64 (lv : Int)) ∧ W = w'
  to : ∀ W, Kept No w W → Calls Try.prog 25 #[.pointer (some ⟨A, 0, none⟩)] W fun e w' => e = .returned (.int .i64 (tp : Int)) ∧ Kept No W w'
  rt : ∀ W, Kept No w W → Calls Try.prog 48 #[.pointer (some ⟨T, 0, none⟩)] W fun e w' => e = .returned (.int .i64 (tp : Int)) ∧ Kept No W w'
  ga : ∀ W, Kept No w W → Calls Try.prog 32 #[.pointer (some ⟨A, 0, none⟩)] W fun e w' => e = .returned (.int .i64 gp) ∧ Kept No W w'
  rg : ∀ W, Kept No w W → Calls Try.prog 49 #[.pointer (some ⟨T, 0, none⟩)] W fun e w' => e = .returned (.int .i64 gp) ∧ Kept No W w'
  ad : ∀ W, Kept No w W → ∀ i (hi : i < hl.length), Calls Try.prog 20 #[.pointer (some ⟨A, 0, none⟩), .int .i64 (hl[i] : Int)] W fun e w' => e = .returned (.int .i64 (adr i)) ∧ W = w'
  ra : ∀ W, Kept No w W → ∀ i (hi : i < hl.length), Calls Try.prog 21 #[.pointer (some ⟨T, 0, none⟩), .int .i64 (hl[i] : Int)] W fun e w' => e = .returned (.int .i64 (adr i)) ∧ W = w'
  le : ∀ W, Kept No w W → ∀ i (hi : i < hl.length), Calls Try.prog 18 #[.pointer (some ⟨A, 0, none⟩), .int .i64 (hl[i] : Int)] W fun e w' => e = .returned (.int .i64 (len i)) ∧ W = w'
  rle : ∀ W, Kept No w W → ∀ i (hi : i < hl.length), Calls Try.prog 19 #[.pointer (some ⟨T, 0, none⟩), .int .i64 (hl[i] : Int)] W fun e w' => e = .returned (.int .i64 (len i)) ∧ W = w'

/-- Addr and Len of any handle. -/
theorem DS.asks {w0 w : World} {A T size n : Nat} (h : DS w0 w A T size n) (x : Int) (hw : wf x) : ∃ a l : Int,
    (∀ W, Kept No w W → Calls Try.prog 20 #[.pointer (some ⟨A, 0, none⟩), .int .i64 x] W fun e w' => e = .returned (.int .i64 a) ∧ W = w') ∧
    (∀ W, Kept No w W → Calls Try.prog 21 #[.pointer (some ⟨T, 0, none⟩), .int .i64 x] W fun e w' => e = .returned (.int .i64 a) ∧ W = w') ∧
    (∀ W, Kept No w W → Calls Try.prog 18 #[.pointer (some ⟨A, 0, none⟩), .int .i64 x] W fun e w' => e = .returned (.int .i64 l) ∧ W = w') ∧
    (∀ W, Kept No w W → Calls Try.prog 19 #[.pointer (some ⟨T, 0, none⟩), .int .i64 x] W fun e w' => e = .returned (.int .i64 l) ∧ W = w') := by
  obtain ⟨C, M, F, f, least, cs, hb, v, K, hP, hc⟩ := h
  have hbd := hP.rp.bdK hc
  cases hl : look hb x with
  | none =>
    exact ⟨-1, 0, fun W hW => Addr_none x hw W (hP.no hW).rp hl, fun W hW => RAddr_none (hP.no hW).rt hbd x (hc.none hl), fun W hW => Len_none x hw W (hP.no hW).rp hl, fun W hW => RLen_none (hP.no hW).rt hbd x (hc.none hl)⟩
  | some p =>
    obtain ⟨k, hk, rfl⟩ := look_at hl
    obtain ⟨hkK, e1, e2, e3⟩ := hc.at hk
    have hxl := hc.xs hP.inn hk hkK
    have hs := hc.some hP.rp.hnd hk
    refine ⟨(hb[k].2.a : Int), (hb[k].2.s : Int), fun W hW => Addr_some (List.getElem_mem hk) hw W (hP.no hW).rp, fun W hW => ?_, fun W hW => Len_some (List.getElem_mem hk) hw W (hP.no hW).rp, fun W hW => ?_⟩
    · have := RAddr_some (hP.no hW).rt hbd _ hkK hs
      rw [e2] at this; exact this
    · have := RLen_some (hP.no hW).rt hbd _ hkK hs
      rw [hxl] at this; exact this

theorem DS.lk {w0 w : World} {A T size n : Nat} (h : DS w0 w A T size n) : ∃ hl adr len lv tp gp, Lk w A T size hl adr len lv tp gp := by
  have h0 := h
  obtain ⟨C, M, F, f, least, cs, hb, v, K, hP, hc⟩ := h
  have hbd := hP.rp.bdK hc
  have hsz := hP.rp.sz
  obtain ⟨xs, hperm, hxs, hinc⟩ := entries hb hP.rp.hnd
  have hlen : (xs.map Prod.fst).length = hb.length := by rw [List.length_map, hperm.length_eq]
  have hicn : (hsS hb).map (Value.int .i64) = icN (xs.map Prod.fst) := by
    rw [← hxs]; simp [hs, icN, Function.comp_def]
  have hb7 : ∀ t ∈ xs.map Prod.fst, 1 ≤ t ∧ t ≤ 70000 := fun t ht => by
    obtain ⟨x, hx, rfl⟩ := List.mem_map.1 ht
    have hx' := hperm.mem_iff.1 hx
    exact ⟨(hP.rp.pos x hx').2, hP.hh x hx'⟩
  have hmem : ∀ t : Nat, t ∈ xs.map Prod.fst ↔ ∃ b ∈ K, b.h = t := fun t => by
    constructor
    · intro ht
      obtain ⟨x, hx, rfl⟩ := List.mem_map.1 ht
      obtain ⟨i, hi, e⟩ := List.getElem_of_mem (hperm.mem_iff.1 hx)
      obtain ⟨hk, e1, _⟩ := hc.at hi
      exact ⟨K[i], List.getElem_mem hk, by rw [e1, e]⟩
    · rintro ⟨b, hb', rfl⟩
      obtain ⟨i, hi, e⟩ := List.getElem_of_mem hb'
      have hi' : i < hb.length := by rw [← hc.len]; exact hi
      obtain ⟨hk, e1, _⟩ := hc.at hi'
      rw [← e, e1]
      exact List.mem_map_of_mem (hperm.mem_iff.2 (List.getElem_mem hi'))
  have hask : ∀ i : Nat, ∃ a l : Int, ∀ (hi : i < (xs.map Prod.fst).length),
    (∀ W, Kept No w W → Calls Try.prog 20 #[.pointer (some ⟨A, 0, none⟩), .int .i64 ((xs.map Prod.fst)[i] : Int)] W fun e w' => e = .returned (.int .i64 a) ∧ W = w') ∧
    (∀ W, Kept No w W → Calls Try.prog 21 #[.pointer (some ⟨T, 0, none⟩), .int .i64 ((xs.map Prod.fst)[i] : Int)] W fun e w' => e = .returned (.int .i64 a) ∧ W = w') ∧
    (∀ W, Kept No w W → Calls Try.prog 18 #[.pointer (some ⟨A, 0, none⟩), .int .i64 ((xs.map Prod.fst)[i] : Int)] W fun e w' => e = .returned (.int .i64 l) ∧ W = w') ∧
    (∀ W, Kept No w W → Calls Try.prog 19 #[.pointer (some ⟨T, 0, none⟩), .int .i64 ((xs.map Prod.fst)[i] : Int)] W fun e w' => e = .returned (.int .i64 l) ∧ W = w') := fun i => by
    by_cases hi : i < (xs.map Prod.fst).length
    · obtain ⟨a, l, hh⟩ := h0.asks ((xs.map Prod.fst)[i] : Int) (wf_le (hb7 _ (List.getElem_mem hi)).2)
      exact ⟨a, l, fun _ => hh⟩
    · exact ⟨0, 0, fun h => absurd h hi⟩
  refine ⟨xs.map Prod.fst, fun i => (hask i).choose, fun i => (hask i).choose_spec.choose, sumS (nodes F hb), topN (nodes F hb), gm (nodes F hb) size (nodes F hb).length, ?_⟩
  have hask2 : ∀ i (hi : i < (xs.map Prod.fst).length), _ := fun i hi => (hask i).choose_spec.choose_spec hi
  refine ⟨fun W hW => (hP.no hW).rt.cells.1, by rw [hlen]; have := hP.rp.length_le; omega, fun W hW => ?_, fun W hW => RHandles_any (hP.no hW).rt hbd _ hinc hmem hb7 (by rw [hlen, hc.len]), fun W hW => Size_any W (hP.no hW).rp,
    fun W hW => Live_rp W (hP.no hW).rp, fun W hW => ?_, fun W hW => Top_any W (hP.no hW).rp, fun W hW => ?_, fun W hW => Gap_rp W (hP.no hW).rp, fun W hW => ?_,
    fun W hW i hi => (hask2 i hi).1 W hW, fun W hW i hi => (hask2 i hi).2.1 W hW, fun W hW i hi => (hask2 i hi).2.2.1 W hW, fun W hW i hi => (hask2 i hi).2.2.2 W hW⟩
  · refine (Handles_any (hP.no hW).rp).mono ?_
    rintro e w' ⟨v, he, hr, hk⟩
    refine ⟨v, he, ?_, Kept.of_below hk⟩
    rw [hicn, ← hlen] at hr
    exact hr
  · have := RLive_any (hP.no hW).rt hbd
    rw [hc.sum hP.inn F] at this; exact this
  · have := RTop_any (hP.no hW).rt hbd
    rw [hc.tp hP.inn F] at this; exact this
  · have := RGap_any (hP.no hW).rt hbd hsz
    rw [hc.gx hP.inn F size] at this; exact this

set_option maxRecDepth 20000 in
set_option maxHeartbeats 4000000 in
theorem looks_any {w : World} {A T size lv tp : Nat} {hl : List Nat} {adr len : Nat → Int} {gp : Int} (h : Lk w A T size hl adr len lv tp gp) :
    Calls Try.prog 17 #[.pointer (some ⟨A, 0, none⟩), .pointer (some ⟨T, 0, none⟩)] w fun e w' => e = .returned (.bool true) ∧ Kept No w w' := by
  have H : Hid (Lk w A T size hl adr len lv tp gp) := h
  clear h
  have hn := H.out.hn
  go_enter Try.func17, Try.ntmps17
  go_wp2_with fail
  refine (H.out.rh w (Kept.refl _ _)).mono ?_
  rintro e w1 ⟨v1, rfl, hr1, hk1⟩
  have H1 : Hid (IRow w1 w.heap.size v1 hl ∧ Kept No w w1) := ⟨hr1, hk1⟩
  obtain ⟨so, sc, e1, _⟩ := hr1.form
  clear hr1 hk1
  have HV1 : Hid (v1 = .slice so hl.length sc) := e1
  have t1 := H.out.t0 w1 H1.out.2
  subst e1
  go_wp2_with fail
  go_region_held3 (fun w' => w'.cell? ⟨T, 0, none⟩ = some (.int .i64 (size : Int))) (go_keep)
    (first
    | (go_at_call 23
       refine (H.out.ha _ H1.out.2.drew).mono ?_
       rintro e w2 ⟨v2, rfl, hr2, hk2⟩
       have HK2 : Hid (Kept No w1 w2) := (Kept.refl No w1).drew.trans hk2
       have HI : Hid _ := Ints_same hr2 (H1.out.1.no ((Kept.refl No w1).drew.trans hk2)) (by omega)
       have t2 := H.out.t0 w2 (H1.out.2.trans HK2.out)
       clear hr2 hk2)
    | (go_at_call 33
       refine Calls.mono HI.out ?_
       rintro e w3 ⟨rfl, hk3⟩
       have HK3 : Hid (Kept No w1 w3) := HK2.out.trans hk3
       have t3 := H.out.t0 w3 (H1.out.2.trans HK3.out)
       clear hk3)
    | (go_at_call 26; refine (H.out.sz _ (H1.out.2.trans HK3.out)).mono ?_; rintro e w' ⟨rfl, rfl⟩)
    | (go_at_call 24
       refine (H.out.li _ (H1.out.2.trans HK3.out)).mono ?_
       rintro e w4 ⟨rfl, hk4⟩
       have HK4 : Hid (Kept No w1 w4) := HK3.out.trans hk4
       have t4 := H.out.t0 w4 (H1.out.2.trans HK4.out)
       clear hk4)
    | (go_at_call 47; refine (H.out.rl _ (H1.out.2.trans HK4.out)).mono ?_; rintro e w' ⟨rfl, rfl⟩)
    | (go_at_call 25
       refine (H.out.to _ (H1.out.2.trans HK4.out)).mono ?_
       rintro e w5 ⟨rfl, hk5⟩
       have HK5 : Hid (Kept No w1 w5) := HK4.out.trans hk5
       have t5 := H.out.t0 w5 (H1.out.2.trans HK5.out)
       clear hk5)
    | (go_at_call 48
       refine (H.out.rt _ (H1.out.2.trans HK5.out)).mono ?_
       rintro e w6 ⟨rfl, hk6⟩
       have HK6 : Hid (Kept No w1 w6) := HK5.out.trans hk6
       have t6 := H.out.t0 w6 (H1.out.2.trans HK6.out)
       clear hk6)
    | (go_at_call 32
       refine (H.out.ga _ (H1.out.2.trans HK6.out)).mono ?_
       rintro e w7 ⟨rfl, hk7⟩
       have HK7 : Hid (Kept No w1 w7) := HK6.out.trans hk7
       have t7 := H.out.t0 w7 (H1.out.2.trans HK7.out)
       clear hk7)
    | (go_at_call 49
       refine (H.out.rg _ (H1.out.2.trans HK7.out)).mono ?_
       rintro e w8 ⟨rfl, hk8⟩
       have HK8 : Hid (Kept No w1 w8) := HK7.out.trans hk8
       have t8 := H.out.t0 w8 (H1.out.2.trans HK8.out)
       clear hk8))
  clear t1 t2 t3 t4 t5 t6 t7 t8 HK2 HK3 HK4 HK5 HK6 HK7 HI
  have HRow : Hid (∀ W, Kept No w1 W → ∀ j (hj : j < hl.length), ∃ g, so = some ⟨g, 0, none⟩ ∧ W.cell? ⟨g, j, none⟩ = some (.int .i64 (hl[j] : Int))) := fun W hW j hj => by
    obtain ⟨so', sc', e, hh⟩ := (H1.out.1.no hW).form
    injection e with e1 e2 e3
    subst e1
    exact hh j hj
  go_wp2_with fail
  go_loopw [6] (fun i wr => ∃ j : Nat, j ≤ hl.length ∧ i = .int .i64 j ∧ Hid (Kept No w1 wr)) (fun i _ => hl.length - (intOf i).toNat)
  case atStart => exact ⟨0, Nat.zero_le _, rfl, HK8.out⟩
  case round =>
    clear HK8
    obtain ⟨j, hj, rfl, HK⟩ := hrel
    by_cases hlt : j < hl.length
    · obtain ⟨g, rfl, c1⟩ := HRow.out wr HK.out j hlt
      have j1 : (j : Int) < (hl.length : Int) := by omega
      have HA : Hid (∀ q, Calls Try.prog 20 #[.pointer (some ⟨A, 0, none⟩), .int .i64 (hl[j] : Int)] (wr.drewN q) fun e w' => e = .returned (.int .i64 (adr j)) ∧ wr.drewN q = w') := fun q => H.out.ad _ ((H1.out.2.trans HK.out).drewN q) j hlt
      have HRA : Hid (∀ q, Calls Try.prog 21 #[.pointer (some ⟨T, 0, none⟩), .int .i64 (hl[j] : Int)] (wr.drewN q) fun e w' => e = .returned (.int .i64 (adr j)) ∧ wr.drewN q = w') := fun q => H.out.ra _ ((H1.out.2.trans HK.out).drewN q) j hlt
      have HL : Hid (∀ q, Calls Try.prog 18 #[.pointer (some ⟨A, 0, none⟩), .int .i64 (hl[j] : Int)] (wr.drewN q) fun e w' => e = .returned (.int .i64 (len j)) ∧ wr.drewN q = w') := fun q => H.out.le _ ((H1.out.2.trans HK.out).drewN q) j hlt
      have HRL : Hid (∀ q, Calls Try.prog 19 #[.pointer (some ⟨T, 0, none⟩), .int .i64 (hl[j] : Int)] (wr.drewN q) fun e w' => e = .returned (.int .i64 (len j)) ∧ wr.drewN q = w') := fun q => H.out.rle _ ((H1.out.2.trans HK.out).drewN q) j hlt
      generalize (hl[j] : Int) = x at c1 HA HRA HL HRL
      generalize adr j = a0 at HA HRA
      generalize len j = l0 at HL HRL
      go_wp2_with fail
      go_quiet (first | (go_at_call 20; with_reducible exact quiet_same (HA.out _)) | (go_at_call 21; with_reducible exact quiet_same (HRA.out _)) | (go_at_call 18; with_reducible exact quiet_same (HL.out _)) | (go_at_call 19; with_reducible exact quiet_same (HRL.out _)))
      have HK2 : Hid (Kept No w1 (wr.drewN nq)) := HK.out.drewN nq
      go_wp2
      go_round
      case rel => exact ⟨j + 1, by omega, by go_num, HK2⟩
      case measure => simp [intOf] <;> omega
    · obtain rfl : j = hl.length := by omega
      go_wp2
      go_ret
      exact ⟨rfl, H1.out.2.trans HK.out⟩

set_option maxRecDepth 20000 in
set_option maxHeartbeats 4000000 in
theorem Plays_any (size : Int) (v : Value) (L : List (Int × Int × Int × Int)) (ask : Int) (w : World) (hL : Acts w v L) (hw : wf ask) :
    Calls Try.prog 3 #[.int .i64 size, v, .int .i64 ask] w fun e w' => e = .returned (.bool true) ∧ Kept No w w' := by
  obtain ⟨ao, cap, rfl, hwf, hcl⟩ := hL
  have HW : Hid (wf ask) := hw
  cases hs : rl size with
  | false =>
    clear hwf hcl
    go_enter Try.func3, Try.ntmps3
    go_wp2_with (first | (go_at_call 12; refine (New_arg _ hs _).mono ?_; rintro e w' ⟨rfl, rfl⟩) | (go_at_call 13; refine (RNew_arg _ hs _).mono ?_; rintro e w' ⟨rfl, rfl⟩) | (go_at_call 14; refine (no_any _ _).mono ?_; rintro e w' ⟨rfl, rfl⟩))
    refine (alive_any w).mono ?_
    rintro e w2 ⟨rfl, h2⟩
    have H2 : Hid (Kept No w w2) := h2
    clear h2
    go_wp2
    go_ret
    exact ⟨rfl, H2.out⟩
  | true =>
  obtain ⟨size, rfl⟩ := rl_nat hs
  have HWf : Hid (∀ a ∈ L, wf a.2.1) := hwf
  have HC : Hid (0 < L.length → ∃ b off, ao = some ⟨b, off, none⟩ ∧ ∀ i (hi : i < L.length),
    w.cell? ⟨b, off + i * 4, none⟩ = some (.int .i64 L[i].1) ∧ w.cell? ⟨b, off + i * 4 + 1, none⟩ = some (.int .i64 L[i].2.1) ∧ w.cell? ⟨b, off + i * 4 + 2, none⟩ = some (.int .i64 L[i].2.2.1) ∧ w.cell? ⟨b, off + i * 4 + 3, none⟩ = some (.int .i64 L[i].2.2.2)) := hcl
  have HN := Re.new size hs
  clear hwf hcl
  go_enter Try.func3, Try.ntmps3
  go_wp2_with fail
  refine (New_ok size hs w).mono ?_
  rintro e w1 ⟨rfl, hR1, hk1⟩
  have H1 : Hid (Rp w1 (w.heap.size + 1 + 1 + 1) (w.heap.size + 1) (w.heap.size + 1 + 1) w.heap.size w.heap.size size 1 0 (List.replicate size 0) [] ∧ Kept No w w1) := ⟨hR1, hk1⟩
  clear hR1 hk1 HN
  generalize HAe : w.heap.size + 1 + 1 + 1 = A at H1 ⊢
  have HA : Hid (w.heap.size + 1 + 1 + 1 = A) := HAe
  clear HAe
  go_wp2_with fail
  refine (RNew_ok size hs w1).mono ?_
  rintro e w2 ⟨rfl, hT2, hk2⟩
  have H2 : Hid (DS w w2 A w1.heap.size size 0 ∧ Kept No w w2) := by
    refine ⟨⟨_, _, _, _, _, _, _, .slice none 0 0, [], ⟨H1.out.1.no hk2, ?_, fun k e => ?_, H1.out.2.trans hk2, by simp, fun x hx => absurd hx (by simp)⟩, (show Cor _ [] [] from rfl)⟩, H1.out.2.trans hk2⟩
    · exact ⟨hT2.hT, World.ownsRow_nil _ _ _ _, fun b hb => absurd hb (by simp), by simp, H1.out.2.size⟩
    · have := HA.out
      rcases e with e | e | e | e
      · omega
      · omega
      · omega
      · simp [nodes] at e; omega
  clear hT2 hk2
  generalize w1.heap.size = T at H2 ⊢
  clear H1 HA
  go_wp2_with (go_at_call 14; refine (no_any _ _).mono ?_; rintro e w' ⟨rfl, rfl⟩)
  refine (alive_any w2).mono ?_
  rintro e w3 ⟨rfl, h3⟩
  have H3 : Hid (DS w w3 A T size 0) := H2.out.1.no h3
  clear h3 H2
  rcases Nat.lt_or_ge 80 L.length with hn0 | hn
  · have hn' : (80 : Int) < (L.length : Int) := by omega
    go_wp2
    go_ret
    exact ⟨rfl, H3.out.since⟩
  · have hn' : ¬ (80 : Int) < (L.length : Int) := by omega
    go_wp2_with fail
    go_loopw [11] (fun i wr => ∃ k : Nat, k ≤ L.length ∧ i = .int .i64 k ∧ Hid (DS w wr A T size k)) (fun i _ => L.length - (intOf i).toNat)
    case atStart => exact ⟨0, Nat.zero_le _, rfl, H3.out⟩
    case round =>
      clear H3
      obtain ⟨k, hk, rfl, HD⟩ := hrel
      by_cases hlt : k < L.length
      · have k2 : (k : Int) < (L.length : Int) := by omega
        obtain ⟨b, off, rfl, hcell⟩ := HC.out (by omega)
        obtain ⟨c0, c1, c2, c3⟩ := hcell k hlt
        have hkk := HD.out.since
        have d0 := hkk.cell c0
        have d1 := hkk.cell c1
        have d2 := hkk.cell c2
        have d3 := hkk.cell c3
        have HWk : Hid (wf L[k].2.1) := HWf.out _ (List.getElem_mem hlt)
        clear hcell c0 c1 c2 c3 hkk
        generalize L[k].1 = kd at *
        generalize L[k].2.1 = hh at *
        generalize L[k].2.2.1 = mm at *
        generalize L[k].2.2.2 = xx at *
        go_wp2_with fail
        refine (do_any HD.out (by omega) kd hh mm xx HWk.out).mono ?_
        rintro e w4 ⟨rfl, h4⟩
        have H4 : Hid (DS w w4 A T size (k + 1)) := h4
        clear h4 d0 d1 d2 d3
        go_wp2_with fail
        obtain ⟨hl, adr, len, lv, tp, gp, hlk⟩ := H4.out.lk
        refine (looks_any hlk).mono ?_
        rintro e w5 ⟨rfl, h5⟩
        have H5 : Hid (DS w w5 A T size (k + 1)) := H4.out.no h5
        clear h5 hlk H4 HD
        obtain ⟨aa, ll, a1, a2, a3, a4⟩ := H5.out.asks ask HW.out
        have HL1 : Hid _ := a3 w5 (Kept.refl _ _)
        have HL2 : Hid _ := a4 w5 (Kept.refl _ _)
        have HA1 : Hid _ := a1 w5 (Kept.refl _ _)
        have HA2 : Hid _ := a2 w5 (Kept.refl _ _)
        clear a1 a2 a3 a4
        go_wp2_with (first | (go_at_call 18; refine Calls.mono HL1.out ?_; rintro e w' ⟨rfl, rfl⟩) | (go_at_call 19; refine Calls.mono HL2.out ?_; rintro e w' ⟨rfl, rfl⟩) | (go_at_call 20; refine Calls.mono HA1.out ?_; rintro e w' ⟨rfl, rfl⟩) | (go_at_call 21; refine Calls.mono HA2.out ?_; rintro e w' ⟨rfl, rfl⟩))
        go_round
        case rel => exact ⟨k + 1, by omega, by go_num, H5⟩
        case measure => simp [intOf] <;> omega
      · obtain rfl : k = L.length := by omega
        have HKe : Hid (Kept No w wr) := HD.out.since
        clear HD
        go_wp2
        go_ret
        exact ⟨rfl, HKe.out⟩

theorem ArenaPlays_any {L : List (Int × Int × Int × Int)} (size : Int) (v : Value) (ask : Int) (w : World) (hL : Acts w v L) (hw : wf ask) : Calls Try.prog 3 #[.int .i64 size, v, .int .i64 ask] w fun e w' => e = .returned (.bool true) ∧ Below w.heap.size w w' :=
  (Plays_any size v L ask w hL hw).mono (fun e w' ⟨he, hk⟩ => ⟨he, hk.below (Nat.le_refl _) (fun k e => e.elim)⟩)
end Go.Proofs.Ytdaklohfecinjaa
