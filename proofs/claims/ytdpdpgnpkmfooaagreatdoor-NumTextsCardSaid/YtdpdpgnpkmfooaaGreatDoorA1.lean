/- The chapter's examples come out: alive answers true. -/
import Derived.Test.YtdpdpgnpkmfooaaGreatDoorA0
import Derived.Deep.RegionHeld3
namespace Go.Proofs.YtdpdpgnpkmfooaaGreatDoor
open Go.RowKit

/-- The table's cell that is read. -/
abbrev TabIs4 (w : World) : Prop := w.cell? ⟨6, 15, none⟩ = some (.int .u8 4)

/-- A cell stays when a block is laid. -/
theorem alC {w : World} {a : Addr} {v : Value} (o : Obj) (h : w.cell? a = some v) : (w.alloc o).cell? a = some v := cell_later ((Below.refl w.heap.size w).alloc (Nat.le_refl _) o) h
theorem alB {w a : World} (o : Obj) (h : Hid (Below w.heap.size w a)) : Hid (Below w.heap.size w (a.alloc o)) := h.out.alloc h.out.size o
theorem new0 (w : World) (x y : Value) : (w.alloc (.cells #[x, y] 23)).cell? ⟨w.heap.size, 0, none⟩ = some x := by simp [go_sem]
theorem new1 (w : World) (x y : Value) : (w.alloc (.cells #[x, y] 23)).cell? ⟨w.heap.size, 1, none⟩ = some y := by simp [go_sem]

set_option maxHeartbeats 8000000 in
set_option maxRecDepth 100000 in
theorem alive_any (w : World) (ht : TabIs4 w) :
    Calls Tryz.prog 25 #[] w fun e w' => e = .returned (.bool true) ∧ Below w.heap.size w w' := by
  have HB : Hid (Below w.heap.size w w) := Below.refl _ _
  go_enter Tryz.func25, Tryz.ntmps25
  go_wp2_with fail
  refine (Int_any _ _).mono ?_
  rintro e w1 ⟨rfl, hb⟩
  have HB := chain HB hb
  have ht := cell_later hb ht
  clear hb
  go_wp2_with fail
  refine (Int_any _ _).mono ?_
  rintro e w2 ⟨rfl, hb⟩
  have HB := chain HB hb
  have ht := cell_later hb ht
  clear hb
  go_wp2_with fail
  refine (ex1 _).mono ?_
  rintro e w3 ⟨rfl, hb⟩
  have HB := chain HB hb
  have ht := cell_later hb ht
  clear hb
  have HB := alB (.cells #[(.int .i64 2), (.int .i64 (-9223372036854775808))] 23) HB
  have ht := alC (.cells #[(.int .i64 2), (.int .i64 (-9223372036854775808))] 23) ht
  have fa := new1 w3 (.int .i64 2) (.int .i64 (-9223372036854775808))
  go_wp2_with fail
  refine (Int_any _ _).mono ?_
  rintro e w4 ⟨rfl, hb⟩
  have HB := chain HB hb
  have ht := cell_later hb ht
  have fa := cell_later hb fa
  clear hb
  go_wp2_with fail
  refine (Int_any _ _).mono ?_
  rintro e w5 ⟨rfl, hb⟩
  have HB := chain HB hb
  have ht := cell_later hb ht
  have fa := cell_later hb fa
  clear hb
  go_wp2_with fail
  refine (ex2 _).mono ?_
  rintro e w6 ⟨rfl, hb⟩
  have HB := chain HB hb
  have ht := cell_later hb ht
  have fa := cell_later hb fa
  clear hb
  have HB := alB (.cells #[(.int .i64 2), (.int .i64 (-4))] 23) HB
  have ht := alC (.cells #[(.int .i64 2), (.int .i64 (-4))] 23) ht
  have fa := alC (.cells #[(.int .i64 2), (.int .i64 (-4))] 23) fa
  have fb := new1 w6 (.int .i64 2) (.int .i64 (-4))
  go_wp2_with fail
  refine (Int_any _ _).mono ?_
  rintro e w7 ⟨rfl, hb⟩
  have HB := chain HB hb
  have ht := cell_later hb ht
  have fa := cell_later hb fa
  have fb := cell_later hb fb
  clear hb
  go_wp2_with fail
  refine (Int_any _ _).mono ?_
  rintro e w8 ⟨rfl, hb⟩
  have HB := chain HB hb
  have ht := cell_later hb ht
  have fa := cell_later hb fa
  have fb := cell_later hb fb
  clear hb
  go_wp2_with fail
  refine (ex3 _).mono ?_
  rintro e w9 ⟨rfl, hb⟩
  have HB := chain HB hb
  have ht := cell_later hb ht
  have fa := cell_later hb fa
  have fb := cell_later hb fb
  clear hb
  have HB := alB (.cells #[(.int .i64 2), (.int .i64 1)] 23) HB
  have ht := alC (.cells #[(.int .i64 2), (.int .i64 1)] 23) ht
  have fa := alC (.cells #[(.int .i64 2), (.int .i64 1)] 23) fa
  have fb := alC (.cells #[(.int .i64 2), (.int .i64 1)] 23) fb
  have fc := new1 w9 (.int .i64 2) (.int .i64 1)
  go_wp2_with fail
  refine (Int_any _ _).mono ?_
  rintro e w10 ⟨rfl, hb⟩
  have HB := chain HB hb
  have ht := cell_later hb ht
  have fa := cell_later hb fa
  have fb := cell_later hb fb
  have fc := cell_later hb fc
  clear hb
  go_wp2_with fail
  refine (Int_any _ _).mono ?_
  rintro e w11 ⟨rfl, hb⟩
  have HB := chain HB hb
  have ht := cell_later hb ht
  have fa := cell_later hb fa
  have fb := cell_later hb fb
  have fc := cell_later hb fc
  clear hb
  go_wp2_with fail
  refine (ex4 _).mono ?_
  rintro e w12 ⟨rfl, hb⟩
  have HB := chain HB hb
  have ht := cell_later hb ht
  have fa := cell_later hb fa
  have fb := cell_later hb fb
  have fc := cell_later hb fc
  clear hb
  have HB := alB (.cells #[(.int .i64 0), (.int .i64 0)] 23) HB
  have ht := alC (.cells #[(.int .i64 0), (.int .i64 0)] 23) ht
  have fa := alC (.cells #[(.int .i64 0), (.int .i64 0)] 23) fa
  have fb := alC (.cells #[(.int .i64 0), (.int .i64 0)] 23) fb
  have fc := alC (.cells #[(.int .i64 0), (.int .i64 0)] 23) fc
  go_wp2_with fail
  refine (ex5 _).mono ?_
  rintro e w13 ⟨rfl, hb⟩
  have HB := chain HB hb
  have ht := cell_later hb ht
  have fa := cell_later hb fa
  have fb := cell_later hb fb
  have fc := cell_later hb fc
  clear hb
  have HB := alB (.cells #[(.int .i64 3), (.int .i64 4609434218613702656)] 23) HB
  have ht := alC (.cells #[(.int .i64 3), (.int .i64 4609434218613702656)] 23) ht
  have fa := alC (.cells #[(.int .i64 3), (.int .i64 4609434218613702656)] 23) fa
  have fb := alC (.cells #[(.int .i64 3), (.int .i64 4609434218613702656)] 23) fb
  have fc := alC (.cells #[(.int .i64 3), (.int .i64 4609434218613702656)] 23) fc
  have fx := new0 w13 (.int .i64 3) (.int .i64 4609434218613702656)
  have fy := new1 w13 (.int .i64 3) (.int .i64 4609434218613702656)
  go_wp2_with fail
  refine (ex6 _).mono ?_
  rintro e w14 ⟨rfl, hb⟩
  have HB := chain HB hb
  have ht := cell_later hb ht
  have fa := cell_later hb fa
  have fb := cell_later hb fb
  have fc := cell_later hb fc
  have fx := cell_later hb fx
  have fy := cell_later hb fy
  clear hb
  have HB := alB (.cells #[(.int .i64 0), (.int .i64 0)] 23) HB
  have ht := alC (.cells #[(.int .i64 0), (.int .i64 0)] 23) ht
  have fa := alC (.cells #[(.int .i64 0), (.int .i64 0)] 23) fa
  have fb := alC (.cells #[(.int .i64 0), (.int .i64 0)] 23) fb
  have fc := alC (.cells #[(.int .i64 0), (.int .i64 0)] 23) fc
  have fx := alC (.cells #[(.int .i64 0), (.int .i64 0)] 23) fx
  have fy := alC (.cells #[(.int .i64 0), (.int .i64 0)] 23) fy
  go_wp2_with fail
  refine (Int_any _ _).mono ?_
  rintro e w15 ⟨rfl, hb⟩
  have HB := chain HB hb
  have ht := cell_later hb ht
  have fa := cell_later hb fa
  have fb := cell_later hb fb
  have fc := cell_later hb fc
  have fx := cell_later hb fx
  have fy := cell_later hb fy
  clear hb
  go_wp2_with fail
  refine (ex7f _).mono ?_
  rintro e w16 ⟨rfl, hb⟩
  have HB := chain HB hb
  have ht := cell_later hb ht
  have fa := cell_later hb fa
  have fb := cell_later hb fb
  have fc := cell_later hb fc
  have fx := cell_later hb fx
  have fy := cell_later hb fy
  clear hb
  go_wp2_with fail
  refine (ex7 _).mono ?_
  rintro e w17 ⟨rfl, hb⟩
  have HB := chain HB hb
  have ht := cell_later hb ht
  have fa := cell_later hb fa
  have fb := cell_later hb fb
  have fc := cell_later hb fc
  have fx := cell_later hb fx
  have fy := cell_later hb fy
  clear hb
  have HB0 := HB
  go_wp2_with fail
  generalize hA : w3.heap.size = A at *
  generalize hB : w6.heap.size = Bb at *
  generalize hC : w9.heap.size = Cc at *
  generalize hX : w13.heap.size = X at *
  clear hA hB hC hX
  go_region_held3 (fun w' => w'.cell? ⟨A, 1, none⟩ = some (.int .i64 (-9223372036854775808)) ∧ w'.cell? ⟨Bb, 1, none⟩ = some (.int .i64 (-4)) ∧ w'.cell? ⟨Cc, 1, none⟩ = some (.int .i64 1) ∧ w'.cell? ⟨X, 0, none⟩ = some (.int .i64 3) ∧ w'.cell? ⟨X, 1, none⟩ = some (.int .i64 4609434218613702656) ∧ w'.cell? ⟨6, 15, none⟩ = some (.int .u8 4)) (go_keep)
    (first
    | (go_at_call 24; refine (no_any _ _).mono ?_; rintro e w' ⟨rfl, rfl⟩)
    | (go_at_call_of 18 (Value.float .f64 4609434218613702656); refine (ex5f _).mono ?_; rintro e wa ⟨rfl, hb⟩; have HB := (by first | exact chain HB hb | exact chain_drew HB hb : Hid (Below w.heap.size w wa)); have ht := cell_later hb (by first | exact ht | assumption); have fa := cell_later hb (by first | exact fa | assumption); have fb := cell_later hb (by first | exact fb | assumption); have fc := cell_later hb (by first | exact fc | assumption); have fx := cell_later hb (by first | exact fx | assumption); have fy := cell_later hb (by first | exact fy | assumption); clear hb)
    | (go_at_call_of 18 (Value.float .f64 4607182418800017408); refine (ex8f _).mono ?_; rintro e wb ⟨rfl, hb⟩; have HB := (by first | exact chain HB hb | exact chain_drew HB hb : Hid (Below w.heap.size w wb)); have ht := cell_later hb (by first | exact ht | assumption); have fa := cell_later hb (by first | exact fa | assumption); have fb := cell_later hb (by first | exact fb | assumption); have fc := cell_later hb (by first | exact fc | assumption); have fx := cell_later hb (by first | exact fx | assumption); have fy := cell_later hb (by first | exact fy | assumption); clear hb)
    | (go_at_call 36; refine (ex8 _ (by first | exact ht | assumption)).mono ?_; rintro e wc ⟨rfl, hb⟩; have HB := (by first | exact chain HB hb | exact chain_drew HB hb : Hid (Below w.heap.size w wc)); have ht := cell_later hb (by first | exact ht | assumption); have fa := cell_later hb (by first | exact fa | assumption); have fb := cell_later hb (by first | exact fb | assumption); have fc := cell_later hb (by first | exact fc | assumption); have fx := cell_later hb (by first | exact fx | assumption); have fy := cell_later hb (by first | exact fy | assumption); clear hb))
  go_wp2
  go_ret
  exact ⟨rfl, HB.out⟩
end Go.Proofs.YtdpdpgnpkmfooaaGreatDoor
