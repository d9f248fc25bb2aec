/- The reader of lines: sizes and steps, the source, the next line. -/
import Derived.Test.YtbhmgmbgplkkeaaDoorP5
namespace Go.Proofs.YtbhmgmbgplkkeaaDoor
open Go.RowKit
set_option linter.unusedSimpArgs false
set_option linter.unusedVariables false

theorem mayBeSize_any (n : Int) (w : World) : Calls Tryd.prog 39 #[.int .i64 n] w fun e w' => e = .returned (.bool (decide (1 ≤ n) && decide (n ≤ 65536))) ∧ w = w' := by
  go_enter Tryd.func39, Tryd.ntmps39
  by_cases h1 : (1 : Int) ≤ n <;> by_cases h2 : n ≤ 65536 <;> simp only [h1, h2, decide_true, decide_false, Bool.and_true, Bool.and_false, Bool.true_and, Bool.false_and] <;> (go_wp2; go_ret; exact ⟨rfl, rfl⟩)
theorem mayBeSteps_any (n : Int) (w : World) : Calls Tryd.prog 40 #[.int .i64 n] w fun e w' => e = .returned (.bool (decide (0 ≤ n) && decide (n ≤ 20000))) ∧ w = w' := by
  go_enter Tryd.func40, Tryd.ntmps40
  by_cases h1 : (0 : Int) ≤ n <;> by_cases h2 : n ≤ 20000 <;> simp only [h1, h2, decide_true, decide_false, Bool.and_true, Bool.and_false, Bool.true_and, Bool.false_and] <;> (go_wp2; go_ret; exact ⟨rfl, rfl⟩)

/-- A bound method. -/
abbrev mth (f c : Nat) : Value := .func (.func f) #[PT c] #[]
/-- A reader in memory. -/
def RB (w : World) (c : Nat) (s : ByteArray) (z n : Int) (pv : Value) (src : ByteArray) (nv : Value) : Prop := w.heap[c]? = some (.cells #[.string s, .int .i64 z, .int .i64 n, pv, .string src, nv] 53 (0, 0))

set_option maxRecDepth 20000 in
set_option maxHeartbeats 2000000 in
theorem size_none {w : World} {c : Nat} {s src : ByteArray} {z n : Int} {pv nv : Value} (hb : RB w c s z n pv src nv) (line : List UInt8) (hl : line.length ≤ 90000) (h : afterF szW line = none) :
    Calls Tryd.prog 36 #[PT c, .string (mk line)] w fun e w' => e = .returned (.int .i64 6) ∧ Kept No w w' := by
  have HBh : Hid (∀ X, Calls Tryd.prog 46 #[.string ⟨#[115, 105, 122, 101]⟩, .string (mk line)] X fun e w' => e = .returned (.tuple #[.int .i64 (optI (afterF szW line)), .bool (afterF szW line).isSome]) ∧ Kept No X w') := fun X => by
    have := behind_any ⟨#[115, 105, 122, 101]⟩ (mk line) (by rw [mk_size]; omega) (by decide) X
    rw [show bl (⟨#[115, 105, 122, 101]⟩ : ByteArray) = szW from rfl, bl_mk] at this
    exact this
  rw [h] at HBh
  have HBh : Hid (∀ X, Calls Tryd.prog 46 #[.string ⟨#[115, 105, 122, 101]⟩, .string (mk line)] X fun e w' => e = .returned (.tuple #[.int .i64 0, .bool false]) ∧ Kept No X w') := HBh.out
  clear h hb
  go_enter Tryd.func36, Tryd.ntmps36
  go_wp2_with fail
  refine Calls.mono (HBh.out _) ?_
  rintro e w1 ⟨rfl, hk1⟩
  have HK1 : Hid (Kept No w w1) := hk1
  clear hk1
  go_wp2
  go_ret
  exact ⟨rfl, HK1.out⟩

set_option maxRecDepth 20000 in
set_option maxHeartbeats 2000000 in
theorem size_bad {w : World} {c : Nat} {s src : ByteArray} {z n : Int} {pv nv : Value} (hb : RB w c s z n pv src nv) (line : List UInt8) (hl : line.length ≤ 90000) (k : Nat) (h : afterF szW line = some k) (hk : (decide ((1 : Int) ≤ (k : Int)) && decide ((k : Int) ≤ 65536)) = false) :
    Calls Tryd.prog 36 #[PT c, .string (mk line)] w fun e w' => e = .returned (.int .i64 7) ∧ Kept No w w' := by
  have HBh : Hid (∀ X, Calls Tryd.prog 46 #[.string ⟨#[115, 105, 122, 101]⟩, .string (mk line)] X fun e w' => e = .returned (.tuple #[.int .i64 (optI (afterF szW line)), .bool (afterF szW line).isSome]) ∧ Kept No X w') := fun X => by
    have := behind_any ⟨#[115, 105, 122, 101]⟩ (mk line) (by rw [mk_size]; omega) (by decide) X
    rw [show bl (⟨#[115, 105, 122, 101]⟩ : ByteArray) = szW from rfl, bl_mk] at this
    exact this
  rw [h] at HBh
  have HBh : Hid (∀ X, Calls Tryd.prog 46 #[.string ⟨#[115, 105, 122, 101]⟩, .string (mk line)] X fun e w' => e = .returned (.tuple #[.int .i64 (k : Int), .bool true]) ∧ Kept No X w') := HBh.out
  have HM : Hid (∀ X, Calls Tryd.prog 39 #[.int .i64 (k : Int)] X fun e w' => e = .returned (.bool false) ∧ X = w') := fun X => by
    have := mayBeSize_any (k : Int) X
    rwa [hk] at this
  clear h hk
  go_enter Tryd.func36, Tryd.ntmps36
  go_wp2_with fail
  refine Calls.mono (HBh.out _) ?_
  rintro e w1 ⟨rfl, hk1⟩
  have HK1 : Hid (Kept No w w1) := hk1
  clear hk1 hb
  go_wp2_with (go_at_call 39; refine Calls.mono (HM.out _) ?_; rintro e w' ⟨rfl, rfl⟩)
  go_ret
  exact ⟨rfl, HK1.out⟩

set_option maxRecDepth 20000 in
set_option maxHeartbeats 2000000 in
theorem size_ok {w : World} {c : Nat} {s src : ByteArray} {z n : Int} {pv nv : Value} (hb : RB w c s z n pv src nv) (line : List UInt8) (hl : line.length ≤ 90000) (k : Nat) (h : afterF szW line = some k) (hk : (decide ((1 : Int) ≤ (k : Int)) && decide ((k : Int) ≤ 65536)) = true) :
    Calls Tryd.prog 36 #[PT c, .string (mk line)] w fun e w' => e = .returned (.int .i64 0) ∧ RB w' c s k n pv src (mth 47 c) ∧ Kept (fun q => q = c) w w' := by
  have HBh : Hid (∀ X, Calls Tryd.prog 46 #[.string ⟨#[115, 105, 122, 101]⟩, .string (mk line)] X fun e w' => e = .returned (.tuple #[.int .i64 (optI (afterF szW line)), .bool (afterF szW line).isSome]) ∧ Kept No X w') := fun X => by
    have := behind_any ⟨#[115, 105, 122, 101]⟩ (mk line) (by rw [mk_size]; omega) (by decide) X
    rw [show bl (⟨#[115, 105, 122, 101]⟩ : ByteArray) = szW from rfl, bl_mk] at this
    exact this
  rw [h] at HBh
  have HBh : Hid (∀ X, Calls Tryd.prog 46 #[.string ⟨#[115, 105, 122, 101]⟩, .string (mk line)] X fun e w' => e = .returned (.tuple #[.int .i64 (k : Int), .bool true]) ∧ Kept No X w') := HBh.out
  have HM : Hid (∀ X, Calls Tryd.prog 39 #[.int .i64 (k : Int)] X fun e w' => e = .returned (.bool true) ∧ X = w') := fun X => by
    have := mayBeSize_any (k : Int) X
    rwa [hk] at this
  clear h hk
  go_enter Tryd.func36, Tryd.ntmps36
  go_wp2_with fail
  refine Calls.mono (HBh.out _) ?_
  rintro e w1 ⟨rfl, hk1⟩
  have HK1 : Hid (Kept No w w1) := hk1
  have HB1 : Hid (RB w1 c s z n pv src nv) := hk1.heap hb id
  clear hk1 hb
  have c0 : w1.cell? ⟨c, 0, none⟩ = some (.string s) := by rw [cell_of HB1.out]; rfl
  have c1 : w1.cell? ⟨c, 1, none⟩ = some (.int .i64 z) := by rw [cell_of HB1.out]; rfl
  have c2 : w1.cell? ⟨c, 2, none⟩ = some (.int .i64 n) := by rw [cell_of HB1.out]; rfl
  have c3 : w1.cell? ⟨c, 3, none⟩ = some pv := by rw [cell_of HB1.out]; rfl
  have c4 : w1.cell? ⟨c, 4, none⟩ = some (.string src) := by rw [cell_of HB1.out]; rfl
  have c5 : w1.cell? ⟨c, 5, none⟩ = some nv := by rw [cell_of HB1.out]; rfl
  have cf : ∀ o, w1.frozen? ⟨c, o, none⟩ = false := fun o => frozen_of HB1.out o
  go_wp2_with (go_at_call 39; refine Calls.mono (HM.out _) ?_; rintro e w' ⟨rfl, rfl⟩)
  go_ret
  refine ⟨rfl, ?_, ?_⟩
  · have e1 := hp_set_same HB1.out 1 (.int .i64 (k : Int))
    have e2 := hp_set_same e1 5 (mth 47 c)
    exact e2
  · exact ((HK1.out.mono (T := fun q => q = c) (fun _ e => e.elim)).set c _ _ (.inl rfl)).set c _ _ (.inl rfl)

set_option maxRecDepth 20000 in
set_option maxHeartbeats 2000000 in
theorem steps_none {w : World} {c : Nat} {s src : ByteArray} {z n : Int} {pv nv : Value} (hb : RB w c s z n pv src nv) (line : List UInt8) (hl : line.length ≤ 90000) (h : afterF stW line = none) :
    Calls Tryd.prog 47 #[PT c, .string (mk line)] w fun e w' => e = .returned (.int .i64 6) ∧ Kept No w w' := by
  have HBh : Hid (∀ X, Calls Tryd.prog 46 #[.string ⟨#[115, 116, 101, 112, 115]⟩, .string (mk line)] X fun e w' => e = .returned (.tuple #[.int .i64 (optI (afterF stW line)), .bool (afterF stW line).isSome]) ∧ Kept No X w') := fun X => by
    have := behind_any ⟨#[115, 116, 101, 112, 115]⟩ (mk line) (by rw [mk_size]; omega) (by decide) X
    rw [show bl (⟨#[115, 116, 101, 112, 115]⟩ : ByteArray) = stW from rfl, bl_mk] at this
    exact this
  rw [h] at HBh
  have HBh : Hid (∀ X, Calls Tryd.prog 46 #[.string ⟨#[115, 116, 101, 112, 115]⟩, .string (mk line)] X fun e w' => e = .returned (.tuple #[.int .i64 0, .bool false]) ∧ Kept No X w') := HBh.out
  clear h hb
  go_enter Tryd.func47, Tryd.ntmps47
  go_wp2_with fail
  refine Calls.mono (HBh.out _) ?_
  rintro e w1 ⟨rfl, hk1⟩
  have HK1 : Hid (Kept No w w1) := hk1
  clear hk1
  go_wp2
  go_ret
  exact ⟨rfl, HK1.out⟩

set_option maxRecDepth 20000 in
set_option maxHeartbeats 2000000 in
theorem steps_bad {w : World} {c : Nat} {s src : ByteArray} {z n : Int} {pv nv : Value} (hb : RB w c s z n pv src nv) (line : List UInt8) (hl : line.length ≤ 90000) (k : Nat) (h : afterF stW line = some k) (hk : (decide ((0 : Int) ≤ (k : Int)) && decide ((k : Int) ≤ 20000)) = false) :
    Calls Tryd.prog 47 #[PT c, .string (mk line)] w fun e w' => e = .returned (.int .i64 7) ∧ Kept No w w' := by
  have HBh : Hid (∀ X, Calls Tryd.prog 46 #[.string ⟨#[115, 116, 101, 112, 115]⟩, .string (mk line)] X fun e w' => e = .returned (.tuple #[.int .i64 (optI (afterF stW line)), .bool (afterF stW line).isSome]) ∧ Kept No X w') := fun X => by
    have := behind_any ⟨#[115, 116, 101, 112, 115]⟩ (mk line) (by rw [mk_size]; omega) (by decide) X
    rw [show bl (⟨#[115, 116, 101, 112, 115]⟩ : ByteArray) = stW from rfl, bl_mk] at this
    exact this
  rw [h] at HBh
  have HBh : Hid (∀ X, Calls Tryd.prog 46 #[.string ⟨#[115, 116, 101, 112, 115]⟩, .string (mk line)] X fun e w' => e = .returned (.tuple #[.int .i64 (k : Int), .bool true]) ∧ Kept No X w') := HBh.out
  have HM : Hid (∀ X, Calls Tryd.prog 40 #[.int .i64 (k : Int)] X fun e w' => e = .returned (.bool false) ∧ X = w') := fun X => by
    have := mayBeSteps_any (k : Int) X
    rwa [hk] at this
  clear h hk
  go_enter Tryd.func47, Tryd.ntmps47
  go_wp2_with fail
  refine Calls.mono (HBh.out _) ?_
  rintro e w1 ⟨rfl, hk1⟩
  have HK1 : Hid (Kept No w w1) := hk1
  clear hk1 hb
  go_wp2_with (go_at_call 40; refine Calls.mono (HM.out _) ?_; rintro e w' ⟨rfl, rfl⟩)
  go_ret
  exact ⟨rfl, HK1.out⟩

set_option maxRecDepth 20000 in
set_option maxHeartbeats 2000000 in
theorem steps_ok {w : World} {c : Nat} {s src : ByteArray} {z n : Int} {pv nv : Value} (hb : RB w c s z n pv src nv) (line : List UInt8) (hl : line.length ≤ 90000) (k : Nat) (h : afterF stW line = some k) (hk : (decide ((0 : Int) ≤ (k : Int)) && decide ((k : Int) ≤ 20000)) = true) :
    Calls Tryd.prog 47 #[PT c, .string (mk line)] w fun e w' => e = .returned (.int .i64 0) ∧ RB w' c s z k pv src (mth 53 c) ∧ Kept (fun q => q = c) w w' := by
  have HBh : Hid (∀ X, Calls Tryd.prog 46 #[.string ⟨#[115, 116, 101, 112, 115]⟩, .string (mk line)] X fun e w' => e = .returned (.tuple #[.int .i64 (optI (afterF stW line)), .bool (afterF stW line).isSome]) ∧ Kept No X w') := fun X => by
    have := behind_any ⟨#[115, 116, 101, 112, 115]⟩ (mk line) (by rw [mk_size]; omega) (by decide) X
    rw [show bl (⟨#[115, 116, 101, 112, 115]⟩ : ByteArray) = stW from rfl, bl_mk] at this
    exact this
  rw [h] at HBh
  have HBh : Hid (∀ X, Calls Tryd.prog 46 #[.string ⟨#[115, 116, 101, 112, 115]⟩, .string (mk line)] X fun e w' => e = .returned (.tuple #[.int .i64 (k : Int), .bool true]) ∧ Kept No X w') := HBh.out
  have HM : Hid (∀ X, Calls Tryd.prog 40 #[.int .i64 (k : Int)] X fun e w' => e = .returned (.bool true) ∧ X = w') := fun X => by
    have := mayBeSteps_any (k : Int) X
    rwa [hk] at this
  clear h hk
  go_enter Tryd.func47, Tryd.ntmps47
  go_wp2_with fail
  refine Calls.mono (HBh.out _) ?_
  rintro e w1 ⟨rfl, hk1⟩
  have HK1 : Hid (Kept No w w1) := hk1
  have HB1 : Hid (RB w1 c s z n pv src nv) := hk1.heap hb id
  clear hk1 hb
  have c0 : w1.cell? ⟨c, 0, none⟩ = some (.string s) := by rw [cell_of HB1.out]; rfl
  have c1 : w1.cell? ⟨c, 1, none⟩ = some (.int .i64 z) := by rw [cell_of HB1.out]; rfl
  have c2 : w1.cell? ⟨c, 2, none⟩ = some (.int .i64 n) := by rw [cell_of HB1.out]; rfl
  have c3 : w1.cell? ⟨c, 3, none⟩ = some pv := by rw [cell_of HB1.out]; rfl
  have c4 : w1.cell? ⟨c, 4, none⟩ = some (.string src) := by rw [cell_of HB1.out]; rfl
  have c5 : w1.cell? ⟨c, 5, none⟩ = some nv := by rw [cell_of HB1.out]; rfl
  have cf : ∀ o, w1.frozen? ⟨c, o, none⟩ = false := fun o => frozen_of HB1.out o
  go_wp2_with (go_at_call 40; refine Calls.mono (HM.out _) ?_; rintro e w' ⟨rfl, rfl⟩)
  go_ret
  refine ⟨rfl, ?_, ?_⟩
  · have e1 := hp_set_same HB1.out 2 (.int .i64 (k : Int))
    have e2 := hp_set_same e1 5 (mth 53 c)
    exact e2
  · exact ((HK1.out.mono (T := fun q => q = c) (fun _ e => e.elim)).set c _ _ (.inl rfl)).set c _ _ (.inl rfl)

set_option maxRecDepth 20000 in
set_option maxHeartbeats 2000000 in
theorem newReader_any (s : ByteArray) (w : World) :
    Calls Tryd.prog 20 #[.string s] w fun e w' => e = .returned (PT w.heap.size) ∧ RB w' w.heap.size s 0 0 (.slice none 0 0) ⟨#[]⟩ (mth 36 w.heap.size) ∧ Kept No w w' := by
  go_enter Tryd.func20, Tryd.ntmps20
  go_wp2
  go_ret
  refine ⟨rfl, ?_, ?_⟩
  · show _ = _
    exact World.alloc_heap_new w _
  · exact (Kept.refl _ _).alloc _

theorem nil_eq (w : World) : (binOp .eql 51 .nilFunc .nilFunc).run Tryd.prog w = .ok (.bool true) w := by kernel_rfl
theorem mth_eq (f c : Nat) (w : World) : (binOp .eql 51 (mth f c) .nilFunc).run Tryd.prog w = .ok (.bool false) w := by kernel_rfl
set_option maxRecDepth 20000 in
theorem over_any {w : World} {c : Nat} {s src : ByteArray} {z n : Int} {pv nv : Value} (hb : RB w c s z n pv src nv) (b : Bool) (hv : (b = true ∧ nv = .nilFunc) ∨ (b = false ∧ ∃ f : Nat, nv = mth f c)) :
    Calls Tryd.prog 21 #[PT c] w fun e w' => e = .returned (.bool b) ∧ w = w' := by
  have c5 : w.cell? ⟨c, 5, none⟩ = some nv := by rw [cell_of hb]; rfl
  clear hb
  rcases hv with ⟨rfl, rfl⟩ | ⟨rfl, f, rfl⟩
  · have hq := nil_eq
    go_enter Tryd.func21, Tryd.ntmps21
    go_wp2
    go_ret
    exact ⟨rfl, rfl⟩
  · have hq := mth_eq f c
    go_enter Tryd.func21, Tryd.ntmps21
    go_wp2
    go_ret
    exact ⟨rfl, rfl⟩

theorem Clone_any (s : ByteArray) (hs : s.size ≤ 1000000) (w : World) : Calls Tryd.prog 72 #[.string s] w fun e w' => e = .returned (.string s) ∧ Kept No w w' := by
  go_enter Tryd.func72, Tryd.ntmps72
  go_wp2_with fail
  refine Calls.mono (Tryd.stringslite_Clone s w (by omega)) ?_
  rintro e w1 ⟨rfl, hk1⟩
  have HK : Hid (Kept No w w1) := Kept.of_below hk1
  clear hk1
  go_wp2
  go_ret
  exact ⟨rfl, HK.out⟩

set_option maxRecDepth 20000 in
set_option maxHeartbeats 2000000 in
theorem source_long {w : World} {c : Nat} {s src : ByteArray} {z n : Int} {pv nv : Value} (hb : RB w c s z n pv src nv) (hs : 8192 < s.size) :
    Calls Tryd.prog 60 #[PT c] w fun e w' => e = .returned (.int .i64 3) ∧ w = w' := by
  have i1 : (8192 : Int) < (s.size : Int) := by omega
  have c0 : w.cell? ⟨c, 0, none⟩ = some (.string s) := by rw [cell_of hb]; rfl
  have c1 : w.cell? ⟨c, 1, none⟩ = some (.int .i64 z) := by rw [cell_of hb]; rfl
  have c2 : w.cell? ⟨c, 2, none⟩ = some (.int .i64 n) := by rw [cell_of hb]; rfl
  have c3 : w.cell? ⟨c, 3, none⟩ = some pv := by rw [cell_of hb]; rfl
  have c4 : w.cell? ⟨c, 4, none⟩ = some (.string src) := by rw [cell_of hb]; rfl
  have c5 : w.cell? ⟨c, 5, none⟩ = some nv := by rw [cell_of hb]; rfl
  have cf : ∀ o, w.frozen? ⟨c, o, none⟩ = false := fun o => frozen_of hb o
  go_enter Tryd.func60, Tryd.ntmps60
  go_wp2
  go_ret
  exact ⟨rfl, rfl⟩
set_option maxRecDepth 20000 in
set_option maxHeartbeats 2000000 in
theorem source_ok {w : World} {c : Nat} {s src : ByteArray} {z n : Int} {pv nv : Value} (hb : RB w c s z n pv src nv) (hs : s.size ≤ 8192) :
    Calls Tryd.prog 60 #[PT c] w fun e w' => e = .returned (.int .i64 0) ∧ RB w' c s z n pv s .nilFunc ∧ Kept (fun q => q = c) w w' := by
  have i1 : ¬ (8192 : Int) < (s.size : Int) := by omega
  have HB : Hid (RB w c s z n pv src nv) := hb
  have c0 : w.cell? ⟨c, 0, none⟩ = some (.string s) := by rw [cell_of hb]; rfl
  have c1 : w.cell? ⟨c, 1, none⟩ = some (.int .i64 z) := by rw [cell_of hb]; rfl
  have c2 : w.cell? ⟨c, 2, none⟩ = some (.int .i64 n) := by rw [cell_of hb]; rfl
  have c3 : w.cell? ⟨c, 3, none⟩ = some pv := by rw [cell_of hb]; rfl
  have c4 : w.cell? ⟨c, 4, none⟩ = some (.string src) := by rw [cell_of hb]; rfl
  have c5 : w.cell? ⟨c, 5, none⟩ = some nv := by rw [cell_of hb]; rfl
  have cf : ∀ o, w.frozen? ⟨c, o, none⟩ = false := fun o => frozen_of hb o
  clear hb
  go_enter Tryd.func60, Tryd.ntmps60
  go_wp2_with fail
  refine Calls.mono (Clone_any s (by omega) w) ?_
  rintro e w1 ⟨rfl, hk1⟩
  have HK1 : Hid (Kept No w w1) := hk1
  have HB1 : Hid (RB w1 c s z n pv src nv) := hk1.heap HB.out id
  clear hk1 c0 c1 c2 c3 c4 c5 cf
  have c0 : w1.cell? ⟨c, 0, none⟩ = some (.string s) := by rw [cell_of HB1.out]; rfl
  have c1 : w1.cell? ⟨c, 1, none⟩ = some (.int .i64 z) := by rw [cell_of HB1.out]; rfl
  have c2 : w1.cell? ⟨c, 2, none⟩ = some (.int .i64 n) := by rw [cell_of HB1.out]; rfl
  have c3 : w1.cell? ⟨c, 3, none⟩ = some pv := by rw [cell_of HB1.out]; rfl
  have c4 : w1.cell? ⟨c, 4, none⟩ = some (.string src) := by rw [cell_of HB1.out]; rfl
  have c5 : w1.cell? ⟨c, 5, none⟩ = some nv := by rw [cell_of HB1.out]; rfl
  have cf : ∀ o, w1.frozen? ⟨c, o, none⟩ = false := fun o => frozen_of HB1.out o
  go_wp2
  go_ret
  refine ⟨rfl, ?_, ?_⟩
  · have e1 := hp_set_same HB1.out 4 (.string s)
    have e2 := hp_set_same e1 5 .nilFunc
    exact e2
  · exact ((HK1.out.mono (T := fun q => q = c) (fun _ e => e.elim)).set c _ _ (.inl rfl)).set c _ _ (.inl rfl)
end Go.Proofs.YtbhmgmbgplkkeaaDoor
