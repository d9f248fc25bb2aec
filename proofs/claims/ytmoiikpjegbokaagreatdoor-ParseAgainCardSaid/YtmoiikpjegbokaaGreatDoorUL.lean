import Derived.Test.YtmoiikpjegbokaaGreatDoorGQ
set_option linter.unusedSimpArgs false
set_option linter.unusedVariables false
set_option maxRecDepth 20000
set_option maxHeartbeats 4000000
/- The printer: which parts there are. -/
namespace Go.Proofs.YtmoiikpjegbokaaGreatDoor
open List renaming length_cons → llc
open List renaming length_nil → lln
open World renaming alloc_heap_new → ahn
open Calls renaming mono → cmo
open Kept renaming refl → krf
open NodeIs renaming cs → nds
open Go.RowKit
variable {nt : Int → Int → ByteArray} {qt : ByteArray → ByteArray} {P : Int → Int → Prop}
theorem hp_1 (t : ByteArray) (vt vn n : Int) (xl : List Tr) (xa : Int) : HasP (.mk 1 t vt vn n xl xa) := by
  intro S w cs hX;obtain ⟨sv, rfl, hl⟩ := nds.1 hX;obtain ⟨ao, ln, cp, rfl⟩ := slice_of hl;clear hX hl;unfold ncs;go_enter Tryz.func39, Tryz.ntmps39
  go_wp2_with fail
  go_ret
  exact ⟨rfl, (krf No w).alloc _⟩
theorem hp_2 (t : ByteArray) (vt vn n : Int) (xl : List Tr) (xa : Int) : HasP (.mk 2 t vt vn n xl xa) := by
  intro S w cs hX;obtain ⟨sv, rfl, hl⟩ := nds.1 hX;obtain ⟨ao, ln, cp, rfl⟩ := slice_of hl;clear hX hl;unfold ncs;go_enter Tryz.func39, Tryz.ntmps39
  go_wp2_with fail
  go_ret
  exact ⟨rfl, (krf No w).alloc _⟩
theorem hp_3 (t : ByteArray) (vt vn n : Int) (xl : List Tr) (xa : Int) : HasP (.mk 3 t vt vn n xl xa) := by
  intro S w cs hX;obtain ⟨sv, rfl, hl⟩ := nds.1 hX;obtain ⟨ao, ln, cp, rfl⟩ := slice_of hl;clear hX hl;unfold ncs;go_enter Tryz.func39, Tryz.ntmps39
  go_wp2_with fail
  go_ret
  exact ⟨rfl, (krf No w).alloc _⟩
theorem hp_5 (t : ByteArray) (vt vn n : Int) (xl : List Tr) (xa : Int) : HasP (.mk 5 t vt vn n xl xa) := by
  intro S w cs hX;obtain ⟨sv, rfl, hl⟩ := nds.1 hX;obtain ⟨ao, ln, cp, rfl⟩ := slice_of hl;clear hX hl;unfold ncs;go_enter Tryz.func39, Tryz.ntmps39
  go_wp2_with fail
  go_ret
  exact ⟨rfl, (krf No w).alloc _⟩
theorem hp_12 (t : ByteArray) (vt vn n : Int) (xl : List Tr) (xa : Int) : HasP (.mk 12 t vt vn n xl xa) := by
  intro S w cs hX;obtain ⟨sv, rfl, hl⟩ := nds.1 hX;obtain ⟨ao, ln, cp, rfl⟩ := slice_of hl;clear hX hl;unfold ncs;go_enter Tryz.func39, Tryz.ntmps39
  go_wp2_with fail
  go_ret
  exact ⟨rfl, (krf No w).alloc _⟩
theorem hp_27 (t : ByteArray) (vt vn n : Int) (xl : List Tr) (xa : Int) : HasP (.mk 27 t vt vn n xl xa) := by
  intro S w cs hX;obtain ⟨sv, rfl, hl⟩ := nds.1 hX;obtain ⟨ao, ln, cp, rfl⟩ := slice_of hl;clear hX hl;unfold ncs;go_enter Tryz.func39, Tryz.ntmps39
  go_wp2_with fail
  go_ret
  exact ⟨rfl, (krf No w).alloc _⟩
theorem hp_28 (t : ByteArray) (vt vn n : Int) (xl : List Tr) (xa : Int) : HasP (.mk 28 t vt vn n xl xa) := by
  intro S w cs hX;obtain ⟨sv, rfl, hl⟩ := nds.1 hX;obtain ⟨ao, ln, cp, rfl⟩ := slice_of hl;clear hX hl;unfold ncs;go_enter Tryz.func39, Tryz.ntmps39
  go_wp2_with fail
  go_ret
  exact ⟨rfl, (krf No w).alloc _⟩
theorem hp_9 (t : ByteArray) (vt vn n : Int) (x : Tr)  (xa : Int) : HasP (.mk 9 t vt vn n [x] xa) := by
  intro S w cs hX;obtain ⟨sv, rfl, hl⟩ := nds.1 hX;obtain ⟨W0, HW0⟩ := nm (w.alloc (nb (ncs 9 t vt vn n sv xa)));have hk0 : Kept No w W0 := by rw [← HW0.out]; exact (krf No w).alloc _
  have hb0 : W0.heap[w.heap.size]? = some (nb (ncs 9 t vt vn n sv xa)) := by rw [← HW0.out]; exact ahn w _
  obtain ⟨W1, HW1⟩ := nm (W0.alloc (.cells #[.int .i64 0] 3));have hk1 : Kept No W0 W1 := by rw [← HW1.out]; exact (krf No W0).alloc _
  have hK : KRow W1 W0.heap.size [0] := by unfold KRow; rw [← HW1.out]; exact ahn W0 _
  rcases hl with ⟨e, _⟩ | ⟨b, o, cp, rfl, hb, hbl, hr⟩
  · simp at e
  have HA : Hid (Calls Tryz.prog 82 #[.slice (some ⟨b, o, none⟩) 1 cp, .slice (some ⟨W0.heap.size, 0, none⟩) 1 1] W1 fun r w' => r = .returned (.bool true) ∧ Kept No W1 w') := are_true (ks := [0]) (l := [x]) hb (RowAt.kept (hk0.trans hk1).no b o hb _ 0 hr) hK (by decide) rfl (fun j h1 h2 => by
    have : j = 0 := by simp at h1; omega
    subst this;exact .inl rfl)
  have HK : Hid (Kept No w W1) := hk0.trans hk1;have s0 : W0.heap.size = w.heap.size + 1 := by rw [← HW0.out]; simp
  rw [s0] at HA;unfold nb ncs at HW0;simp only [llc, lln, Nat.zero_add, Nat.reduceAdd] at HW0;clear hX hk0 hk1 hb0 hK hb hbl hr s0;unfold ncs;go_enter Tryz.func39, Tryz.ntmps39
  go_wp2_with fail
  rw [HW0.out, HW1.out];refine cmo HA.out ?_;rintro r W2 ⟨rfl, hk2⟩;have HK2 : Hid _ := HK.out.trans hk2;clear hk2 HA HK HW0 HW1;go_wp2_with fail
  go_ret
  exact ⟨rfl, HK2.out⟩
theorem hp_10 (t : ByteArray) (vt vn n : Int) (x y : Tr)  (xa : Int) : HasP (.mk 10 t vt vn n [x, y] xa) := by
  intro S w cs hX;obtain ⟨sv, rfl, hl⟩ := nds.1 hX;obtain ⟨W0, HW0⟩ := nm (w.alloc (nb (ncs 10 t vt vn n sv xa)));have hk0 : Kept No w W0 := by rw [← HW0.out]; exact (krf No w).alloc _
  have hb0 : W0.heap[w.heap.size]? = some (nb (ncs 10 t vt vn n sv xa)) := by rw [← HW0.out]; exact ahn w _
  obtain ⟨W1, HW1⟩ := nm (W0.alloc (.cells #[.int .i64 0, .int .i64 0] 3));have hk1 : Kept No W0 W1 := by rw [← HW1.out]; exact (krf No W0).alloc _
  have hK : KRow W1 W0.heap.size [0, 0] := by unfold KRow; rw [← HW1.out]; exact ahn W0 _
  rcases hl with ⟨e, _⟩ | ⟨b, o, cp, rfl, hb, hbl, hr⟩
  · simp at e
  have HA : Hid (Calls Tryz.prog 82 #[.slice (some ⟨b, o, none⟩) 2 cp, .slice (some ⟨W0.heap.size, 0, none⟩) 2 2] W1 fun r w' => r = .returned (.bool true) ∧ Kept No W1 w') := are_true (ks := [0, 0]) (l := [x, y]) hb (RowAt.kept (hk0.trans hk1).no b o hb _ 0 hr) hK (by decide) rfl (fun j h1 h2 => by
    have : j = 0 ∨ j = 1 := by simp at h1; omega
    rcases this with rfl | rfl
    · exact .inl rfl
    · exact .inl rfl)
  have HK : Hid (Kept No w W1) := hk0.trans hk1;have s0 : W0.heap.size = w.heap.size + 1 := by rw [← HW0.out]; simp
  rw [s0] at HA;unfold nb ncs at HW0;simp only [llc, lln, Nat.zero_add, Nat.reduceAdd] at HW0;clear hX hk0 hk1 hb0 hK hb hbl hr s0;unfold ncs;go_enter Tryz.func39, Tryz.ntmps39
  go_wp2_with fail
  rw [HW0.out, HW1.out];refine cmo HA.out ?_;rintro r W2 ⟨rfl, hk2⟩;have HK2 : Hid _ := HK.out.trans hk2;clear hk2 HA HK HW0 HW1;go_wp2_with fail
  go_ret
  exact ⟨rfl, HK2.out⟩
theorem hp_14 (t : ByteArray) (vt vn n : Int) (x y : Tr)  (xa : Int) : HasP (.mk 14 t vt vn n [x, y] xa) := by
  intro S w cs hX;obtain ⟨sv, rfl, hl⟩ := nds.1 hX;obtain ⟨W0, HW0⟩ := nm (w.alloc (nb (ncs 14 t vt vn n sv xa)));have hk0 : Kept No w W0 := by rw [← HW0.out]; exact (krf No w).alloc _
  have hb0 : W0.heap[w.heap.size]? = some (nb (ncs 14 t vt vn n sv xa)) := by rw [← HW0.out]; exact ahn w _
  obtain ⟨W1, HW1⟩ := nm (W0.alloc (.cells #[.int .i64 0, .int .i64 0] 3));have hk1 : Kept No W0 W1 := by rw [← HW1.out]; exact (krf No W0).alloc _
  have hK : KRow W1 W0.heap.size [0, 0] := by unfold KRow; rw [← HW1.out]; exact ahn W0 _
  rcases hl with ⟨e, _⟩ | ⟨b, o, cp, rfl, hb, hbl, hr⟩
  · simp at e
  have HA : Hid (Calls Tryz.prog 82 #[.slice (some ⟨b, o, none⟩) 2 cp, .slice (some ⟨W0.heap.size, 0, none⟩) 2 2] W1 fun r w' => r = .returned (.bool true) ∧ Kept No W1 w') := are_true (ks := [0, 0]) (l := [x, y]) hb (RowAt.kept (hk0.trans hk1).no b o hb _ 0 hr) hK (by decide) rfl (fun j h1 h2 => by
    have : j = 0 ∨ j = 1 := by simp at h1; omega
    rcases this with rfl | rfl
    · exact .inl rfl
    · exact .inl rfl)
  have HK : Hid (Kept No w W1) := hk0.trans hk1;have s0 : W0.heap.size = w.heap.size + 1 := by rw [← HW0.out]; simp
  rw [s0] at HA;unfold nb ncs at HW0;simp only [llc, lln, Nat.zero_add, Nat.reduceAdd] at HW0;clear hX hk0 hk1 hb0 hK hb hbl hr s0;unfold ncs;go_enter Tryz.func39, Tryz.ntmps39
  go_wp2_with fail
  rw [HW0.out, HW1.out];refine cmo HA.out ?_;rintro r W2 ⟨rfl, hk2⟩;have HK2 : Hid _ := HK.out.trans hk2;clear hk2 HA HK HW0 HW1;go_wp2_with fail
  go_ret
  exact ⟨rfl, HK2.out⟩
theorem hp_13 (t : ByteArray) (vt vn n : Int) (x : Tr)  (xa : Int) : HasP (.mk 13 t vt vn n [x] xa) := by
  intro S w cs hX;obtain ⟨sv, rfl, hl⟩ := nds.1 hX;obtain ⟨W0, HW0⟩ := nm (w.alloc (nb (ncs 13 t vt vn n sv xa)));have hk0 : Kept No w W0 := by rw [← HW0.out]; exact (krf No w).alloc _
  have hb0 : W0.heap[w.heap.size]? = some (nb (ncs 13 t vt vn n sv xa)) := by rw [← HW0.out]; exact ahn w _
  obtain ⟨W1, HW1⟩ := nm (W0.alloc (.cells #[.int .i64 0] 3));have hk1 : Kept No W0 W1 := by rw [← HW1.out]; exact (krf No W0).alloc _
  have hK : KRow W1 W0.heap.size [0] := by unfold KRow; rw [← HW1.out]; exact ahn W0 _
  rcases hl with ⟨e, _⟩ | ⟨b, o, cp, rfl, hb, hbl, hr⟩
  · simp at e
  have HA : Hid (Calls Tryz.prog 82 #[.slice (some ⟨b, o, none⟩) 1 cp, .slice (some ⟨W0.heap.size, 0, none⟩) 1 1] W1 fun r w' => r = .returned (.bool true) ∧ Kept No W1 w') := are_true (ks := [0]) (l := [x]) hb (RowAt.kept (hk0.trans hk1).no b o hb _ 0 hr) hK (by decide) rfl (fun j h1 h2 => by
    have : j = 0 := by simp at h1; omega
    subst this;exact .inl rfl)
  have HK : Hid (Kept No w W1) := hk0.trans hk1;have s0 : W0.heap.size = w.heap.size + 1 := by rw [← HW0.out]; simp
  rw [s0] at HA;unfold nb ncs at HW0;simp only [llc, lln, Nat.zero_add, Nat.reduceAdd] at HW0;clear hX hk0 hk1 hb0 hK hb hbl hr s0;unfold ncs;go_enter Tryz.func39, Tryz.ntmps39
  go_wp2_with fail
  rw [HW0.out, HW1.out];refine cmo HA.out ?_;rintro r W2 ⟨rfl, hk2⟩;have HK2 : Hid _ := HK.out.trans hk2;clear hk2 HA HK HW0 HW1;go_wp2_with fail
  go_ret
  exact ⟨rfl, HK2.out⟩
theorem hp_23 (t : ByteArray) (vt vn n : Int) (x : Tr) (kx : x.k = 11) (xa : Int) : HasP (.mk 23 t vt vn n [x] xa) := by
  intro S w cs hX;obtain ⟨sv, rfl, hl⟩ := nds.1 hX;obtain ⟨W0, HW0⟩ := nm (w.alloc (nb (ncs 23 t vt vn n sv xa)));have hk0 : Kept No w W0 := by rw [← HW0.out]; exact (krf No w).alloc _
  have hb0 : W0.heap[w.heap.size]? = some (nb (ncs 23 t vt vn n sv xa)) := by rw [← HW0.out]; exact ahn w _
  obtain ⟨W1, HW1⟩ := nm (W0.alloc (.cells #[.int .i64 11] 3));have hk1 : Kept No W0 W1 := by rw [← HW1.out]; exact (krf No W0).alloc _
  have hK : KRow W1 W0.heap.size [11] := by unfold KRow; rw [← HW1.out]; exact ahn W0 _
  rcases hl with ⟨e, _⟩ | ⟨b, o, cp, rfl, hb, hbl, hr⟩
  · simp at e
  have HA : Hid (Calls Tryz.prog 82 #[.slice (some ⟨b, o, none⟩) 1 cp, .slice (some ⟨W0.heap.size, 0, none⟩) 1 1] W1 fun r w' => r = .returned (.bool true) ∧ Kept No W1 w') := are_true (ks := [11]) (l := [x]) hb (RowAt.kept (hk0.trans hk1).no b o hb _ 0 hr) hK (by decide) rfl (fun j h1 h2 => by
    have : j = 0 := by simp at h1; omega
    subst this;exact .inr kx)
  have HK : Hid (Kept No w W1) := hk0.trans hk1;have s0 : W0.heap.size = w.heap.size + 1 := by rw [← HW0.out]; simp
  rw [s0] at HA;unfold nb ncs at HW0;simp only [llc, lln, Nat.zero_add, Nat.reduceAdd] at HW0;clear hX hk0 hk1 hb0 hK hb hbl hr s0 kx;unfold ncs;go_enter Tryz.func39, Tryz.ntmps39
  go_wp2_with fail
  rw [HW0.out, HW1.out];refine cmo HA.out ?_;rintro r W2 ⟨rfl, hk2⟩;have HK2 : Hid _ := HK.out.trans hk2;clear hk2 HA HK HW0 HW1;go_wp2_with fail
  go_ret
  exact ⟨rfl, HK2.out⟩
theorem hp_25 (t : ByteArray) (vt vn n : Int) (x y : Tr) (ky : y.k = 20) (xa : Int) : HasP (.mk 25 t vt vn n [x, y] xa) := by
  intro S w cs hX;obtain ⟨sv, rfl, hl⟩ := nds.1 hX;obtain ⟨W0, HW0⟩ := nm (w.alloc (nb (ncs 25 t vt vn n sv xa)));have hk0 : Kept No w W0 := by rw [← HW0.out]; exact (krf No w).alloc _
  have hb0 : W0.heap[w.heap.size]? = some (nb (ncs 25 t vt vn n sv xa)) := by rw [← HW0.out]; exact ahn w _
  obtain ⟨W1, HW1⟩ := nm (W0.alloc (.cells #[.int .i64 0, .int .i64 20] 3));have hk1 : Kept No W0 W1 := by rw [← HW1.out]; exact (krf No W0).alloc _
  have hK : KRow W1 W0.heap.size [0, 20] := by unfold KRow; rw [← HW1.out]; exact ahn W0 _
  rcases hl with ⟨e, _⟩ | ⟨b, o, cp, rfl, hb, hbl, hr⟩
  · simp at e
  have HA : Hid (Calls Tryz.prog 82 #[.slice (some ⟨b, o, none⟩) 2 cp, .slice (some ⟨W0.heap.size, 0, none⟩) 2 2] W1 fun r w' => r = .returned (.bool true) ∧ Kept No W1 w') := are_true (ks := [0, 20]) (l := [x, y]) hb (RowAt.kept (hk0.trans hk1).no b o hb _ 0 hr) hK (by decide) rfl (fun j h1 h2 => by
    have : j = 0 ∨ j = 1 := by simp at h1; omega
    rcases this with rfl | rfl
    · exact .inl rfl
    · exact .inr ky)
  have HK : Hid (Kept No w W1) := hk0.trans hk1;have s0 : W0.heap.size = w.heap.size + 1 := by rw [← HW0.out]; simp
  rw [s0] at HA;unfold nb ncs at HW0;simp only [llc, lln, Nat.zero_add, Nat.reduceAdd] at HW0;clear hX hk0 hk1 hb0 hK hb hbl hr s0 ky;unfold ncs;go_enter Tryz.func39, Tryz.ntmps39
  go_wp2_with fail
  rw [HW0.out, HW1.out];refine cmo HA.out ?_;rintro r W2 ⟨rfl, hk2⟩;have HK2 : Hid _ := HK.out.trans hk2;clear hk2 HA HK HW0 HW1;go_wp2_with fail
  go_ret
  exact ⟨rfl, HK2.out⟩
theorem hp_30 (t : ByteArray) (vt vn n : Int) (x : Tr) (kx : x.k = 20) (xa : Int) : HasP (.mk 30 t vt vn n [x] xa) := by
  intro S w cs hX;obtain ⟨sv, rfl, hl⟩ := nds.1 hX;obtain ⟨W0, HW0⟩ := nm (w.alloc (nb (ncs 30 t vt vn n sv xa)));have hk0 : Kept No w W0 := by rw [← HW0.out]; exact (krf No w).alloc _
  have hb0 : W0.heap[w.heap.size]? = some (nb (ncs 30 t vt vn n sv xa)) := by rw [← HW0.out]; exact ahn w _
  obtain ⟨W1, HW1⟩ := nm (W0.alloc (.cells #[.int .i64 20] 3));have hk1 : Kept No W0 W1 := by rw [← HW1.out]; exact (krf No W0).alloc _
  have hK : KRow W1 W0.heap.size [20] := by unfold KRow; rw [← HW1.out]; exact ahn W0 _
  rcases hl with ⟨e, _⟩ | ⟨b, o, cp, rfl, hb, hbl, hr⟩
  · simp at e
  have HA : Hid (Calls Tryz.prog 82 #[.slice (some ⟨b, o, none⟩) 1 cp, .slice (some ⟨W0.heap.size, 0, none⟩) 1 1] W1 fun r w' => r = .returned (.bool true) ∧ Kept No W1 w') := are_true (ks := [20]) (l := [x]) hb (RowAt.kept (hk0.trans hk1).no b o hb _ 0 hr) hK (by decide) rfl (fun j h1 h2 => by
    have : j = 0 := by simp at h1; omega
    subst this;exact .inr kx)
  have HK : Hid (Kept No w W1) := hk0.trans hk1;have s0 : W0.heap.size = w.heap.size + 1 := by rw [← HW0.out]; simp
  rw [s0] at HA;unfold nb ncs at HW0;simp only [llc, lln, Nat.zero_add, Nat.reduceAdd] at HW0;clear hX hk0 hk1 hb0 hK hb hbl hr s0 kx;unfold ncs;go_enter Tryz.func39, Tryz.ntmps39
  go_wp2_with fail
  rw [HW0.out, HW1.out];refine cmo HA.out ?_;rintro r W2 ⟨rfl, hk2⟩;have HK2 : Hid _ := HK.out.trans hk2;clear hk2 HA HK HW0 HW1;go_wp2_with fail
  go_ret
  exact ⟨rfl, HK2.out⟩
theorem hp_29 (t : ByteArray) (vt vn n : Int) (x y : Tr) (kx : x.k = 6) (ky : y.k = 7) (xa : Int) : HasP (.mk 29 t vt vn n [x, y] xa) := by
  intro S w cs hX;obtain ⟨sv, rfl, hl⟩ := nds.1 hX;obtain ⟨W0, HW0⟩ := nm (w.alloc (nb (ncs 29 t vt vn n sv xa)));have hk0 : Kept No w W0 := by rw [← HW0.out]; exact (krf No w).alloc _
  have hb0 : W0.heap[w.heap.size]? = some (nb (ncs 29 t vt vn n sv xa)) := by rw [← HW0.out]; exact ahn w _
  obtain ⟨W1, HW1⟩ := nm (W0.alloc (.cells #[.int .i64 6, .int .i64 7] 3));have hk1 : Kept No W0 W1 := by rw [← HW1.out]; exact (krf No W0).alloc _
  have hK : KRow W1 W0.heap.size [6, 7] := by unfold KRow; rw [← HW1.out]; exact ahn W0 _
  rcases hl with ⟨e, _⟩ | ⟨b, o, cp, rfl, hb, hbl, hr⟩
  · simp at e
  have HA : Hid (Calls Tryz.prog 82 #[.slice (some ⟨b, o, none⟩) 2 cp, .slice (some ⟨W0.heap.size, 0, none⟩) 2 2] W1 fun r w' => r = .returned (.bool true) ∧ Kept No W1 w') := are_true (ks := [6, 7]) (l := [x, y]) hb (RowAt.kept (hk0.trans hk1).no b o hb _ 0 hr) hK (by decide) rfl (fun j h1 h2 => by
    have : j = 0 ∨ j = 1 := by simp at h1; omega
    rcases this with rfl | rfl
    · exact .inr kx
    · exact .inr ky)
  have HK : Hid (Kept No w W1) := hk0.trans hk1;have s0 : W0.heap.size = w.heap.size + 1 := by rw [← HW0.out]; simp
  rw [s0] at HA;unfold nb ncs at HW0;simp only [llc, lln, Nat.zero_add, Nat.reduceAdd] at HW0;clear hX hk0 hk1 hb0 hK hb hbl hr s0 kx ky;unfold ncs;go_enter Tryz.func39, Tryz.ntmps39
  go_wp2_with fail
  rw [HW0.out, HW1.out];refine cmo HA.out ?_;rintro r W2 ⟨rfl, hk2⟩;have HK2 : Hid _ := HK.out.trans hk2;clear hk2 HA HK HW0 HW1;go_wp2_with fail
  go_ret
  exact ⟨rfl, HK2.out⟩
end Go.Proofs.YtmoiikpjegbokaaGreatDoor
