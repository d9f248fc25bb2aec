import Derived.Test.YtmoiikpjegbokaaGreatDoorUL
set_option linter.unusedSimpArgs false
set_option linter.unusedVariables false
set_option maxRecDepth 20000
set_option maxHeartbeats 4000000
/- The printer: which parts there are, kinds with lists. -/
namespace Go.Proofs.YtmoiikpjegbokaaGreatDoor
open Go.RowKit
variable {nt : Int → Int → ByteArray} {qt : ByteArray → ByteArray} {P : Int → Int → Prop}
theorem hp_11 (t : ByteArray) (vt vn n : Int) (x : Tr) (m : List Tr) (xa : Int) : HasP (.mk 11 t vt vn n (x :: m) xa) := by
  intro S w cs hX;obtain ⟨sv, rfl, hl⟩ := NodeIs.cs.1 hX;obtain ⟨b, o, cp, rfl, hcp⟩ := slice_some hl (by simp);rw [List.length_cons];obtain ⟨k, HK⟩ := nm (m.length);rw [HK.out];clear hX hl HK hcp;have p1 : (0 : Int) < ((k + 1 : Nat) : Int) := by omega
  unfold ncs;go_enter Tryz.func39, Tryz.ntmps39
  go_wp2_with fail
  go_ret
  exact ⟨rfl, (Kept.refl No w).alloc _⟩
theorem are_len {w : World} {ao go : Option Addr} {j k cp cap : Nat} (h : ¬ j = k) :
    Calls Tryz.prog 82 #[.slice ao j cp, .slice go k cap] w fun r w' => r = .returned (.bool false) ∧ w' = w := by
  have p1 : ((j : Int) != (k : Int)) = true := by simp; omega
  go_enter Tryz.func82, Tryz.ntmps82
  go_wp2_with fail
  go_ret
  exact ⟨rfl, rfl⟩
theorem isf {w : World} {S : Nat → Prop} {b o cp : Nat} {m : List Tr} {x : Tr} (hr : RowAt S w b o (m ++ [x]) 0) (hb : ¬ S b) (hx : x.k = 20) (hk : ∀ y ∈ m, y.k = 6) (hml : m.length ≤ 50000) (hcp : m.length + 1 ≤ cp) :
    Calls Tryz.prog 81 #[.slice (some ⟨b, o, none⟩) (m.length + 1) cp] w fun r w' => r = .returned (.bool true) ∧ Kept No w w' := by
  obtain ⟨W1, HW1⟩ := nm (w.alloc (.cells #[.int .i64 6] 3));have hk1 : Kept No w W1 := by rw [← HW1.out]; exact (Kept.refl No w).alloc _
  have hK : KRow W1 w.heap.size [6] := by unfold KRow; rw [← HW1.out]; exact World.alloc_heap_new w _
  have hrt : RowAt S W1 b o m 0 := by
    have := row_take (RowAt.kept hk1.no b o hb _ 0 hr) m.length
    rwa [List.take_left] at this
  have HA : Hid (Calls Tryz.prog 83 #[.slice (some ⟨b, o, none⟩) m.length cp, .slice (some ⟨w.heap.size, 0, none⟩) 1 1] W1 fun r w' => r = .returned (.bool true) ∧ Kept No W1 w') := all_true (ks := [6]) hb hrt hK (by decide) (by omega) (fun y hy => by rw [hk y hy]; simp);have HK : Hid (Kept No w W1) := hk1;obtain ⟨cs, c1, c2⟩ := hr.at m.length (by simp);obtain ⟨xk, xt, xvt, xvn, xn, xl, xa⟩ := x;have hxk : xk = 20 := hx;subst hxk;rw [show (m ++ [Tr.mk 20 xt xvt xvn xn xl xa])[m.length]'(by simp) = Tr.mk 20 xt xvt xvn xn xl xa by simp] at c1;obtain ⟨xs', rfl, hx1⟩ := NodeIs.cs.1 c1;rw [Nat.zero_add] at c2;have z0 := (seven_cells (fun t ht => by rw [← c2 t ht])).1;obtain ⟨k, HKk⟩ := nm (m.length);rw [HKk.out] at z0 HA hml hcp ⊢;clear hr hb hx hk hk1 hK hrt c1 c2 hx1 HKk;have p1 : ((k + 1 : Nat) : Int) - 1 = (k : Int) := by omega
  have p2 : (0 : Int) ≤ (k : Int) := by omega
  have p3 : (k : Int) < ((k + 1 : Nat) : Int) := by omega
  have p4 : (k : Int) ≤ (cp : Int) := by omega
  have p5 : k ≤ cp := by omega
  go_enter Tryz.func81, Tryz.ntmps81
  go_wp2_with (first | rw [HW1.out])
  refine Calls.mono HA.out ?_;rintro r W2 ⟨rfl, hk2⟩;have HK2 : Hid _ := HK.out.trans hk2;clear hk2 HA HK HW1 z0;go_wp2_with fail
  go_ret
  exact ⟨rfl, HK2.out⟩
theorem hp_7 (t : ByteArray) (vt vn n : Int) {m : List Tr} {x : Tr} (hx : x.k = 20) (hk : ∀ y ∈ m, y.k = 6) (hml : m.length ≤ 50000) (xa : Int) : HasP (.mk 7 t vt vn n (m ++ [x]) xa) := by
  intro S w cs hX;obtain ⟨sv, rfl, hl⟩ := NodeIs.cs.1 hX;obtain ⟨W0, HW0⟩ := nm (w.alloc (nb (ncs 7 t vt vn n sv xa)));have hk0 : Kept No w W0 := by rw [← HW0.out]; exact (Kept.refl No w).alloc _
  rcases hl with ⟨e, _⟩ | ⟨b, o, cp, rfl, hb, hbl, hr⟩
  · simp at e
  have hcp := hbl.2;rw [List.length_append, List.length_cons, List.length_nil, Nat.zero_add] at hcp HW0 ⊢;have HA : Hid _ := isf (RowAt.kept hk0.no b o hb _ 0 hr) hb hx hk hml hcp;have HK : Hid (Kept No w W0) := hk0;obtain ⟨k, HKk⟩ := nm (m.length);rw [HKk.out] at HA HW0 ⊢;unfold nb ncs at HW0;clear hX hk0 hb hbl hr hcp hx hk HKk hml;unfold ncs;go_enter Tryz.func39, Tryz.ntmps39
  go_wp2_with fail
  rw [HW0.out];refine Calls.mono HA.out ?_;rintro r W2 ⟨rfl, hk2⟩;have HK2 : Hid _ := HK.out.trans hk2;clear hk2 HA HK HW0;go_wp2_with fail
  go_ret
  exact ⟨rfl, HK2.out⟩
theorem hp_21 {m m2 : List Tr} (h1 : m ≠ []) (hml : m.length ≤ 50000) (hml2 : m2.length ≤ 50000) (hk : ∀ x ∈ m, x.k = 6) (t : ByteArray) (vt vn xa : Int) : HasP (.mk 21 t vt vn m.length (m ++ m2) xa) := by
  intro S w cs hX;obtain ⟨sv, rfl, hl⟩ := NodeIs.cs.1 hX;obtain ⟨W0, HW0⟩ := nm (w.alloc (nb (ncs 21 t vt vn m.length sv xa)));have hk0 : Kept No w W0 := by rw [← HW0.out]; exact (Kept.refl No w).alloc _
  have s0 : W0.heap.size = w.heap.size + 1 := by rw [← HW0.out]; simp
  obtain ⟨W1, HW1⟩ := nm (W0.alloc (.cells #[.int .i64 6] 3));have hk1 : Kept No W0 W1 := by rw [← HW1.out]; exact (Kept.refl No W0).alloc _
  have hK : KRow W1 W0.heap.size [6] := by unfold KRow; rw [← HW1.out]; exact World.alloc_heap_new W0 _
  have hpos1 : 0 < m.length := List.length_pos_iff.2 h1;rcases hl with ⟨e, _⟩ | ⟨b, o, cp, rfl, hb, hbl, hr⟩
  · simp [h1] at e
  have hrt : RowAt S W1 b o m 0 := by
    have := row_take (RowAt.kept (hk0.trans hk1).no b o hb _ 0 hr) m.length
    rwa [List.take_left] at this
  have HA : Hid (Calls Tryz.prog 83 #[.slice (some ⟨b, o, none⟩) m.length cp, .slice (some ⟨W0.heap.size, 0, none⟩) 1 1] W1 fun r w' => r = .returned (.bool true) ∧ Kept No W1 w') := all_true (ks := [6]) hb hrt hK (by decide) (by omega) (fun x hx => by rw [hk x hx]; simp);have HK : Hid (Kept No w W1) := hk0.trans hk1;have hcp := hbl.2;rw [List.length_append] at hcp HW0 ⊢;rw [s0] at HA;obtain ⟨k, HKk⟩ := nm (m.length);obtain ⟨k2, HKk2⟩ := nm (m2.length);rw [HKk.out] at hcp HW0 HA hml hpos1 ⊢;rw [HKk2.out] at hcp HW0 hml2 ⊢;unfold nb ncs at HW0;clear hX hk0 hk1 hK hb hbl hr hrt s0 h1 hk HKk HKk2;unfold ncs;have p1 : k ≤ cp := by omega
  have p2 : (k : Int) ≤ (cp : Int) := by omega
  have p3 : (0 : Int) < (k : Int) := by omega
  have p5 : (k : Int) ≤ ((k + k2 : Nat) : Int) := by omega
  have p7 : 0 < k := hpos1;go_enter Tryz.func39, Tryz.ntmps39
  go_wp2_with fail
  rw [HW0.out, HW1.out];refine Calls.mono HA.out ?_;rintro r W2 ⟨rfl, hk2⟩;have HK2 : Hid _ := HK.out.trans hk2;clear hk2 HA HK HW0 HW1;go_wp2_with fail
  go_ret
  exact ⟨rfl, HK2.out⟩
end Go.Proofs.YtmoiikpjegbokaaGreatDoor
