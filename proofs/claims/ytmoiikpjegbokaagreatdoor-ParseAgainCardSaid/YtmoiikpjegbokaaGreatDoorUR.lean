import Derived.Test.YtmoiikpjegbokaaGreatDoorUQ
set_option linter.unusedSimpArgs false
set_option linter.unusedVariables false
set_option maxRecDepth 20000
set_option maxHeartbeats 4000000
/- The printer: a choice's parts; a loop's that counts. -/
namespace Go.Proofs.YtmoiikpjegbokaaGreatDoor
open World renaming alloc_heap_new → ahn
open Kept renaming refl → krf
open Go.RowKit
variable {nt : Int → Int → ByteArray} {qt : ByteArray → ByteArray} {P : Int → Int → Prop}
theorem isc {w : World} {S : Nat → Prop} {b o cp : Nat} {l : List Tr} (hr : RowAt S w b o l 0) (hb : ¬ S b) (h : ∀ i (hi : i < l.length), i % 2 = 1 ∨ i + 1 = l.length → l[i].k = 20) (h2 : 2 ≤ l.length) (hn : l.length ≤ 100000) :
    Calls Tryz.prog 84 #[.slice (some ⟨b, o, none⟩) l.length cp] w fun r w' => r = .returned (.bool true) ∧ Kept No w w' := by
  have H0 : Hid (RowAt S w b o l 0) := hr;have HM : Hid (∀ i (hi : i < l.length), i % 2 = 1 ∨ i + 1 = l.length → l[i].k = 20) := h;obtain ⟨n, HN⟩ := nm (l.length);rw [HN.out] at hn h2 ⊢;clear hr h;have p2 : (1 : Int) < (n : Int) := by omega
  go_enter Tryz.func84, Tryz.ntmps84
  go_wp2_with fail
  go_loopw [7] (fun i wr => ∃ j : Nat, j ≤ n ∧ i = .int .i64 j ∧ Hid (Kept No w wr)) (fun i _ => n - (intOf i).toNat)
  case atStart => exact ⟨0, by omega, rfl, krf _ _⟩
  case round =>
    obtain ⟨j, hj, rfl, HK⟩ := hrel;by_cases hlt : j < n
    · have k1 : (j : Int) < (n : Int) := by omega
      have j1 : j < l.length := by have := HN.out; omega
      obtain ⟨cs, c1, c2⟩ := (RowAt.kept (HK.out.no (T := S)) b o hb l 0 H0.out).at j j1;have hm : j % 2 = 1 ∨ j + 1 = n → l[j].k = 20 := fun e => HM.out j j1 (by rw [HN.out]; exact e)
      obtain ⟨x, HXx⟩ := nm (l[j]);rw [HXx.out] at c1 hm;obtain ⟨xk, xt, xvt, xvn, xn, xl, xa⟩ := x;obtain ⟨xs', rfl, hx1⟩ := NodeIs.cs.1 c1;obtain ⟨xo, xln, xc, rfl⟩ := slice_of hx1;rw [Nat.zero_add] at c2;obtain ⟨x0, x1, x2, x3, x4, x5, x6⟩ := seven_cells (fun t ht => by rw [← c2 t ht]);have hm' : j % 2 = 1 ∨ j + 1 = n → xk = 20 := hm;obtain ⟨W1, HW1⟩ := nm (wr.alloc (nb (ncs xk xt xvt xvn xn (.slice xo xln xc) xa)));have hk1 : Kept No wr W1 := by rw [← HW1.out]; exact (krf No wr).alloc _
      have hb1 : W1.heap[wr.heap.size]? = some (nb (ncs xk xt xvt xvn xn (.slice xo xln xc) xa)) := by rw [← HW1.out]; exact ahn wr _
      obtain ⟨r0, r1, r2, r3, r4, r5, r6⟩ := nb_cells hb1;have HK1 : Hid (Kept No w W1) := HK.out.trans hk1;unfold nb ncs at HW1;have e2 : ((j : Int)).tmod 2 = ((j % 2 : Nat) : Int) := by rw [Int.tmod_eq_emod_of_nonneg (by omega)]; omega
      clear c1 c2 hx1 hk1 hb1 hm HK HXx;by_cases hq : j % 2 = 1 ∨ j + 1 = n
      · have hxk : xk = 20 := hm' hq;subst hxk;clear hm';by_cases ho : j % 2 = 1
        · rw [ho] at e2;go_wp2_with (first | rw [HW1.out])
          clear HW1 x0 x1 x2 x3 x4 x5 x6 r0 r1 r2 r3 r4 r5 r6;go_roundw
          case rel => exact ⟨j + 1, by omega, by go_num, HK1.out⟩
          case measure => simp [intOf]; omega
        · have ho' : j % 2 = 0 := by omega
          rw [ho'] at e2;have e3 : (n : Int) - 1 = (j : Int) := by omega
          go_wp2_with (first | rw [HW1.out])
          clear HW1 x0 x1 x2 x3 x4 x5 x6 r0 r1 r2 r3 r4 r5 r6;go_roundw
          case rel => exact ⟨j + 1, by omega, by go_num, HK1.out⟩
          case measure => simp [intOf]; omega
      · have ho' : j % 2 = 0 := by omega
        rw [ho'] at e2;have e3 : ((j : Int) == (n : Int) - 1) = false := by simp; omega
        clear hm';go_wp2_with (first | rw [HW1.out])
        clear HW1 x0 x1 x2 x3 x4 x5 x6 r0 r1 r2 r3 r4 r5 r6;go_roundw
        case rel => exact ⟨j + 1, by omega, by go_num, HK1.out⟩
        case measure => simp [intOf]; omega
    · have k1 : ¬ (j : Int) < (n : Int) := by omega
      go_wp2_with fail
      go_ret
      exact ⟨rfl, HK.out⟩
theorem hp_24 (t : ByteArray) (vt vn n : Int) {l : List Tr} (h : ∀ i (hi : i < l.length), i % 2 = 1 ∨ i + 1 = l.length → l[i].k = 20) (h2 : 2 ≤ l.length) (hn : l.length ≤ 100000) (xa : Int) : HasP (.mk 24 t vt vn n l xa) := by
  intro S w cs hX;obtain ⟨sv, rfl, hl⟩ := NodeIs.cs.1 hX;obtain ⟨W0, HW0⟩ := nm (w.alloc (nb (ncs 24 t vt vn n sv xa)));have hk0 : Kept No w W0 := by rw [← HW0.out]; exact (krf No w).alloc _
  rcases hl with ⟨e, _⟩ | ⟨b, o, cp, rfl, hb, hbl, hr⟩
  · subst e; simp at h2
  have HA : Hid _ := isc (cp := cp) (RowAt.kept hk0.no b o hb _ 0 hr) hb h h2 hn;have HK : Hid (Kept No w W0) := hk0;obtain ⟨k, HKk⟩ := nm (l.length);rw [HKk.out] at HA HW0 ⊢;unfold nb ncs at HW0;clear hX hk0 hb hbl hr h HKk h2 hn;unfold ncs;go_enter Tryz.func39, Tryz.ntmps39
  go_wp2_with fail
  rw [HW0.out];refine Calls.mono HA.out ?_;rintro r W2 ⟨rfl, hk2⟩;have HK2 : Hid _ := HK.out.trans hk2;clear hk2 HA HK HW0;go_wp2_with fail
  go_ret
  exact ⟨rfl, HK2.out⟩
theorem hp_26b (t : ByteArray) (vt vn n : Int) (a x y z b0 : Tr) (ka : a.k = 6) (kb : b0.k = 20) (xa : Int) : HasP (.mk 26 t vt vn n [a, x, y, z, b0] xa) := by
  intro S w cs hX;obtain ⟨sv, rfl, hl⟩ := NodeIs.cs.1 hX;obtain ⟨W0, HW0⟩ := nm (w.alloc (nb (ncs 26 t vt vn n sv xa)));have hk0 : Kept No w W0 := by rw [← HW0.out]; exact (krf No w).alloc _
  have s0 : W0.heap.size = w.heap.size + 1 := by rw [← HW0.out]; simp
  have hb0 : W0.heap[w.heap.size]? = some (nb (ncs 26 t vt vn n sv xa)) := by rw [← HW0.out]; exact ahn w _
  obtain ⟨W1, HW1⟩ := nm (W0.alloc (.cells #[.int .i64 6, .int .i64 0, .int .i64 0, .int .i64 20] 3));have hk1 : Kept No W0 W1 := by rw [← HW1.out]; exact (krf No W0).alloc _
  have s1 : W1.heap.size = w.heap.size + 2 := by rw [← HW1.out]; simp [s0]
  obtain ⟨W2, HW2⟩ := nm (W1.alloc (.cells #[.int .i64 6, .int .i64 0, .int .i64 0, .int .i64 0, .int .i64 20] 3));have hk2 : Kept No W1 W2 := by rw [← HW2.out]; exact (krf No W1).alloc _
  have hK : KRow W2 W1.heap.size [6, 0, 0, 0, 20] := by unfold KRow; rw [← HW2.out]; exact ahn W1 _
  rcases hl with ⟨e, _⟩ | ⟨b, o, cp, rfl, hb, hbl, hr⟩
  · simp at e
  have HA : Hid (Calls Tryz.prog 82 #[.slice (some ⟨b, o, none⟩) 5 cp, .slice (some ⟨W1.heap.size, 0, none⟩) 5 5] W2 fun r w' => r = .returned (.bool true) ∧ Kept No W2 w') := are_true (ks := [6, 0, 0, 0, 20]) (l := [a, x, y, z, b0]) hb (RowAt.kept ((hk0.trans hk1).trans hk2).no b o hb _ 0 hr) hK (by decide) rfl (fun j h1 h2 => by
    have : j = 0 ∨ j = 1 ∨ j = 2 ∨ j = 3 ∨ j = 4 := by simp at h1; omega
    rcases this with rfl | rfl | rfl | rfl | rfl
    · exact .inr ka
    · exact .inl rfl
    · exact .inl rfl
    · exact .inl rfl
    · exact .inr kb)
  have HB : Hid (Calls Tryz.prog 82 #[.slice (some ⟨b, o, none⟩) 5 cp, .slice (some ⟨W0.heap.size, 0, none⟩) 4 4] W1 fun r w' => r = .returned (.bool false) ∧ w' = W1) := are_len (by decide);have HK : Hid (Kept No w W2) := (hk0.trans hk1).trans hk2;obtain ⟨r0, r1, r2, r3, r4, r5, r6⟩ := nb_cells (hk1.heap hb0 id);simp only [List.length_cons, List.length_nil, Nat.zero_add, Nat.reduceAdd] at r5;rw [s1] at HA;rw [s0] at HB;unfold nb ncs at HW0;simp only [List.length_cons, List.length_nil, Nat.zero_add, Nat.reduceAdd] at HW0;clear hX hk0 hk1 hk2 hK hb hbl hr ka kb hb0;unfold ncs;go_enter Tryz.func39, Tryz.ntmps39
  go_wp2_with fail
  rw [HW0.out, HW1.out];refine Calls.mono HB.out ?_;rintro r W3 ⟨rfl, rfl⟩;clear HB;go_wp2_with fail
  rw [HW2.out]
  try rw [s1]
  refine Calls.mono HA.out ?_;rintro r W4 ⟨rfl, hk4⟩;have HK2 : Hid _ := HK.out.trans hk4;clear hk4 HA HK HW0 HW1 HW2;go_wp2_with fail
  go_ret
  exact ⟨rfl, HK2.out⟩
theorem hp_26a (t : ByteArray) (vt vn n : Int) (a x y b0 : Tr) (ka : a.k = 6) (kb : b0.k = 20) (xa : Int) : HasP (.mk 26 t vt vn n [a, x, y, b0] xa) := by
  intro S w cs hX;obtain ⟨sv, rfl, hl⟩ := NodeIs.cs.1 hX;obtain ⟨W0, HW0⟩ := nm (w.alloc (nb (ncs 26 t vt vn n sv xa)));have hk0 : Kept No w W0 := by rw [← HW0.out]; exact (krf No w).alloc _
  have s0 : W0.heap.size = w.heap.size + 1 := by rw [← HW0.out]; simp
  obtain ⟨W1, HW1⟩ := nm (W0.alloc (.cells #[.int .i64 6, .int .i64 0, .int .i64 0, .int .i64 20] 3));have hk1 : Kept No W0 W1 := by rw [← HW1.out]; exact (krf No W0).alloc _
  have hK : KRow W1 W0.heap.size [6, 0, 0, 20] := by unfold KRow; rw [← HW1.out]; exact ahn W0 _
  rcases hl with ⟨e, _⟩ | ⟨b, o, cp, rfl, hb, hbl, hr⟩
  · simp at e
  have HA : Hid (Calls Tryz.prog 82 #[.slice (some ⟨b, o, none⟩) 4 cp, .slice (some ⟨W0.heap.size, 0, none⟩) 4 4] W1 fun r w' => r = .returned (.bool true) ∧ Kept No W1 w') := are_true (ks := [6, 0, 0, 20]) (l := [a, x, y, b0]) hb (RowAt.kept (hk0.trans hk1).no b o hb _ 0 hr) hK (by decide) rfl (fun j h1 h2 => by
    have : j = 0 ∨ j = 1 ∨ j = 2 ∨ j = 3 := by simp at h1; omega
    rcases this with rfl | rfl | rfl | rfl
    · exact .inr ka
    · exact .inl rfl
    · exact .inl rfl
    · exact .inr kb)
  have HK : Hid (Kept No w W1) := hk0.trans hk1;rw [s0] at HA;unfold nb ncs at HW0;simp only [List.length_cons, List.length_nil, Nat.zero_add, Nat.reduceAdd] at HW0;clear hX hk0 hk1 hK hb hbl hr ka kb s0;unfold ncs;go_enter Tryz.func39, Tryz.ntmps39
  go_wp2_with fail
  rw [HW0.out, HW1.out];refine Calls.mono HA.out ?_;rintro r W4 ⟨rfl, hk4⟩;have HK2 : Hid _ := HK.out.trans hk4;clear hk4 HA HK HW0 HW1;go_wp2_with fail
  go_ret
  exact ⟨rfl, HK2.out⟩
end Go.Proofs.YtmoiikpjegbokaaGreatDoor
