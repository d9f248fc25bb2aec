/- A number. -/
import Derived.Test.YtidokamfppdnaaaGreatDoorC5
import Derived.Test.YtidokamfppdnaaaGreatDoorN9
namespace Go.Proofs.YtidokamfppdnaaaGreatDoor
open Go.RowKit
set_option linter.unusedSimpArgs false
set_option linter.unusedVariables false

/-- What Read makes of a text. -/
theorem rd_ex (s : ByteArray) (hz : s.size ≤ 140737488351232) : ∃ p : Int × Int × Int, ReadB s p.1 p.2.1 p.2.2 ∧ ((∃ t m, ReadB s t m 0) → p.2.2 = 0) := by
  by_cases h : ∃ t m, ReadB s t m 0
  · obtain ⟨t, m, h⟩ := h
    exact ⟨(t, m, 0), h, fun _ => rfl⟩
  · obtain ⟨t, m, x, hr⟩ := readB_all s hz
    exact ⟨(t, m, x), hr, fun h' => absurd h' h⟩
noncomputable def rdP (s : ByteArray) (hz : s.size ≤ 140737488351232) : Int × Int × Int := (rd_ex s hz).choose
noncomputable def rd (s : ByteArray) (hz : s.size ≤ 140737488351232) : { p : Int × Int × Int // ReadB s p.1 p.2.1 p.2.2 } := ⟨rdP s hz, (rd_ex s hz).choose_spec.1⟩
theorem rd_zero (s : ByteArray) (hz : s.size ≤ 140737488351232) (h : ∃ t m, ReadB s t m 0) : (rd s hz).1.2.2 = 0 := (rd_ex s hz).choose_spec.2 h
theorem ErrIs.no {w w' : World} (h : ErrIs w) (hk : Kept No w w') : ErrIs w' := err_later h hk.below

theorem tbo_cells {W w : World} {b : Nat} {x : Tk} (hk : Kept No W w) (h : W.heap[b]? = some (tb x)) : (∀ o, (w.alloc o).cell? ⟨b, 0, none⟩ = some (.int .i64 x.k)) ∧ (∀ o, (w.alloc o).cell? ⟨b, 1, none⟩ = some (.string x.t)) ∧ (∀ o, (w.alloc o).cell? ⟨b, 2, none⟩ = some (.int .i64 x.vt)) ∧ (∀ o, (w.alloc o).cell? ⟨b, 3, none⟩ = some (.int .i64 x.vn)) ∧ (∀ o, (w.alloc o).cell? ⟨b, 4, none⟩ = some (.string x.sy)) ∧ (∀ o, (w.alloc o).cell? ⟨b, 5, none⟩ = some (.int .i64 x.a)) ∧ (∀ o, (w.alloc o).cell? ⟨b, 6, none⟩ = some (.int .i64 x.e)) :=
  ⟨fun o => (tb_cells ((hk.alloc o).heap h id)).1, fun o => (tb_cells ((hk.alloc o).heap h id)).2.1, fun o => (tb_cells ((hk.alloc o).heap h id)).2.2.1, fun o => (tb_cells ((hk.alloc o).heap h id)).2.2.2.1, fun o => (tb_cells ((hk.alloc o).heap h id)).2.2.2.2.1, fun o => (tb_cells ((hk.alloc o).heap h id)).2.2.2.2.2.1, fun o => (tb_cells ((hk.alloc o).heap h id)).2.2.2.2.2.2⟩

set_option maxRecDepth 20000 in
set_option maxHeartbeats 2000000 in
theorem number_not {w : World} {c : Nat} {s : ByteArray} (h : Cu w c s) (k : Nat) (hk : k < s.size) (hs : s.size ≤ 8192) (hl : isDg s[k] = false) :
    Calls Tryz.prog 17 #[.pointer (some ⟨c, 0, none⟩), .int .i64 (k : Int)] w fun r w' => r = .returned (.tuple #[tv t0, .int .i64 0]) ∧ Kept No w w' := by
  have c1 : ∀ o, (w.alloc o).cell? ⟨c, 0, none⟩ = some (.string s) := fun o => (h.no ((Kept.refl No w).alloc o)).src
  have HL : Hid (∀ w, Calls Tryz.prog 32 #[.int .u8 (s[k].toNat : Int)] w fun e w' => e = .returned (.bool false) ∧ w = w') := fun w => by have := isDigit_any s[k] w; rw [hl] at this; exact this
  clear h hl
  go_enter Tryz.func17, Tryz.ntmps17
  go_wp2_with (go_at_call 32; refine Calls.mono (HL.out _) ?_; rintro e w' ⟨rfl, rfl⟩)
  refine bodyPost_ret (v := .tuple #[tv t0, .int .i64 0]) (by simp [results, Tryz.results17, go_sem, tv, t0]) rfl ⟨rfl, ?_⟩
  exact (Kept.refl No w).alloc _

set_option maxRecDepth 20000 in
set_option maxHeartbeats 4000000 in
theorem number_is {w : World} {c : Nat} {s : ByteArray} (h : Cu w c s) (he : ErrIs w) (k : Nat) (hk : k < s.size) (hs : s.size ≤ 8192) (hl : isDg s[k] = true) (t m x : Int) (hb : ReadB (s.extract k (k + numL ((bl s).drop k))) t m x) (X : Tk) (hX : X = if x = 0 then ⟨3, s.extract k (k + numL ((bl s).drop k)), t, m, ⟨#[]⟩, k, (k + numL ((bl s).drop k) : Nat)⟩ else t0) :
    Calls Tryz.prog 17 #[.pointer (some ⟨c, 0, none⟩), .int .i64 (k : Int)] w fun r w' => r = .returned (.tuple #[tv X, .int .i64 x]) ∧ Kept No w w' := by
  obtain ⟨W, HW⟩ : ∃ W, Hid (W = w.alloc (.cells #[.int .i64 0, .string ⟨#[]⟩, .int .i64 0, .int .i64 0, .string ⟨#[]⟩, .int .i64 0, .int .i64 0] 38)) := ⟨_, show _ = _ from rfl⟩
  have HC : Hid (Cu W c s) := by show Cu _ _ _; rw [HW.out]; exact h.no ((Kept.refl No w).alloc _)
  have HK : Hid (Kept No w W) := by show Kept _ _ _; rw [HW.out]; exact (Kept.refl No w).alloc _
  have HER : Hid (ErrIs w) := he
  have HR0 : Hid (W.heap[w.heap.size]? = some (tb t0)) := by show _ = _; rw [HW.out]; exact World.alloc_heap_new w _
  have HWF : Hid (∀ w, Calls Tryz.prog 32 #[.int .u8 (s[k].toNat : Int)] w fun e w' => e = .returned (.bool true) ∧ w = w') := fun w => by have := isDigit_any s[k] w; rw [hl] at this; exact this
  have HNE : Hid (∀ w, Calls Tryz.prog 33 #[.string s, .int .i64 (k : Int)] w fun e w' => e = .returned (.int .i64 ((k + numL ((bl s).drop k) : Nat) : Int)) ∧ w = w') := fun w => numberEnd_any s k (by omega) (by omega) w
  have c1 : ∀ o, (w.alloc o).cell? ⟨c, 0, none⟩ = some (.string s) := fun o => (h.no ((Kept.refl No w).alloc o)).src
  have c0 := HC.out.src
  have hnl := numL_le ((bl s).drop k)
  rw [List.length_drop, bl_len] at hnl
  obtain ⟨E, HE⟩ : ∃ E, Hid (k + numL ((bl s).drop k) = E) := ⟨_, show _ = _ from rfl⟩
  rw [HE.out] at hb HNE hX
  have HX : Hid (X = _) := hX
  clear hX
  have hkE : k ≤ E := by rw [← HE.out]; omega
  have hEs : E ≤ s.size := by rw [← HE.out]; omega
  have HB : Hid (ReadB (s.extract k E) t m x) := hb
  clear h hl hb hnl he HE
  obtain ⟨R, HRR⟩ : ∃ R, Hid (w.heap.size = R) := ⟨_, show _ = _ from rfl⟩
  rw [HRR.out] at HR0
  go_enter Tryz.func17, Tryz.ntmps17
  go_wp2_with fail
  refine Calls.mono (HWF.out _) ?_
  rintro e w' ⟨rfl, rfl⟩
  rw [← HW.out]
  clear c1
  go_wp2_with fail
  refine Calls.mono (HNE.out _) ?_
  rintro e w' ⟨rfl, rfl⟩
  go_wp2_with fail
  refine (cut_any HC.out 3 k E hkE (by omega) (by omega)).mono ?_
  rintro e W1 ⟨rfl, hk1⟩
  have H1 : Hid (Kept No w W1 ∧ W1.heap[R]? = some (tb t0)) := ⟨HK.out.trans hk1, hk1.heap HR0.out id⟩
  clear hk1 c0
  obtain ⟨W2, HW2⟩ : ∃ W2, Hid (W1.alloc (tb ⟨3, s.extract k E, 0, 0, ⟨#[]⟩, k, E⟩) = W2) := ⟨_, show _ = _ from rfl⟩
  have HT : Hid (W2.heap[W1.heap.size]? = some (tb ⟨3, s.extract k E, 0, 0, ⟨#[]⟩, k, E⟩)) := by show _ = _; rw [← HW2.out]; exact World.alloc_heap_new W1 _
  have HK2 : Hid (Kept No W1 W2) := by show Kept _ _ _; rw [← HW2.out]; exact (Kept.refl No W1).alloc _
  unfold tb at HW2
  dsimp only at HW2
  unfold tv
  dsimp only
  go_wp2_with fail
  rw [HW2.out]
  clear HW2
  obtain ⟨T, HTT⟩ : ∃ T, Hid (W1.heap.size = T) := ⟨_, show _ = _ from rfl⟩
  rw [HTT.out] at HT ⊢
  rw [HRR.out]
  have HF : Hid (Kept No w W2 ∧ W2.heap[R]? = some (tb t0) ∧ R < T ∧ T < W2.heap.size ∧ w.heap.size ≤ R) := ⟨H1.out.1.trans HK2.out, HK2.out.heap H1.out.2 id, by rw [← HTT.out]; exact hp_lt H1.out.2, hp_lt HT.out, by rw [HRR.out]; exact Nat.le_refl _⟩
  clear H1 HK2 HTT
  refine (HB.out.1 _ (HER.out.no HF.out.1)).mono ?_
  rintro e W3 ⟨rfl, hb3⟩
  have hSS : Kept No W2 W3 := Kept.of_below hb3
  obtain ⟨t3, t4, t5, t6, t7, t8, t9⟩ := tbo_cells hSS HT.out
  obtain ⟨r3, r4, r5, r6, r7, r8, r9⟩ := tbo_cells hSS HF.out.2.1
  have t1' := fun o p => tb_frozen ((hSS.alloc o).heap HT.out id) p
  have t2' := fun o p => tb_frozen ((hSS.alloc o).heap HF.out.2.1 id) p
  dsimp only [t0] at t3 t4 t5 t6 t7 t8 t9 r3 r4 r5 r6 r7 r8 r9
  have nRT : R ≠ T := by have := HF.out.2.2.1; omega
  have nTR : T ≠ R := by have := HF.out.2.2.1; omega
  have HKf : Hid (Kept No w W3 ∧ w.heap.size ≤ R ∧ w.heap.size ≤ T) := ⟨HF.out.1.trans hSS, HF.out.2.2.2.2, by have := HF.out.2.2; omega⟩
  clear hSS hb3 HB HT HF HER HWF HNE HC HK HR0
  unfold AV
  by_cases hx : x = 0
  · subst hx
    have HXX : Hid (X = ⟨3, s.extract k E, t, m, ⟨#[]⟩, k, E⟩) := by show _ = _; rw [HX.out, if_pos rfl]
    go_wp2_with fail
    refine bodyPost_ret (v := .tuple #[tv ⟨3, s.extract k E, t, m, ⟨#[]⟩, k, E⟩, .int .i64 0]) (by simp [results, Tryz.results17, go_sem, tv, t3, t4, t5, t6, t7, t8, t9, r3, r4, r5, r6, r7, r8, r9, nRT, nTR]) rfl ⟨by rw [HXX.out], ?_⟩
    exact HKf.out.1.alloc _ |>.set _ _ _ (Or.inr HKf.out.2.2)|>.set _ _ _ (Or.inr HKf.out.2.2)|>.set _ _ _ (Or.inr HKf.out.2.1)|>.set _ _ _ (Or.inr HKf.out.2.1)|>.set _ _ _ (Or.inr HKf.out.2.1)|>.set _ _ _ (Or.inr HKf.out.2.1)|>.set _ _ _ (Or.inr HKf.out.2.1)|>.set _ _ _ (Or.inr HKf.out.2.1)|>.set _ _ _ (Or.inr HKf.out.2.1)
  · have bx : (x == 0) = false := by simp [hx]
    have HXX : Hid (X = t0) := by show _ = _; rw [HX.out, if_neg hx]
    clear hx
    go_wp2_with fail
    refine bodyPost_ret (v := .tuple #[tv t0, .int .i64 x]) (by simp [results, Tryz.results17, go_sem, tv, t0, t3, t4, t5, t6, t7, t8, t9, r3, r4, r5, r6, r7, r8, r9, nRT, nTR]) rfl ⟨by rw [HXX.out], ?_⟩
    exact HKf.out.1.alloc _ |>.set _ _ _ (Or.inr HKf.out.2.1)|>.set _ _ _ (Or.inr HKf.out.2.1)|>.set _ _ _ (Or.inr HKf.out.2.1)|>.set _ _ _ (Or.inr HKf.out.2.1)|>.set _ _ _ (Or.inr HKf.out.2.1)|>.set _ _ _ (Or.inr HKf.out.2.1)|>.set _ _ _ (Or.inr HKf.out.2.1)

/-- What number tells. -/
noncomputable def nuX (s : ByteArray) (k : Nat) (hs : s.size ≤ 8192) : Tk × Int :=
  if isDg ((bl s).getD k 0) then
    let p := (rd (s.extract k (k + numL ((bl s).drop k))) (by rw [ByteArray.size_extract]; omega)).1
    (if p.2.2 = 0 then ⟨3, s.extract k (k + numL ((bl s).drop k)), p.1, p.2.1, ⟨#[]⟩, k, (k + numL ((bl s).drop k) : Nat)⟩ else t0, p.2.2)
  else (t0, 0)
theorem number_any {w : World} {c : Nat} {s : ByteArray} (h : Cu w c s) (he : ErrIs w) (k : Nat) (hk : k < s.size) (hs : s.size ≤ 8192) :
    Calls Tryz.prog 17 #[.pointer (some ⟨c, 0, none⟩), .int .i64 (k : Int)] w fun r w' => r = .returned (.tuple #[tv (nuX s k hs).1, .int .i64 (nuX s k hs).2]) ∧ Kept No w w' := by
  unfold nuX
  rw [bl_getD s hk]
  cases hl : isDg s[k] with
  | false => exact number_not h k hk hs hl
  | true => exact number_is h he k hk hs hl _ _ _ (rd (s.extract k (k + numL ((bl s).drop k))) (by rw [ByteArray.size_extract]; omega)).2 _ rfl
end Go.Proofs.YtidokamfppdnaaaGreatDoor
