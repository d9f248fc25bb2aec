/- The document's token: a sign. -/
import Derived.Test.YtidokamfppdnaaaGreatDoorQ3
namespace Go.Proofs.YtidokamfppdnaaaGreatDoor
open Go.RowKit
set_option linter.unusedSimpArgs false
set_option linter.unusedVariables false

theorem Bx.text {w W : World} {R T : Nat} {x : Tk} (h : Bx w W R T x) (a : ByteArray) : Bx w (W.setCell ⟨T, 1, none⟩ (.string a)) R T ⟨x.k, a, x.vt, x.vn, x.sy, x.a, x.e⟩ :=
  ⟨h.kept.set _ _ _ (Or.inr (by have := h.le; have := h.lt; omega)), set_other h.r _ _ (by have := h.lt; omega), set_same h.t _ _, h.le, h.lt⟩
theorem Bx.vt {w W : World} {R T : Nat} {x : Tk} (h : Bx w W R T x) (a : Int) : Bx w (W.setCell ⟨T, 2, none⟩ (.int .i64 a)) R T ⟨x.k, x.t, a, x.vn, x.sy, x.a, x.e⟩ :=
  ⟨h.kept.set _ _ _ (Or.inr (by have := h.le; have := h.lt; omega)), set_other h.r _ _ (by have := h.lt; omega), set_same h.t _ _, h.le, h.lt⟩
theorem Bx.vn {w W : World} {R T : Nat} {x : Tk} (h : Bx w W R T x) (a : Int) : Bx w (W.setCell ⟨T, 3, none⟩ (.int .i64 a)) R T ⟨x.k, x.t, x.vt, a, x.sy, x.a, x.e⟩ :=
  ⟨h.kept.set _ _ _ (Or.inr (by have := h.le; have := h.lt; omega)), set_other h.r _ _ (by have := h.lt; omega), set_same h.t _ _, h.le, h.lt⟩
theorem Bx.says {w W : World} {R T : Nat} {x : Tk} (h : Bx w W R T x) (a : ByteArray) : Bx w (W.setCell ⟨T, 4, none⟩ (.string a)) R T ⟨x.k, x.t, x.vt, x.vn, a, x.a, x.e⟩ :=
  ⟨h.kept.set _ _ _ (Or.inr (by have := h.le; have := h.lt; omega)), set_other h.r _ _ (by have := h.lt; omega), set_same h.t _ _, h.le, h.lt⟩
theorem Bx.fin {w W : World} {R T : Nat} {x : Tk} (h : Bx w W R T x) (a : Int) : Bx w (W.setCell ⟨T, 6, none⟩ (.int .i64 a)) R T ⟨x.k, x.t, x.vt, x.vn, x.sy, x.a, a⟩ :=
  ⟨h.kept.set _ _ _ (Or.inr (by have := h.le; have := h.lt; omega)), set_other h.r _ _ (by have := h.lt; omega), set_same h.t _ _, h.le, h.lt⟩

set_option maxRecDepth 20000 in
set_option maxHeartbeats 8000000 in
theorem one_sign (s : ByteArray) (k : Nat) (hk : k < s.size) (hs : s.size ≤ 8192) (h1 : isLt s[k] = false) (h2 : isDg s[k] = false) (h3 : ¬ s[k].toNat = 34) (g : List UInt8) (hg : sgF ((bl s).drop k) sgs = some g) (w : World) :
    Calls Tryz.prog 13 #[.string s, .int .i64 (k : Int)] w fun r w' => r = .returned (.tuple #[tv ⟨5, s.extract k (k + g.length), 0, 0, ⟨#[]⟩, k, (k + g.length : Nat)⟩, .int .i64 0]) ∧ Kept No w w' := by
  have hgl : g.length ≤ 2 ∧ 1 ≤ g.length := sgs_le g (List.mem_of_find?_eq_some hg)
  have hgk : k + g.length ≤ s.size := by
    have := hp_len (List.find?_some hg)
    rw [List.length_drop, bl_len] at this
    omega
  have hV : sgN ((bl s).drop k) sgs = (g.length : Int) := by unfold sgN; rw [hg]
  have HSg : Hid (∀ w, Calls Tryz.prog 28 #[.string s, .int .i64 (k : Int)] w fun r w' => r = .returned (.int .i64 (g.length : Int)) ∧ Kept No w w') := fun w => by have := signAt_any s k hk hs w; rw [hV] at this; exact this
  obtain ⟨n, hn⟩ : ∃ n, g.length = n := ⟨_, rfl⟩
  rw [hn] at hgl hgk HSg ⊢
  clear hV hg hn
  have HL1 : Hid (∀ w, Calls Tryz.prog 23 #[.int .u8 (s[k].toNat : Int)] w fun e w' => e = .returned (.bool false) ∧ w = w') := fun w => by have := RLetter_any s[k] w; rw [h1] at this; exact this
  have HD1 : Hid (∀ w, Calls Tryz.prog 24 #[.int .u8 (s[k].toNat : Int)] w fun e w' => e = .returned (.bool false) ∧ w = w') := fun w => by have := RDigit_any s[k] w; rw [h2] at this; exact this
  have f34 : ((s[k].toNat : Int) == 34) = false := neI _ 34 h3
  have lk : (k : Int) < (s.size : Int) := by omega
  have n0 : ((n : Int) == 0) = false := neI n 0 (by omega)
  have u1 : IntKind.i64.wrap ((k : Int) + (n : Int)) = (k : Int) + (n : Int) := by rw [IntKind.wrap_i64]; omega
  have l1 : (k : Int) + (n : Int) ≤ (s.size : Int) := by omega
  have l2 : (k : Int) ≤ (k : Int) + (n : Int) := by omega
  have l3 : ((k : Int) + (n : Int)).toNat = k + n := by omega
  have HBx : Hid (Bx w ((w.alloc (tb t0)).alloc (tb ⟨0, ⟨#[]⟩, 0, 0, ⟨#[]⟩, k, 0⟩)) w.heap.size (w.heap.size + 1) ⟨0, ⟨#[]⟩, 0, 0, ⟨#[]⟩, k, 0⟩) := Bx.made w _
  obtain ⟨W0, HW0⟩ : ∃ W0, Hid ((w.alloc (tb t0)).alloc (tb ⟨0, ⟨#[]⟩, 0, 0, ⟨#[]⟩, k, 0⟩) = W0) := ⟨_, show _ = _ from rfl⟩
  rw [HW0.out] at HBx
  unfold tb t0 at HW0
  dsimp only at HW0
  clear h1 h2 h3
  go_enter Tryz.func13, Tryz.ntmps13
  go_wp2_with (first | (go_at_call 23; refine Calls.mono (HL1.out _) ?_; rintro e w' ⟨rfl, rfl⟩) | (go_at_call 24; refine Calls.mono (HD1.out _) ?_; rintro e w' ⟨rfl, rfl⟩) | fail)
  rw [HW0.out]
  obtain ⟨R, HRR⟩ : ∃ R, Hid (w.heap.size = R) := ⟨_, show _ = _ from rfl⟩
  obtain ⟨T, HTT⟩ : ∃ T, Hid (R + 1 = T) := ⟨_, show _ = _ from rfl⟩
  rw [HRR.out, HTT.out] at HBx
  try rw [HRR.out]
  try rw [HTT.out]
  clear HW0 HL1 HD1
  refine Calls.mono (HSg.out _) ?_
  rintro e W5 ⟨rfl, hk5⟩
  have HB0 : Hid (Bx w W5.drew R T ⟨0, ⟨#[]⟩, 0, 0, ⟨#[]⟩, k, 0⟩) := (HBx.out.no hk5).no (Kept.refl _ _).drew
  clear hk5 HSg HBx
  go_wp2_with fail
  refine wp_region_held_drew (S := fun _ => True) (by kernel_rfl) trivial (fun hSS => ?_)
  generalize W5.drew = W6 at HB0 ⊢
  have HB : Hid _ := HB0.out
  clear HB0
  refine wpAnyH_take (i := 0) (v := ?vA0) rfl (by kernel_rfl) (by kernel_rfl) (by kernel_rfl) (fun _ _ _ h => h) (Or.inl ⟨by rfl, ?yA0⟩) hSS ?rA0
  case yA0 => (intro w' _; go_simp; try with_reducible rfl)
  case rA0 =>
  try simp only [Act.put, List.setIfInBounds_toArray, List.set_cons_zero, List.set_cons_succ, List.getElem_toArray, List.getElem_cons_zero, List.getElem_cons_succ]
  refine wpAnyH_take (i := 1) (v := ?vA1) rfl (by kernel_rfl) (by kernel_rfl) (by kernel_rfl) (fun _ _ _ h => h) (Or.inl ⟨by rfl, ?yA1⟩) hSS ?rA1
  case yA1 => (intro w' _; go_simp; try with_reducible rfl)
  case rA1 =>
  try simp only [Act.put, List.setIfInBounds_toArray, List.set_cons_zero, List.set_cons_succ, List.getElem_toArray, List.getElem_cons_zero, List.getElem_cons_succ]
  refine wpAnyH_take (i := 2) (v := ?vA2) rfl (by kernel_rfl) (by kernel_rfl) (by kernel_rfl) (fun _ _ _ h => h) (Or.inl ⟨by rfl, ?yA2⟩) hSS ?rA2
  case yA2 => (intro w' _; go_simp; try with_reducible rfl)
  case rA2 =>
  try simp only [Act.put, List.setIfInBounds_toArray, List.set_cons_zero, List.set_cons_succ, List.getElem_toArray, List.getElem_cons_zero, List.getElem_cons_succ]
  refine wpAnyH_take (i := 3) (v := ?vA3) rfl (by kernel_rfl) (by kernel_rfl) (by kernel_rfl) (fun _ _ _ h => h) (Or.inl ⟨by rfl, ?yA3⟩) hSS ?rA3
  case yA3 => (intro w' _; go_simp; try with_reducible rfl)
  case rA3 =>
  try simp only [Act.put, List.setIfInBounds_toArray, List.set_cons_zero, List.set_cons_succ, List.getElem_toArray, List.getElem_cons_zero, List.getElem_cons_succ]
  refine wpAnyH_take (i := 4) (v := ?vA4) rfl (by kernel_rfl) (by kernel_rfl) (by kernel_rfl) (fun _ _ _ h => h) (Or.inl ⟨by rfl, ?yA4⟩) hSS ?rA4
  case yA4 => (intro w' _; go_simp; try with_reducible rfl)
  case rA4 =>
  try simp only [Act.put, List.setIfInBounds_toArray, List.set_cons_zero, List.set_cons_succ, List.getElem_toArray, List.getElem_cons_zero, List.getElem_cons_succ]
  refine wpAnyH_take (i := 5) (v := ?vA5) rfl (by kernel_rfl) (by kernel_rfl) (by kernel_rfl) (fun _ _ _ h => h) (Or.inl ⟨by rfl, ?yA5⟩) hSS ?rA5
  case yA5 => (intro w' _; go_simp; try with_reducible rfl)
  case rA5 =>
  try simp only [Act.put, List.setIfInBounds_toArray, List.set_cons_zero, List.set_cons_succ, List.getElem_toArray, List.getElem_cons_zero, List.getElem_cons_succ]
  refine wpAnyH_take (i := 6) (v := ?vA6) rfl (by kernel_rfl) (by kernel_rfl) (by kernel_rfl) (fun _ _ _ h => h) (Or.inl ⟨by rfl, ?yA6⟩) hSS ?rA6
  case yA6 => (intro w' _; go_simp; try with_reducible rfl)
  case rA6 =>
  try simp only [Act.put, List.setIfInBounds_toArray, List.set_cons_zero, List.set_cons_succ, List.getElem_toArray, List.getElem_cons_zero, List.getElem_cons_succ]
  refine wpAnyH_take (i := 7) (v := ?vA7) rfl (by kernel_rfl) (by kernel_rfl) (by kernel_rfl) (fun _ _ _ h => h) (Or.inl ⟨by rfl, ?yA7⟩) hSS ?rA7
  case yA7 => (intro w' _; go_simp; try with_reducible rfl)
  case rA7 =>
  try simp only [Act.put, List.setIfInBounds_toArray, List.set_cons_zero, List.set_cons_succ, List.getElem_toArray, List.getElem_cons_zero, List.getElem_cons_succ]
  refine wpAnyH_take (i := 8) (v := ?vA8) rfl (by kernel_rfl) (by kernel_rfl) (by kernel_rfl) (fun _ _ _ h => h) (Or.inl ⟨by rfl, ?yA8⟩) hSS ?rA8
  case yA8 => (intro w' _; go_simp; try with_reducible rfl)
  case rA8 =>
  try simp only [Act.put, List.setIfInBounds_toArray, List.set_cons_zero, List.set_cons_succ, List.getElem_toArray, List.getElem_cons_zero, List.getElem_cons_succ]
  refine wpAnyH_take (i := 9) (v := ?vA9) rfl (by kernel_rfl) (by kernel_rfl) (by kernel_rfl) (fun _ _ _ h => h) (Or.inl ⟨by rfl, ?yA9⟩) hSS ?rA9
  case yA9 => (intro w' _; go_simp; try with_reducible rfl)
  case rA9 =>
  try simp only [Act.put, List.setIfInBounds_toArray, List.set_cons_zero, List.set_cons_succ, List.getElem_toArray, List.getElem_cons_zero, List.getElem_cons_succ]
  refine wpAnyH_ready (rs := [10]) (by kernel_rfl) (by simp) ?_
  refine AllReadyH.cons rfl (fun K hK => ?_) AllReadyH.nil
  obtain ⟨t3, t4, t5, t6, t7, t8, t9⟩ := tb_cells HB.out.t
  have tf := fun o => tb_frozen HB.out.t o
  dsimp only at t3 t4 t5 t6 t7 t8 t9
  have HB' : Hid _ := HB.out.kind 5
  clear HB
  have HB : Hid _ := HB'.out
  clear HB'
  go_simp
  try go_wp2_with fail
  refine hK.out _ _ (trivial) (fun hSS => ?_)
  clear hK K t3 t4 t5 t6 t7 t8 t9 tf
  try simp only [Act.put, List.setIfInBounds_toArray, List.set_cons_zero, List.set_cons_succ, List.getElem_toArray, List.getElem_cons_zero, List.getElem_cons_succ]
  refine wpAnyH_take (i := 11) (v := ?vB11) rfl (by kernel_rfl) (by kernel_rfl) (by kernel_rfl) (fun _ _ _ h => h) (Or.inl ⟨by rfl, ?yB11⟩) hSS ?rB11
  case yB11 => (intro w' _; go_simp; try with_reducible rfl)
  case rB11 =>
  try simp only [Act.put, List.setIfInBounds_toArray, List.set_cons_zero, List.set_cons_succ, List.getElem_toArray, List.getElem_cons_zero, List.getElem_cons_succ]
  refine wpAnyH_ready (rs := [12]) (by kernel_rfl) (by simp) ?_
  refine AllReadyH.cons rfl (fun K hK => ?_) AllReadyH.nil
  obtain ⟨t3, t4, t5, t6, t7, t8, t9⟩ := tb_cells HB.out.t
  have tf := fun o => tb_frozen HB.out.t o
  dsimp only at t3 t4 t5 t6 t7 t8 t9
  have HB' : Hid _ := HB.out.text (s.extract k (k + n))
  clear HB
  have HB : Hid _ := HB'.out
  clear HB'
  go_simp
  try go_wp2_with fail
  refine hK.out _ _ (trivial) (fun hSS => ?_)
  clear hK K t3 t4 t5 t6 t7 t8 t9 tf
  try simp only [Act.put, List.setIfInBounds_toArray, List.set_cons_zero, List.set_cons_succ, List.getElem_toArray, List.getElem_cons_zero, List.getElem_cons_succ]
  refine wpAnyH_take (i := 13) (v := ?vC13) rfl (by kernel_rfl) (by kernel_rfl) (by kernel_rfl) (fun _ _ _ h => h) (Or.inl ⟨by rfl, ?yC13⟩) hSS ?rC13
  case yC13 => (intro w' _; go_simp; try with_reducible rfl)
  case rC13 =>
  try simp only [Act.put, List.setIfInBounds_toArray, List.set_cons_zero, List.set_cons_succ, List.getElem_toArray, List.getElem_cons_zero, List.getElem_cons_succ]
  refine wpAnyH_ready (rs := [14]) (by kernel_rfl) (by simp) ?_
  refine AllReadyH.cons rfl (fun K hK => ?_) AllReadyH.nil
  obtain ⟨t3, t4, t5, t6, t7, t8, t9⟩ := tb_cells HB.out.t
  have tf := fun o => tb_frozen HB.out.t o
  dsimp only at t3 t4 t5 t6 t7 t8 t9
  have HB' : Hid _ := HB.out.fin ((k : Int) + (n : Int))
  clear HB
  have HB : Hid _ := HB'.out
  clear HB'
  go_simp
  try go_wp2_with fail
  refine hK.out _ _ (trivial) (fun hSS => ?_)
  clear hK K t3 t4 t5 t6 t7 t8 t9 tf
  try simp only [Act.put, List.setIfInBounds_toArray, List.set_cons_zero, List.set_cons_succ, List.getElem_toArray, List.getElem_cons_zero, List.getElem_cons_succ]
  refine wpAnyH_done (by kernel_rfl) ?_ _
  generalize ((W6.setCell ⟨T, 0, none⟩ (.int .i64 5)).setCell ⟨T, 1, none⟩ (.string (s.extract k (k + n)))).setCell ⟨T, 6, none⟩ (.int .i64 ((k : Int) + (n : Int))) = W7 at HB ⊢
  obtain ⟨t3, t4, t5, t6, t7, t8, t9⟩ := tb_cells HB.out.t
  obtain ⟨r3, r4, r5, r6, r7, r8, r9⟩ := tb_cells HB.out.r
  have tf := fun o => tb_frozen HB.out.t o
  have rf := fun o => tb_frozen HB.out.r o
  dsimp only [t0] at t3 t4 t5 t6 t7 t8 t9 r3 r4 r5 r6 r7 r8 r9
  have nRT : R ≠ T := by have := HB.out.lt; omega
  have nTR : T ≠ R := by have := HB.out.lt; omega
  have HKf : Hid (Kept No w W7 ∧ w.heap.size ≤ R) := ⟨HB.out.kept, HB.out.le⟩
  clear HB
  go_wp2_with fail
  refine bodyPost_ret (v := .tuple #[tv ⟨5, s.extract k (k + n), 0, 0, ⟨#[]⟩, k, (k + n : Nat)⟩, .int .i64 0]) (by simp [results, Tryz.results13, go_sem, tv, t3, t4, t5, t6, t7, t8, t9, r3, r4, r5, r6, r7, r8, r9, nRT, nTR]) rfl ⟨rfl, ?_⟩
  repeat refine Kept.set ?_ _ _ _ (Or.inr HKf.out.2)
  exact HKf.out.1
end Go.Proofs.YtidokamfppdnaaaGreatDoor
