/- Scope: what is found. -/
import Derived.Test.YtgkgpjbbmnfnmaaGreatDoorS15
namespace Go.Proofs.YtgkgpjbbmnfnmaaGreatDoor
open Go.RowKit
set_option linter.unusedSimpArgs false
set_option linter.unusedVariables false

def heldU (f : Int → Int → Int) (x : Us) : Us := { x with h := decide (0 < f x.o x.v) }
def mixU (s : St) (i : Nat) : List Us := (s.us.take i).map (heldU s.far) ++ s.us.drop i
theorem mixU_len (s : St) (i : Nat) : (mixU s i).length = s.us.length := by
  simp only [mixU, List.length_append, List.length_map, List.length_take, List.length_drop]
  omega
theorem mixU_at (s : St) (i : Nat) (h : i < s.us.length) (h' : i < (mixU s i).length) : (mixU s i)[i] = s.us[i] := by
  have e : (mixU s i)[i]? = some s.us[i] := by
    unfold mixU
    rw [List.getElem?_append_right (by simp; omega)]
    simp [Nat.min_eq_left (Nat.le_of_lt h), h]
  rw [List.getElem?_eq_getElem h'] at e
  exact Option.some.inj e
theorem mixU_succ (s : St) (i : Nat) (h : i < s.us.length) : mixU s (i + 1) = (mixU s i).set i (heldU s.far s.us[i]) := by
  unfold mixU
  rw [List.take_succ_eq_append_getElem h, List.map_append, List.append_assoc, List.set_append, if_neg (by simp; omega)]
  congr 1
  rw [List.length_map, List.length_take, Nat.min_eq_left (Nat.le_of_lt h), Nat.sub_self, List.drop_eq_getElem_cons h, List.set_cons_zero]
  rfl
theorem mixU_end (s : St) : mixU s s.us.length = s.us.map (heldU s.far) := by
  unfold mixU
  simp
theorem flU_set : ∀ (l : List Us) (i : Nat) (h : i < l.length) (b : Bool), (flU l).set (i * 6 + 5) (.bool b) = flU (l.set i { l[i] with h := b })
  | [], i, h, b => by simp at h
  | e :: r, 0, h, b => by
    simp only [flU, List.map_cons, List.flatten_cons, Nat.zero_mul, Nat.zero_add, List.getElem_cons_zero, List.set_cons_zero]
    rw [List.set_append, if_pos (by simp [usC])]
    rfl
  | e :: r, i + 1, h, b => by
    have := flU_set r i (by simpa using h) b
    simp only [flU, List.map_cons, List.flatten_cons, List.getElem_cons_succ, List.set_cons_succ] at this ⊢
    rw [List.set_append, if_neg (by simp [usC]; omega), show (i + 1) * 6 + 5 - (usC e).length = i * 6 + 5 by simp [usC]; omega, this]
theorem Rv.uslice {w : World} {r sb M nm B : Nat} {v u : Value} {s : St} (h : Rv w r sb M nm B v u s) : ∃ ao cap, u = .slice ao s.us.length cap ∧ (s.us ≠ [] → ∃ g, ao = some ⟨g, 0, none⟩) ∧ ((∃ g, ao = some ⟨g, 0, none⟩) ∨ ao = none) := by
  obtain ⟨o1, ⟨o2, o3⟩ | ⟨g, cap, cur, o3, _⟩⟩ := h.row
  · exact ⟨none, 0, by rw [o3]; exact o2, fun e => absurd (List.length_eq_zero_iff.1 o3) e, .inr rfl⟩
  · exact ⟨_, cap, o3, fun _ => ⟨g, rfl⟩, .inl ⟨g, rfl⟩⟩
theorem bstore_op {o : Oper} {a : Act} {w : World} {g k : Nat} {x y : Tmp} {b c : Bool} (hp : o.op = .store 4 (.tmp x) (.tmp y)) (e : a.eval (.tmp x) = .pointer (some ⟨g, k, none⟩)) (e2 : a.eval (.tmp y) = .bool b) (h : w.cell? ⟨g, k, none⟩ = some (.bool c)) (hf : w.frozen? ⟨g, k, none⟩ = false) :
    (execOp a.eval o).run Tryz.prog w = .ok .skip (w.setCell ⟨g, k, none⟩ (.bool b)) := by
  unfold execOp
  rw [hp]
  simp only [e, e2]
  go_simp
/-- A cell of the uses' row is written. -/
theorem Rv.held {w : World} {r sb M nm B g n cap : Nat} {v : Value} {s : St} {L : List Us} (hn : L.length = n) (h : Rv w r sb M nm B v (.slice (some ⟨g, 0, none⟩) n cap) { s with us := L }) (i : Nat) (hi : i < L.length) (b : Bool) :
    Rv (w.setCell ⟨g, i * 6 + 5, none⟩ (.bool b)) r sb M nm B v (.slice (some ⟨g, 0, none⟩) n cap) { s with us := L.set i { L[i] with h := b } } ∧ Kept (RZ r sb M v (.slice (some ⟨g, 0, none⟩) n cap)) w (w.setCell ⟨g, i * 6 + 5, none⟩ (.bool b)) := by
  subst hn
  have hk : Kept (fun k => k = g) w (w.setCell ⟨g, i * 6 + 5, none⟩ (.bool b)) := (Kept.refl (fun k => k = g) w).set g _ _ (.inl rfl)
  obtain ⟨es, mc, hm⟩ := h.map.blk
  obtain ⟨c2, hg⟩ := row_blk h.row (b := g) rfl
  have hs := (World.ownsRow.stored h.row (i * 6 + 5) (.bool b)).1
  refine ⟨⟨hk.heap h.box (fun e => apart h.box hg (by decide) e), ⟨hk.heap h.stk.box (fun e => apart h.stk.box hg (by decide) e), ?_, h.stk.lt, Nat.le_trans h.stk.le hk.size⟩, ?_, h.map.kept hk (fun e => apart_map hg hm e.symm), h.lt⟩, hk.mono (fun b e => .inr (.inr (.inr (.inr (by rw [e]; rfl)))))⟩
  · obtain ⟨o1, o2 | ⟨g', cap', cur, o3, o4, o5, o6⟩⟩ := h.stk.row
    · exact ⟨o1, .inl o2⟩
    · exact ⟨o1, .inr ⟨g', cap', cur, o3, o4, hk.heap o5 (fun e => apart o5 hg (by decide) e), o6⟩⟩
  · rw [flU_set L i hi b] at hs
    show World.ownsRow _ _ _ _ _ (L.set i _).length _
    rw [List.length_set]
    exact hs
set_option maxRecDepth 20000 in
set_option maxHeartbeats 4000000 in
theorem found_any {R0 N B : Nat} {w : World} {r sb M nm : Nat} {v u : Value} {s : St} (h : Rz R0 N B w r sb M nm v u s) (hN : N ≤ 90000) :
    Calls Tryz.prog 21 #[PT r] w fun e w' => ∃ L, ∃ ao cap, e = .returned (.slice ao L.length cap) ∧ L.Perm (s.us.map (heldU s.far)) ∧ L.Pairwise (fun x y => x.a ≤ y.a) ∧ w'.ownsRow B 36 6 (.slice ao L.length cap) L.length (flU L) ∧ Kept (RZ r sb M v u) w w' := by
  obtain ⟨ao, cap, rfl, hao, hal⟩ := h.rv.uslice
  have H0 : Hid (Rz R0 N B w r sb M nm v (.slice ao s.us.length cap) s) := h
  have hus := h.sml.us
  obtain ⟨n, HNn⟩ : ∃ n, Hid (s.us.length = n) := ⟨_, show _ = _ from rfl⟩
  have HA : Hid (s.us ≠ [] → ∃ g, ao = some ⟨g, 0, none⟩) := hao
  have HAl : Hid ((∃ g, ao = some ⟨g, 0, none⟩) ∨ ao = none) := hal
  rw [HNn.out] at hus H0 ⊢
  obtain ⟨c0, c1, c2, c3, c4, c5, c6, c7, c8, c9, c10, c11⟩ := RC_cells H0.out.rv.box
  clear c0 c1 c2 c3 c4 c5 c6 c7 c8 c10 c11 h hao hal
  go_enter Tryz.func21, Tryz.ntmps21
  go_wp2_with fail
  clear c9
  go_loopw [10] (fun i wr => ∃ j : Nat, j ≤ n ∧ i = .int .i64 (j : Int) ∧ Hid (Rv wr r sb M nm B v (.slice ao n cap) { s with us := mixU s j }) ∧ Hid (Kept (RZ r sb M v (.slice ao n cap)) w wr)) (fun i _ => n - (intOf i).toNat)
  case atStart => exact ⟨0, by omega, rfl, H0.out.rv, Kept.refl _ _⟩
  case round =>
    obtain ⟨j, hj, rfl, HR, HK⟩ := hrel
    by_cases hlt : j < n
    · have k1 : (j : Int) < (n : Int) := by omega
      have j1 : j < s.us.length := by rw [HNn.out]; exact hlt
      obtain ⟨g, rfl⟩ := HA.out (by intro e; rw [e] at j1; simp at j1)
      have j2 : j < (mixU s j).length := by rw [mixU_len]; exact j1
      have HSu : Hid (mixU s (j + 1) = (mixU s j).set j { (mixU s j)[j] with h := decide (0 < s.far (mixU s j)[j].o (mixU s j)[j].v) }) := by rw [mixU_at s j j1]; exact mixU_succ s j j1
      have hwf := H0.out.sml.use _ (List.getElem_mem j1)
      rw [← mixU_at s j j1 j2] at hwf
      obtain ⟨L, HL⟩ : ∃ L, Hid (mixU s j = L) := ⟨_, show _ = _ from rfl⟩
      have HLl : Hid (L.length = n) := by show _ = _; rw [← HL.out, mixU_len]; exact HNn.out
      have hcl : ∀ k, k < 6 → wr.cell? ⟨g, j * 6 + k, none⟩ = (usC (mixU s j)[j])[k]? := fun k hk => by
        have h1 := HR.out.row
        have h2 : (mixU s j).length = n := by rw [mixU_len]; exact HNn.out
        dsimp only at h1
        rw [h2] at h1
        rw [World.ownsRow.cellAt h1 _ (by omega), flU_at _ j j2 k hk]
      obtain ⟨x, HX⟩ : ∃ x, Hid ((mixU s j)[j] = x) := ⟨_, show _ = _ from rfl⟩
      have HXL : Hid (∃ h : j < L.length, L[j] = x) := ⟨by rw [← HL.out]; exact j2, by rw [← HX.out]; simp only [← HL.out]⟩
      rw [HX.out] at hwf hcl HSu
      rw [HL.out] at HR HSu
      have z0 := hcl 0 (by omega)
      have z1 := hcl 1 (by omega)
      have z2 := hcl 2 (by omega)
      have z3 := hcl 3 (by omega)
      have z4 := hcl 4 (by omega)
      have z5 := hcl 5 (by omega)
      simp only [usC, List.getElem?_cons_zero, List.getElem?_cons_succ, Nat.add_zero] at z0 z1 z2 z3 z4 z5
      obtain ⟨W0, HW0⟩ : ∃ W0, Hid (wr.alloc (.cells #[.int .i64 x.a, .string x.t, .int .i64 x.f, .int .i64 x.o, .int .i64 x.v, .bool x.h] 36) = W0) := ⟨_, show _ = _ from rfl⟩
      obtain ⟨S, HS⟩ : ∃ S, Hid (wr.heap.size = S) := ⟨_, show _ = _ from rfl⟩
      have k0 : Kept No wr W0 := by rw [← HW0.out]; exact (Kept.refl No wr).alloc _
      have b0 : W0.heap[S]? = some (.cells #[.int .i64 x.a, .string x.t, .int .i64 x.f, .int .i64 x.o, .int .i64 x.v, .bool x.h] 36 (0, 0)) := by rw [← HS.out]; exact HW0.out ▸ World.alloc_heap_new wr _
      have kd : Kept No W0 W0.drew := (Kept.refl No W0).drew
      have H1 : Hid (Rv W0.drew r sb M nm B v (.slice (some ⟨g, 0, none⟩) n cap) { s with us := L } ∧ Kept (RZ r sb M v (.slice (some ⟨g, 0, none⟩) n cap)) w W0.drew ∧ W0.drew.heap[S]? = some (.cells #[.int .i64 x.a, .string x.t, .int .i64 x.f, .int .i64 x.o, .int .i64 x.v, .bool x.h] 36 (0, 0)) ∧ W0.drew.cell? ⟨g, j * 6 + 5, none⟩ = some (.bool x.h)) := ⟨(HR.out.no k0).no kd, (HK.out.trans (k0.trans kd).no), kd.heap b0 id, kept_cell (k0.trans kd) id z5⟩
      obtain ⟨fv, HV⟩ : ∃ fv, Hid (s.far x.o x.v = fv) := ⟨_, show _ = _ from rfl⟩
      have hlk := H1.out.1.map.look (wf_int hwf.1 (by have := hwf.2.1; omega)) (wf_int hwf.2.2.1 (by have := hwf.2.2.2; omega))
      dsimp only at hlk
      rw [HV.out] at hlk
      clear hcl hwf HR HK kd k0 b0
      go_wp2_with fail
      rw [HW0.out, HS.out]
      clear HW0 z0 z1 z2 z3 z4 z5
      obtain ⟨c0, c1, c2, c3, c4, c5, c6, c7, c8, c9, c10, c11⟩ := RC_cells H1.out.1.box
      have t3 := cell_of H1.out.2.2.1 3
      have t4 := cell_of H1.out.2.2.1 4
      simp only [List.getElem?_toArray, List.getElem?_cons_zero, List.getElem?_cons_succ] at t3 t4
      refine regionU (fun Y => Y.cell? ⟨r, 9, none⟩ = some (.slice (some ⟨g, 0, none⟩) n cap) ∧ Y.cell? ⟨r, 8, none⟩ = some (.map (some M)) ∧ Y.cell? ⟨S, 3, none⟩ = some (.int .i64 x.o) ∧ Y.cell? ⟨S, 4, none⟩ = some (.int .i64 x.v) ∧ (Instr.lookup 67 (.map (some M)) (.agg #[.int .i64 x.o, .int .i64 x.v]) false).run Tryz.prog Y = .ok (.int .i64 fv) Y) 18 ⟨c9, c8, t3, t4, hlk⟩ (fun hSS => ?_)
      generalize W0.drew = Y at H1 hSS ⊢
      clear c0 c1 c2 c3 c4 c5 c6 c7 c8 c9 c10 c11 t3 t4 hlk
      refine tkU 0 (PT r) rfl hSS ?_ (hy := by rintro w' ⟨g1, g2, g3, g4, g5⟩; go_simp)
      try simp only [Act.put, List.setIfInBounds_toArray, List.set_cons_zero, List.set_cons_succ, List.getElem_toArray, List.getElem_cons_zero, List.getElem_cons_succ]
      refine tkU 1 (PT r) rfl hSS ?_ (hy := by rintro w' ⟨g1, g2, g3, g4, g5⟩; go_simp)
      try simp only [Act.put, List.setIfInBounds_toArray, List.set_cons_zero, List.set_cons_succ, List.getElem_toArray, List.getElem_cons_zero, List.getElem_cons_succ]
      refine tkU 2 (.pointer (some ⟨r, 9, none⟩)) rfl hSS ?_ (hy := by rintro w' ⟨g1, g2, g3, g4, g5⟩; go_simp)
      try simp only [Act.put, List.setIfInBounds_toArray, List.set_cons_zero, List.set_cons_succ, List.getElem_toArray, List.getElem_cons_zero, List.getElem_cons_succ]
      refine tkU 3 (.slice (some ⟨g, 0, none⟩) n cap) rfl hSS ?_ (hy := by rintro w' ⟨g1, g2, g3, g4, g5⟩; go_simp)
      try simp only [Act.put, List.setIfInBounds_toArray, List.set_cons_zero, List.set_cons_succ, List.getElem_toArray, List.getElem_cons_zero, List.getElem_cons_succ]
      refine tkU 4 (.int .i64 (j : Int)) rfl hSS ?_ (hy := by rintro w' ⟨g1, g2, g3, g4, g5⟩; go_simp)
      try simp only [Act.put, List.setIfInBounds_toArray, List.set_cons_zero, List.set_cons_succ, List.getElem_toArray, List.getElem_cons_zero, List.getElem_cons_succ]
      refine tkU 5 (PT r) rfl hSS ?_ (hy := by rintro w' ⟨g1, g2, g3, g4, g5⟩; go_simp)
      try simp only [Act.put, List.setIfInBounds_toArray, List.set_cons_zero, List.set_cons_succ, List.getElem_toArray, List.getElem_cons_zero, List.getElem_cons_succ]
      refine tkU 6 (PT r) rfl hSS ?_ (hy := by rintro w' ⟨g1, g2, g3, g4, g5⟩; go_simp)
      try simp only [Act.put, List.setIfInBounds_toArray, List.set_cons_zero, List.set_cons_succ, List.getElem_toArray, List.getElem_cons_zero, List.getElem_cons_succ]
      refine tkU 7 (.pointer (some ⟨r, 8, none⟩)) rfl hSS ?_ (hy := by rintro w' ⟨g1, g2, g3, g4, g5⟩; go_simp)
      try simp only [Act.put, List.setIfInBounds_toArray, List.set_cons_zero, List.set_cons_succ, List.getElem_toArray, List.getElem_cons_zero, List.getElem_cons_succ]
      refine tkU 8 (.map (some M)) rfl hSS ?_ (hy := by rintro w' ⟨g1, g2, g3, g4, g5⟩; go_simp)
      try simp only [Act.put, List.setIfInBounds_toArray, List.set_cons_zero, List.set_cons_succ, List.getElem_toArray, List.getElem_cons_zero, List.getElem_cons_succ]
      refine tkU 9 (.pointer (some ⟨S, 3, none⟩)) rfl hSS ?_ (hy := by rintro w' ⟨g1, g2, g3, g4, g5⟩; go_simp)
      try simp only [Act.put, List.setIfInBounds_toArray, List.set_cons_zero, List.set_cons_succ, List.getElem_toArray, List.getElem_cons_zero, List.getElem_cons_succ]
      refine tkU 10 (.int .i64 x.o) rfl hSS ?_ (hy := by rintro w' ⟨g1, g2, g3, g4, g5⟩; go_simp)
      try simp only [Act.put, List.setIfInBounds_toArray, List.set_cons_zero, List.set_cons_succ, List.getElem_toArray, List.getElem_cons_zero, List.getElem_cons_succ]
      refine tkU 11 (.pointer (some ⟨S, 4, none⟩)) rfl hSS ?_ (hy := by rintro w' ⟨g1, g2, g3, g4, g5⟩; go_simp)
      try simp only [Act.put, List.setIfInBounds_toArray, List.set_cons_zero, List.set_cons_succ, List.getElem_toArray, List.getElem_cons_zero, List.getElem_cons_succ]
      refine tkU 12 (.int .i64 x.v) rfl hSS ?_ (hy := by rintro w' ⟨g1, g2, g3, g4, g5⟩; go_simp)
      try simp only [Act.put, List.setIfInBounds_toArray, List.set_cons_zero, List.set_cons_succ, List.getElem_toArray, List.getElem_cons_zero, List.getElem_cons_succ]
      refine tkU 13 (.agg #[.int .i64 x.o, .int .i64 x.v]) rfl hSS ?_ (hy := by rintro w' ⟨g1, g2, g3, g4, g5⟩; go_simp)
      try simp only [Act.put, List.setIfInBounds_toArray, List.set_cons_zero, List.set_cons_succ, List.getElem_toArray, List.getElem_cons_zero, List.getElem_cons_succ]
      refine tkU 14 (.int .i64 fv) rfl hSS ?_ (hy := by rintro w' ⟨g1, g2, g3, g4, g5⟩; simp [execOp, Act.eval, g5, Result.andThen])
      try simp only [Act.put, List.setIfInBounds_toArray, List.set_cons_zero, List.set_cons_succ, List.getElem_toArray, List.getElem_cons_zero, List.getElem_cons_succ]
      refine tkU 15 (.bool (decide (0 < fv))) rfl hSS ?_ (hy := by rintro w' ⟨g1, g2, g3, g4, g5⟩; go_simp)
      try simp only [Act.put, List.setIfInBounds_toArray, List.set_cons_zero, List.set_cons_succ, List.getElem_toArray, List.getElem_cons_zero, List.getElem_cons_succ]
      have k2 : (0 : Int) ≤ (j : Int) := by omega
      refine tkU 16 (.pointer (some ⟨g, j * 6, none⟩)) rfl hSS ?_ (hy := by rintro w' ⟨g1, g2, g3, g4, g5⟩; go_simp)
      try simp only [Act.put, List.setIfInBounds_toArray, List.set_cons_zero, List.set_cons_succ, List.getElem_toArray, List.getElem_cons_zero, List.getElem_cons_succ]
      refine tkU 17 (.pointer (some ⟨g, j * 6 + 5, none⟩)) rfl hSS ?_ (hy := by rintro w' ⟨g1, g2, g3, g4, g5⟩; go_simp)
      try simp only [Act.put, List.setIfInBounds_toArray, List.set_cons_zero, List.set_cons_succ, List.getElem_toArray, List.getElem_cons_zero, List.getElem_cons_succ]
      have hfz := World.ownsRow.frozenAt (by have h1 := H1.out.1.row; dsimp only at h1; rw [HLl.out] at h1; exact h1) (j * 6 + 5)
      refine rdO (i := 18) (p := .store 4 (.tmp 32) (.tmp 30)) ⟨_, rfl, rfl, rfl, rfl, rfl⟩ (fun oo K hd hp ht hK => ?_) (by kernel_rfl)
      unfold Oper.wp
      rw [bstore_op hp rfl rfl H1.out.2.2.2 hfz]
      refine hK _ _ (fun e => absurd rfl e) ?_
      rw [hd]
      clear hK K hd hp ht oo hSS hfz
      try simp only [Act.put, List.setIfInBounds_toArray, List.set_cons_zero, List.set_cons_succ, List.getElem_toArray, List.getElem_cons_zero, List.getElem_cons_succ]
      refine dnU ?_ (by kernel_rfl) _
      obtain ⟨hjL, hxL⟩ := HXL.out
      have hE := Rv.held HLl.out H1.out.1 j hjL (decide (0 < fv))
      have HE : Hid (Rv (Y.setCell ⟨g, j * 6 + 5, none⟩ (.bool (decide (0 < fv)))) r sb M nm B v (.slice (some ⟨g, 0, none⟩) n cap) { s with us := mixU s (j + 1) } ∧ Kept (RZ r sb M v (.slice (some ⟨g, 0, none⟩) n cap)) w (Y.setCell ⟨g, j * 6 + 5, none⟩ (.bool (decide (0 < fv))))) := by
        refine ⟨?_, H1.out.2.1.trans hE.2⟩
        rw [HSu.out, HV.out]
        have := hE.1
        rw [hxL] at this
        exact this
      clear hE H1
      generalize Y.setCell ⟨g, j * 6 + 5, none⟩ (.bool (decide (0 < fv))) = Z at HE ⊢
      go_wp2_with fail
      go_roundw
      case rel => exact ⟨j + 1, by omega, by go_num, HE.out.1, HE.out.2⟩
      all_goals (simp only [intOf, Int.toNat_natCast]; omega)
    · have k1 : ¬ (j : Int) < (n : Int) := by omega
      obtain rfl : j = n := by omega
      have HE : Hid (Rv wr r sb M nm B v (.slice ao j cap) { s with us := s.us.map (heldU s.far) }) := by
        have := HR.out
        rw [← HNn.out, mixU_end, HNn.out] at this
        exact this
      have HEl : Hid ((s.us.map (heldU s.far)).length = j) := by show _ = _; rw [List.length_map]; exact HNn.out
      obtain ⟨c0, c1, c2, c3, c4, c5, c6, c7, c8, c9, c10, c11⟩ := RC_cells HE.out.box
      clear HR c0 c1 c2 c3 c4 c5 c6 c7 c8 c10 c11
      have HSo : Hid (Calls Tryz.prog 40 #[.slice ao j cap, .func (.func 41) #[] #[]] wr fun e w' => e = .returned (.tuple #[]) ∧ ∃ L, L.length = j ∧ L.Perm (s.us.map (heldU s.far)) ∧ L.Pairwise (fun x y => x.a ≤ y.a) ∧ w'.ownsRow B 36 6 (.slice ao j cap) j (flU L) ∧ Kept (RZ r sb M v (.slice ao j cap)) wr w' ∧ w'.cell? ⟨r, 9, none⟩ = some (.slice ao j cap)) := by
        have hrow := HE.out.row
        dsimp only at hrow
        rcases HAl.out with ⟨g, rfl⟩ | rfl
        · have h1 := hrow
          rw [HEl.out] at h1
          have := sort_any (L := s.us.map (heldU s.far)) (cap := cap) (g := g) (B := B) (w := wr) (by rw [HEl.out]; exact h1) (by rw [HEl.out]; omega)
          rw [HEl.out] at this
          refine this.mono ?_
          rintro e w' ⟨rfl, L, hp, hs, hr, hk⟩
          have hl : L.length = j := by rw [hp.length_eq]; exact HEl.out
          obtain ⟨c2, hg⟩ := row_blk h1 (b := g) rfl
          exact ⟨rfl, L, hl, hp, hs, by rw [hl] at hr; exact hr, hk.mono (fun b e => .inr (.inr (.inr (.inr (by rw [e]; rfl))))), kept_cell hk (fun e => apart HE.out.box hg (by decide) e) c9⟩
        · have hj0 : j = 0 := by
            rw [HEl.out] at hrow
            obtain ⟨_, ⟨_, o3⟩ | ⟨g, cap', cur, o3, _⟩⟩ := hrow
            · exact o3
            · simp at o3
          subst hj0
          refine (sort_none none cap _ wr).mono ?_
          rintro e w' ⟨rfl, rfl⟩
          have hnil := List.length_eq_zero_iff.1 HEl.out
          exact ⟨rfl, [], rfl, by rw [hnil], by simp, by rw [hnil] at hrow; exact hrow, Kept.refl _ _, c9⟩
      go_wp2_with fail
      refine Calls.mono HSo.out ?_
      rintro e W6 ⟨rfl, L, hl, hp, hs, hr, hk, c9'⟩
      have HF : Hid _ := And.intro hl (And.intro hp (And.intro hs (And.intro hr (HK.out.trans hk))))
      clear hl hp hs hr hk HSo HE c9
      go_wp2_with fail
      go_ret
      refine ⟨L, ao, cap, by rw [HF.out.1]; rfl, HF.out.2.1, HF.out.2.2.1, ?_, HF.out.2.2.2.2⟩
      rw [HF.out.1]
      exact HF.out.2.2.2.1
end Go.Proofs.YtgkgpjbbmnfnmaaGreatDoor
