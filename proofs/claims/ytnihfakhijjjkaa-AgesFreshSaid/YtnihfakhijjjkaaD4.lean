/- What is so while the slots of the view are made. -/
import Derived.Test.YtnihfakhijjjkaaD2
namespace Go.Proofs.Ytnihfakhijjjkaa
open Go.RowKit
set_option linter.unusedSimpArgs false
set_option linter.unusedVariables false

/-- The first i objects have their slots, object i has Lk of them. -/
structure St (w : World) (I : Obj) (vb rb cap : Nat) (mdv : Int) (S : List Sn) (i Bi : Nat) (W : World) (vs : Nat → Value) (Lk : List V) : Prop where
  kp : Kept No w W
  ib : W.heap[w.heap.size]? = some I
  vx : W.heap[vb]? = some (BV mdv 0 1 (.slice (some ⟨rb, 0, none⟩) S.length cap) (.slice none 0 0) (.slice none 0 0) (.slice none 0 0))
  fs : FS W rb S.length (fun j => (snAt S j).kind) vs
  old : ∀ j, j < i → RdB W Bi (vs j) ((snAt S j).sl.map (fixV S))
  row : URow W Bi (vs i) Lk
  nw : ∀ j, i < j → vs j = .slice none 0 0
  sz : Bi ≤ W.heap.size
  lo : w.heap.size < rb ∧ w.heap.size < Bi
theorem St.no {w : World} {I : Obj} {vb rb cap : Nat} {mdv : Int} {S : List Sn} {i Bi : Nat} {W W' : World} {vs : Nat → Value} {Lk : List V} (h : St w I vb rb cap mdv S i Bi W vs Lk) (hk : Kept No W W') : St w I vb rb cap mdv S i Bi W' vs Lk := by
  obtain ⟨c, hc⟩ := h.fs.typ
  exact ⟨h.kp.trans hk, hk.heap h.ib id, hk.heap h.vx id, h.fs.same (by rw [hc]; exact hk.heap hc id), fun j hj => (h.old j hj).turn (Nat.le_refl _) (fun k cs _ hh => hk.heap hh id), h.row.no hk, h.nw, Nat.le_trans h.sz hk.size, h.lo⟩
theorem St.cell {w : World} {I : Obj} {vb rb cap : Nat} {mdv : Int} {S : List Sn} {i Bi : Nat} {W : World} {vs : Nat → Value} {Lk : List V} (h : St w I vb rb cap mdv S i Bi W vs Lk) {j : Nat} (hj : j < S.length) : W.cell? ⟨rb, j * 8 + 1, none⟩ = some (.int .i64 (snAt S j).kind) ∧ W.cell? ⟨rb, j * 8 + 4, none⟩ = some (vs j) ∧ W.frozen? ⟨rb, j * 8 + 4, none⟩ = false := by
  obtain ⟨cur, h1, h2⟩ := h.fs
  obtain ⟨a0, a1, a2, a3, a4, a5, a6, a7⟩ := h2 j hj
  exact ⟨by rw [cell_of h1]; exact a1, by rw [cell_of h1]; exact a4, frozen_of h1 _⟩
/-- A value is appended to object i's slots. -/
theorem St.step {w : World} {I : Obj} {vb rb cap : Nat} {mdv : Int} {S : List Sn} {i Bi : Nat} {W W' : World} {vs : Nat → Value} {Lk : List V} (h : St w I vb rb cap mdv S i Bi W vs Lk) (hI : ∃ c f, I = .cells c 30 f) (hi : i < S.length) {v' : Value} {e : V}
    (hg : W.grownBy W' (vs i).ownBlock) (hr : URow W' Bi v' (Lk ++ [e])) :
    St w I vb rb cap mdv S i Bi (W'.setCell ⟨rb, i * 8 + 4, none⟩ v') (fun j => if j = i then v' else vs j) (Lk ++ [e]) ∧ (W'.cell? ⟨rb, i * 8 + 4, none⟩ = some (vs i) ∧ W'.frozen? ⟨rb, i * 8 + 4, none⟩ = false) ∧
      W'.heap[vb]? = some (BV mdv 0 1 (.slice (some ⟨rb, 0, none⟩) S.length cap) (.slice none 0 0) (.slice none 0 0) (.slice none 0 0)) ∧ ∀ k o, W.heap[k]? = some o → (∀ g, (vs i).ownBlock = some g → g ≠ k) → W'.heap[k]? = some o := by
  have keep : ∀ k o, W.heap[k]? = some o → (∀ g, (vs i).ownBlock = some g → g ≠ k) → W'.heap[k]? = some o := fun k o hk hn => by
    rw [hg.block k (hp_lt hk) (fun e => hn k e.symm rfl)]; exact hk
  have keepT : ∀ (k : Nat) (c : Array Value) (e : TypeId) (f : Nat × Nat), W.heap[k]? = some (Obj.cells c e f) → e ≠ 38 → W'.heap[k]? = some (Obj.cells c e f) := fun k c e f hk he => keep k _ hk (fun g hgo hgk => by
    obtain ⟨_, c', hc'⟩ := h.row.block hgo
    rw [hgk, hk] at hc'
    injection hc' with hc'
    injection hc' with _ hc'
    exact he hc')
  obtain ⟨cur, hf1, hf2⟩ := h.fs
  have hf1' := keepT _ _ _ _ hf1 (by decide)
  have fs' : FS W' rb S.length (fun j => (snAt S j).kind) vs := ⟨cur, hf1', hf2⟩
  have hvx' := keepT _ _ _ _ h.vx (by decide)
  obtain ⟨ci, fi, rfl⟩ := hI
  have hib' := keepT _ _ _ _ h.ib (by decide)
  have hvr : vb ≠ rb := by rintro rfl; rw [h.vx] at hf1; cases hf1
  have hir : w.heap.size ≠ rb := by have := h.lo; omega
  have hkg : Kept No w W' := h.kp.grown hg (fun k e => .inr (by have := (h.row.block e).1; have := h.lo.2; omega))
  refine ⟨⟨hkg.set _ _ _ (.inr (by have := h.lo; omega)), hp_set_other hib' _ _ hir, hp_set_other hvx' _ _ hvr, fs'.set hi v', fun j hj => ?_, ?_, fun j hj => ?_, ?_, h.lo⟩, ⟨?_, ?_⟩, hvx', keep⟩
  · rw [if_neg (by omega)]
    refine (h.old j hj).turn (Nat.le_refl _) (fun k cs hk hh => ?_)
    refine hp_set_other (keep k _ hh (fun g hgo hgk => ?_)) _ _ ?_
    · have := (h.row.block hgo).1; omega
    · rintro rfl; rw [hf1] at hh; cases hh
  · rw [if_pos rfl]
    refine hr.turn (fun k e' => ?_)
    obtain ⟨_, c, hc⟩ := hr.block e'
    refine Below.heap_setCell _ _ _ _ ?_
    rintro rfl
    rw [hf1'] at hc; cases hc
  · rw [if_neg (by omega)]; exact h.nw j hj
  · have := hg.size; have := h.sz; simp [World.setCell]; omega
  · rw [cell_of hf1']; exact (hf2 i hi).2.2.2.2.1
  · exact frozen_of hf1' _
/-- Object i is ready. -/
theorem St.next {w : World} {I : Obj} {vb rb cap : Nat} {mdv : Int} {S : List Sn} {i Bi : Nat} {W : World} {vs : Nat → Value} {Lk : List V} (h : St w I vb rb cap mdv S i Bi W vs Lk) (hL : Lk = (snAt S i).sl.map (fixV S)) : St w I vb rb cap mdv S (i + 1) W.heap.size W vs [] := by
  refine ⟨h.kp, h.ib, h.vx, h.fs, fun j hj => ?_, ?_, fun j hj => h.nw j (by omega), Nat.le_refl _, h.lo.1, by have := h.lo.2; have := h.sz; omega⟩
  · by_cases e : j = i
    · subst e; rw [← hL]; exact h.row.rdB
    · exact (h.old j (by omega)).turn h.sz (fun k cs _ hh => hh)
  · rw [h.nw (i + 1) (by omega)]; exact URow.nil _ _
/-- All are ready: the view. -/
theorem St.rds {w : World} {I : Obj} {vb rb cap : Nat} {mdv : Int} {S : List Sn} {Bi : Nat} {W : World} {vs : Nat → Value} {Lk : List V} (h : St w I vb rb cap mdv S S.length Bi W vs Lk) : RdS W (.slice (some ⟨rb, 0, none⟩) S.length cap) (freshS S) := by
  refine ⟨some ⟨rb, 0, none⟩, cap, by rw [fresh_len], fun j hj => ?_⟩
  have hj' : j < S.length := by rw [fresh_len] at hj; exact hj
  obtain ⟨cur, h1, h2⟩ := h.fs
  obtain ⟨a0, a1, a2, a3, a4, a5, a6, a7⟩ := h2 j hj'
  have c := cell_of h1
  rw [fresh_get S j hj]
  exact ⟨rb, 0, vs j, rfl, by rw [c, Nat.zero_add]; exact a0, by rw [c, Nat.zero_add]; exact a1, by rw [c, Nat.zero_add]; exact a2, by rw [c, Nat.zero_add]; exact a3, by rw [c, Nat.zero_add]; exact a4, by rw [c, Nat.zero_add]; exact a5, by rw [c, Nat.zero_add]; exact a6, by rw [c, Nat.zero_add]; exact a7, (h.old j hj').1⟩
theorem fix_wf {S : List Sn} {v : V} (h : wf v.1 ∧ wf v.2) : wf (fixV S v).1 ∧ wf (fixV S v).2 := by
  unfold fixV
  split
  · exact ⟨rfl, rfl⟩
  · exact h
theorem wf_small {n : Nat} (h : n ≤ 100) : wf ((n : Int) + 1) := by
  have h1 : IntKind.i64.min = -9223372036854775808 := by decide
  have h2 : IntKind.i64.max = 9223372036854775807 := by decide
  unfold wf Lit.wf
  simp [h1, h2]
  omega
/-- What Audit asks of the view. -/
theorem fresh_ok {S : List Sn} (hn : S.length ≤ 60) (hl : ∀ s ∈ S, s.sl.length ≤ 600) (hw : ∀ s ∈ S, wf s.kind ∧ ∀ q ∈ s.sl, wf q.1 ∧ wf q.2) : (∀ s ∈ freshS S, s.sl.length ≤ 600) ∧ ∀ s ∈ freshS S, (wf s.kind ∧ wf s.h) ∧ ∀ v ∈ s.sl, wf v.1 ∧ wf v.2 := by
  constructor
  · intro s hs
    obtain ⟨j, hj, rfl⟩ := fresh_mem hs
    rw [snAt_eq hj]
    simp only [List.length_map]
    exact hl _ (List.getElem_mem hj)
  · intro s hs
    obtain ⟨j, hj, rfl⟩ := fresh_mem hs
    rw [snAt_eq hj]
    refine ⟨⟨(hw _ (List.getElem_mem hj)).1, wf_small (by omega)⟩, fun v hv => ?_⟩
    obtain ⟨u, hu, rfl⟩ := List.mem_map.1 hv
    exact fix_wf ((hw _ (List.getElem_mem hj)).2 u hu)
theorem Audit_fresh {w : World} {so : Option Addr} {sc : Nat} {S : List Sn} {mdv : Int} (hm : mdv = 0 ∨ mdv = 1) (hS : RdS w (.slice so S.length sc) (freshS S)) (hn : S.length ≤ 60) (hl : ∀ s ∈ S, s.sl.length ≤ 600) (hw : ∀ s ∈ S, wf s.kind ∧ ∀ q ∈ s.sl, wf q.1 ∧ wf q.2) :
    Calls Try.prog 17 #[AW mdv 0 1 so S.length sc none 0 0 none 0 0 none 0 0] w fun e w' => ∃ vo vc, e = .returned (.slice vo 0 vc) ∧ Kept No w w' := by
  obtain ⟨h1, h2⟩ := fresh_ok hn hl hw
  rcases hm with rfl | rfl
  · refine (Audit_inc hS (by rw [fresh_len]; exact hn) h1 h2).mono ?_
    rintro e w' ⟨v, rfl, hv, hk⟩
    rw [fresh_aud_inc] at hv
    obtain ⟨vo, vc, rfl⟩ := hv.form
    exact ⟨vo, vc, rfl, hk⟩
  · refine (Audit_gen (L := []) hS (by rw [fresh_len]; exact hn) h1 h2 ⟨none, 0, rfl, fun j hj => by simp at hj⟩ (by decide) (by simp)).mono ?_
    rintro e w' ⟨v, rfl, hv, hk⟩
    rw [fresh_aud_gen] at hv
    obtain ⟨vo, vc, rfl⟩ := hv.form
    exact ⟨vo, vc, rfl, hk⟩
end Go.Proofs.Ytnihfakhijjjkaa
