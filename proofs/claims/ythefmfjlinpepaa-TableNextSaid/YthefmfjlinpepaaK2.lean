/- TableNext: the walk. -/
import Derived.Test.YthefmfjlinpepaaK1
import Derived.Test.YthefmfjlinpepaaM1
import Derived.Test.YthefmfjlinpepaaVR
namespace Go.Proofs.Ythefmfjlinpepaa
open Go.RowKit Go.Shelf
set_option linter.unusedSimpArgs false
set_option linter.unusedVariables false
attribute [local go_sem] Oper.semAt_some

/-- The entry that is met next, or nothing. -/
abbrev cur (E : List Ent) (i : Nat) : Ent := fstE (E.drop i)
theorem cur_at {E : List Ent} {i : Nat} {e : Ent} (h : E[i]? = some e) : cur E i = e := by unfold cur; rw [drop_at E i e h]; rfl
theorem cur_end {E : List Ent} : cur E E.length = ((0, 0), (0, 0)) := by unfold cur; rw [List.drop_length]; rfl
/-- The keys met so far. -/
def ks (E : List Ent) (i : Nat) : List (Int × Int) := (E.take i).map Prod.fst
theorem ks_succ {E : List Ent} {i : Nat} {e : Ent} (h : E[i]? = some e) : ks E (i + 1) = ks E i ++ [e.1] := by unfold ks; rw [List.take_add_one, h, List.map_append]; rfl
theorem ks_len {E : List Ent} {i : Nat} (h : i ≤ E.length) : (ks E i).length = i := by unfold ks; rw [List.length_map, List.length_take]; omega
theorem ks_apart {E : List Ent} (hn : (E.map Prod.fst).Nodup) {i p : Nat} {e : Ent} {x : Int × Int} (he : E[i]? = some e) (hp : p < i) (hx : (ks E i)[p]? = some x) : x ≠ e.1 := by
  intro h
  subst h
  have h1 : (E.map Prod.fst)[i]? = some e.1 := by rw [List.getElem?_map, he]; rfl
  have h2 : (E.map Prod.fst)[p]? = some e.1 := by
    unfold ks at hx
    rw [List.map_take, List.getElem?_take_of_lt hp] at hx
    exact hx
  have := nodup_at _ _ _ _ hn h1 h2
  omega
/-- Is a key among these? -/
def inR (mb : Bool) (z : Int × Int) (l : List (Int × Int)) : Bool := mb && decide (z ∈ l)
theorem inR_snoc (mb : Bool) (z x : Int × Int) (l : List (Int × Int)) : inR mb z (l ++ [x]) = (inR mb z l || (mb && decide (x = z))) := by
  unfold inR
  cases mb
  · rfl
  · simp only [Bool.true_and, List.mem_append, List.mem_singleton]
    rw [Bool.eq_iff_iff]
    simp only [decide_eq_true_eq, Bool.or_eq_true]
    constructor
    · rintro (h | h)
      · exact .inl h
      · exact .inr h.symm
    · rintro (h | h)
      · exact .inl h
      · exact .inr h.symm
theorem in_get {a n : Nat} {sl : Sl} (hw : Wf a n sl) (t x : Int) (z : Int × Int) (hz : keyB t x = true → z = kyP (t, x)) : inR (keyB t x) z ((ents a n sl 0).map Prod.fst) = ((getR a n sl t x).1 != 0) := by
  rw [getR_gv]
  unfold inR
  cases hk : keyB t x
  · simp
  · rw [if_pos rfl, hz hk, Bool.true_and]
    have hnk := kyP_nk (k := (t, x)) hk
    by_cases h0 : (gv a n sl (kyP (t, x))).1 = 0
    · have : ¬ kyP (t, x) ∈ (ents a n sl 0).map Prod.fst := by
        intro hm
        obtain ⟨e, he, e1⟩ := List.mem_map.1 hm
        obtain ⟨_, h2, h3⟩ := ents_gv hw he
        rw [e1] at h3
        rw [h3] at h0; exact h2 h0
      rw [decide_eq_false this, h0]; rfl
    · have : kyP (t, x) ∈ (ents a n sl 0).map Prod.fst := List.mem_map.2 ⟨_, gv_ents hnk.b h0, rfl⟩
      rw [decide_eq_true this]
      simp [h0]

/-- The table, the keys met, the two boxes. -/
structure XB (w : World) (P : Nat) (a n : Nat) (sl : Sl) (u : Value) (l : List (Int × Int)) (Bk : Nat) (c : Ent) (W : World) : Prop where
  re : Re w W P 400 a n sl 40000
  row : VRow W w.heap.size u l
  bk : W.heap[Bk]? = some (.cells #[.int .i64 c.1.1, .int .i64 c.1.2] 33 (0, 0))
  bv : W.heap[Bk + 1]? = some (.cells #[.int .i64 c.2.1, .int .i64 c.2.2] 33 (0, 0))
  fr : ∀ k, u.ownBlock = some k → k ≠ Bk ∧ k ≠ Bk + 1
  le : w.heap.size ≤ Bk
section
variable {w : World} {P : Nat} {a n : Nat} {sl : Sl} {u : Value} {l : List (Int × Int)} {Bk : Nat} {c : Ent} {W W' : World}
theorem XB.no (h : XB w P a n sl u l Bk c W) (hk : Kept No W W') : XB w P a n sl u l Bk c W' := ⟨h.re.no hk, h.row.no hk, hk.heap h.bk id, hk.heap h.bv id, h.fr, h.le⟩
theorem XB.cells (h : XB w P a n sl u l Bk c W) : W.cell? ⟨Bk, 0, none⟩ = some (.int .i64 c.1.1) ∧ W.cell? ⟨Bk, 1, none⟩ = some (.int .i64 c.1.2) ∧ W.cell? ⟨Bk + 1, 0, none⟩ = some (.int .i64 c.2.1) ∧ W.cell? ⟨Bk + 1, 1, none⟩ = some (.int .i64 c.2.2) ∧ (∀ o, W.frozen? ⟨Bk, o, none⟩ = false) ∧ (∀ o, W.frozen? ⟨Bk + 1, o, none⟩ = false) := by
  refine ⟨?_, ?_, ?_, ?_, frozen_of h.bk, frozen_of h.bv⟩
  · rw [cell_of h.bk]; rfl
  · rw [cell_of h.bk]; rfl
  · rw [cell_of h.bv]; rfl
  · rw [cell_of h.bv]; rfl
theorem XB.app (h : XB w P a n sl u l Bk c W) {v' : Value} {l' : List (Int × Int)} {o : Obj} (hr : VRow W' w.heap.size v' l') (hg : (W.alloc o).grownBy W' u.ownBlock) (hv : v'.ownBlock = u.ownBlock ∨ v'.ownBlock = some (W.heap.size + 1)) : XB w P a n sl v' l' Bk c W' := by
  obtain ⟨h1, hk⟩ := h.re.grown h.row (Nat.le_refl _) hg
  refine ⟨h1, hr, hk.heap h.bk (fun e => (h.fr _ e).1 rfl), hk.heap h.bv (fun e => (h.fr _ e).2 rfl), fun k e => ?_, h.le⟩
  rcases hv with hv | hv
  · rw [hv] at e; exact h.fr k e
  · rw [hv] at e
    cases e
    have h2 := hp_lt h.bk
    have h3 := hp_lt h.bv
    omega
/-- The boxes get another key and value. -/
theorem XB.turn (h : XB w P a n sl u l Bk c W) (c' : Ent) : XB w P a n sl u l Bk c' ((((W.setCell ⟨Bk, 0, none⟩ (.int .i64 c'.1.1)).setCell ⟨Bk, 1, none⟩ (.int .i64 c'.1.2)).setCell ⟨Bk + 1, 0, none⟩ (.int .i64 c'.2.1)).setCell ⟨Bk + 1, 1, none⟩ (.int .i64 c'.2.2)) := by
  obtain ⟨nn, hnn, ht⟩ := h.re.tb
  have hk : Kept (fun q => q = Bk ∨ q = Bk + 1) W ((((W.setCell ⟨Bk, 0, none⟩ (.int .i64 c'.1.1)).setCell ⟨Bk, 1, none⟩ (.int .i64 c'.1.2)).setCell ⟨Bk + 1, 0, none⟩ (.int .i64 c'.2.1)).setCell ⟨Bk + 1, 1, none⟩ (.int .i64 c'.2.2)) :=
    ((((Kept.refl (fun q => q = Bk ∨ q = Bk + 1) W).set _ 0 _ (.inl (.inl rfl))).set _ 1 _ (.inl (.inl rfl))).set _ 0 _ (.inl (.inr rfl))).set _ 1 _ (.inl (.inr rfl))
  have hnf : ∀ q, (q = Bk ∨ q = Bk + 1) → ¬ FP W P q := fun q hq hp => by
    rcases ht.kinds q hp with ⟨c', e', f', h1, h2⟩ | ⟨es, c', h1⟩
    · rcases hq with rfl | rfl
      · rw [h.bk] at h1; cases h1; cases h2
      · rw [h.bv] at h1; cases h1; cases h2
    · rcases hq with rfl | rfl
      · rw [h.bk] at h1; cases h1
      · rw [h.bv] at h1; cases h1
  have hle := h.le
  refine ⟨⟨⟨nn, hnn, ht.kept hk (fun q hq e => hnf q e hq)⟩, fun q hq => ?_, h.re.kp.trans' hk (fun i e => .inr (by omega)), h.re.is⟩, h.row.turn (fun k hk' => hk.block k (World.ownsRow.lt h.row k hk').2 (fun e => ?_)), ?_, ?_, h.fr, h.le⟩
  · apply h.re.fp
    rcases hq with rfl | ⟨m', a2, n2, e⟩
    · exact .inl rfl
    · rw [hk.block P ht.lt (fun e => hnf P e (.inl rfl))] at e
      exact .inr ⟨_, _, _, e⟩
  · have := h.fr k hk'
    rcases e with e | e
    · exact this.1 e
    · exact this.2 e
  · exact hp_set_other (hp_set_other (hp_set_same (hp_set_same h.bk 0 _) 1 _) 0 _ (by omega)) 1 _ (by omega)
  · exact hp_set_same (hp_set_same (hp_set_other (hp_set_other h.bv 0 _ (by omega)) 1 _ (by omega)) 0 _) 1 _
end
end Go.Proofs.Ythefmfjlinpepaa
