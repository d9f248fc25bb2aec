/- Rows of rows; every block behind Extend. -/
import Derived.Test.YtdaklohfecinjaaV1
import Derived.Test.YtdaklohfecinjaaP5
import Derived.Test.YtdaklohfecinjaaP7
namespace Go.Proofs.Ytdaklohfecinjaa
open Go.RowKit Go.Maps Go.Sort Go.Shelf
set_option linter.unusedSimpArgs false
set_option linter.unusedVariables false

theorem info51 : (Try.prog.info? 51).map (fun i => (i.zero, i.size, i.bytes)) = some (some (.slice none 0 0), 1, 24) := by kernel_rfl

/-- A row of the first blocks' rows. -/
def WasIs (w : World) (B : Nat) (l : Value) (vals : List Value) (cs : List Int) (xs : List (Nat × Nd)) : Prop :=
  w.ownsRow B 51 1 l vals.length vals ∧ ∀ i (hi : i < vals.length), ∃ hx : i < xs.length, w.ownsRow B 2 1 vals[i] xs[i].2.s (rowD cs xs[i].2.a xs[i].2.s)

theorem WasIs.out {S : Nat → Prop} {w w' : World} {B : Nat} {l : Value} {vals : List Value} {cs : List Int} {xs : List (Nat × Nd)} (h : WasIs w B l vals cs xs) (hk : Kept S w w') (hS : ∀ k, S k → k < B) : WasIs w' B l vals cs xs :=
  ⟨ownsRow_out h.1 hk hS, fun i hi => by
    obtain ⟨hx, hr⟩ := h.2 i hi
    exact ⟨hx, ownsRow_out hr hk hS⟩⟩
theorem WasIs.no {w w' : World} {B : Nat} {l : Value} {vals : List Value} {cs : List Int} {xs : List (Nat × Nd)} (h : WasIs w B l vals cs xs) (hk : Kept No w w') : WasIs w' B l vals cs xs := h.out hk (fun _ e => e.elim)
theorem was_nil (w : World) (B : Nat) (cs : List Int) (xs : List (Nat × Nd)) : WasIs w B (.slice none 0 0) [] cs xs := ⟨World.ownsRow_nil _ _ _ _, fun i hi => absurd hi (by simp)⟩

theorem row_at {w : World} {B : Nat} {t : TypeId} {v : Value} {n : Nat} {xs : List Value} (h : w.ownsRow B t 1 v n xs) {g : Nat} (hg : v.ownBlock = some g) : ∃ cur, w.heap[g]? = some (.cells cur t (0, 0)) := by
  rcases h.2 with ⟨h1, _⟩ | ⟨g', cap, cur, h1, h2, h3, h4⟩
  · rw [h1] at hg; cases hg
  · rw [h1] at hg
    simp [Value.ownBlock] at hg
    subst hg
    exact ⟨cur, h3⟩
/-- Where only a block of another type may have turned. -/
theorem row_type {w w' : World} {B b : Nat} {t u : TypeId} {v l : Value} {n m : Nat} {xs ys : List Value} (h : w.ownsRow B t 1 v n xs) (hl : w.ownsRow b u 1 l m ys) (htu : t ≠ u) (hk : Kept (fun k => l.ownBlock = some k) w w') : w'.ownsRow B t 1 v n xs := by
  refine ⟨h.1, h.2.imp id ?_⟩
  rintro ⟨g, cap, cur, h1, h2, h3, h4⟩
  refine ⟨g, cap, cur, h1, h2, hk.heap h3 (fun e => ?_), h4⟩
  obtain ⟨cur', h5⟩ := row_at hl e
  rw [h3] at h5
  injection h5 with h5
  injection h5 with _ h6
  exact htu h6

theorem WasIs.snoc {w w' : World} {B : Nat} {l l' u : Value} {vals : List Value} {cs : List Int} {xs : List (Nat × Nd)} (h : WasIs w B l vals cs xs) (hq : vals.length < xs.length) (hu : w.ownsRow B 2 1 u xs[vals.length].2.s (rowD cs xs[vals.length].2.a xs[vals.length].2.s))
    (hown : w'.ownsRow B 51 1 l' (vals.length + 1) (vals ++ [u])) (hk : Kept (fun k => l.ownBlock = some k) w w') : WasIs w' B l' (vals ++ [u]) cs xs := by
  refine ⟨by rw [List.length_append]; exact hown, fun i hi => ?_⟩
  rw [List.length_append, List.length_singleton] at hi
  by_cases e : i < vals.length
  · obtain ⟨hx, hr⟩ := h.2 i e
    refine ⟨hx, ?_⟩
    rw [List.getElem_append_left e]
    exact row_type hr h.1 (by decide) hk
  · obtain rfl : i = vals.length := by omega
    refine ⟨hq, ?_⟩
    rw [List.getElem_append_right (Nat.le_refl _)]
    simp only [Nat.sub_self, List.getElem_cons_zero]
    exact row_type hu h.1 (by decide) hk

/-- Every block behind Extend. -/
theorem ext_block {w : World} {A C M F f size least nn k n : Nat} {cs : List Int} {hb : List (Nat × Nd)} (hR : Rp w A C M F f size least nn cs hb) (hk : k < hb.length) (hf : sumS (nodes F (rem hb k)) + n ≤ size) {x : Nat × Nd} (hx : x ∈ hb) :
    ∃ y ∈ cmpH 0 (rem hb k ++ [(hb[k].1, ⟨hb[k].2.p, 0, n⟩)]), y.1 = x.1 ∧ (x.1 ≠ hb[k].1 → y.2.s = x.2.s) ∧
      ∀ j, j < y.2.s → (extC cs (nodes F (rem hb k)) hb[k].2 n).getD (y.2.a + j) 0 = if j < x.2.s then cs.getD (x.2.a + j) 0 else 0 := by
  by_cases e : x.1 = hb[k].1
  · obtain rfl : x = hb[k] := by
      have h1 := look_mem hR.hnd hx
      rw [e, look_mem hR.hnd (List.getElem_mem hk)] at h1
      have hn : (hb.map fun x => x.2.p).Nodup := by
        have := hR.nod
        simp only [nodes, List.map_cons, List.nodup_cons, List.map_map] at this
        exact this.2
      exact p_inj hn hx (List.getElem_mem hk) (Option.some.inj h1).symm
    obtain ⟨h1, h2⟩ := ext_own hR hk hf
    exact ⟨_, h1, rfl, fun h => absurd rfl h, h2⟩
  · have hH : Hold cs hb x.1 ((List.range x.2.s).map fun j => cs.getD (x.2.a + j) 0) := by
      refine ⟨x, hx, rfl, by simp, fun j hj => ?_⟩
      have hj' : j < x.2.s := by simpa using hj
      simp [List.getD, hj']
    obtain ⟨y, hy, e1, e2, e3⟩ := ext_hold hR hk hf (fun h => e h.symm) hH
    rw [List.length_map, List.length_range] at e2
    refine ⟨y, hy, e1, fun _ => e2, fun j hj => ?_⟩
    rw [e3 j (by simp; omega), if_pos (by omega)]
    have hj' : j < x.2.s := by omega
    simp [List.getD, hj']

theorem hs_perm {hb hc : List (Nat × Nd)} (h : (hb.map Prod.fst).Perm (hc.map Prod.fst)) : hsS hb = hsS hc := by
  have h1 : (hs hb).Perm (hs hc) := by
    have := h.map (fun n : Nat => (n : Int))
    simpa [hs, List.map_map, Function.comp_def] using this
  exact mergeSort_of_perm_i h1
theorem ext_handles {hb : List (Nat × Nd)} {k : Nat} (hk : k < hb.length) (p n : Nat) : hsS (cmpH 0 (rem hb k ++ [(hb[k].1, ⟨p, 0, n⟩)])) = hsS hb := by
  apply hs_perm
  rw [cmpH_fst, List.map_append]
  have h1 := (rem_perm hk).map Prod.fst
  rw [List.map_cons] at h1
  refine List.Perm.trans ?_ h1.symm
  exact List.perm_append_comm (l₁ := (rem hb k).map Prod.fst) (l₂ := [hb[k].1])
theorem ext_sum {F : Nat} {hb : List (Nat × Nd)} {k : Nat} (hk : k < hb.length) (p n : Nat) : sumS (nodes F (cmpH 0 (rem hb k ++ [(hb[k].1, ⟨p, 0, n⟩)]))) = sumS (nodes F (rem hb k)) + n ∧ topN (nodes F (cmpH 0 (rem hb k ++ [(hb[k].1, ⟨p, 0, n⟩)]))) = sumS (nodes F (rem hb k)) + n := by
  have h1 : sumS (nodes F (rem hb k ++ [(hb[k].1, ⟨p, 0, n⟩)])) = sumS (nodes F (rem hb k)) + n := by simp [nodes, sumS]
  rw [nodes_cmpH, sumS_comp, topN_comp _ _ (by simp [nodes]), Nat.zero_add]
  exact ⟨h1, h1⟩
end Go.Proofs.Ytdaklohfecinjaa
