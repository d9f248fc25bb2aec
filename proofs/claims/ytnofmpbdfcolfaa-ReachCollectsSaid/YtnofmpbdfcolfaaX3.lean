/- The sort of what is to be finalised. -/
import Derived.Test.YtnofmpbdfcolfaaX2
import Derived.Test.YtnofmpbdfcolfaaSortP
import Derived.Shelf.SlSortCmp.Whole1
namespace Go.Proofs.Ytnofmpbdfcolfaa
open Go.RowKit Go.Shelf Go.Sort
set_option linter.unusedSimpArgs false
set_option linter.unusedVariables false

/-- The one at i comes ahead of the one at j. -/
def bef (T : List Th) (i j : Nat) : Prop := (thAt T j).fin < (thAt T i).fin ∨ ((thAt T i).fin = (thAt T j).fin ∧ j < i)
/-- Places as handles. -/
def hdl (D : List Nat) : List Int := D.map fun (i : Nat) => (i : Int) + 1
theorem hdl_len (D : List Nat) : (hdl D).length = D.length := by simp [hdl]

theorem perm_all {α : Type} {d d' : Array α} [Inhabited α] (h : PermIn 0 d.size d d') : d'.toList.Perm d.toList := by
  obtain ⟨hs, _, hp⟩ := h
  have e1 : d'.extract 0 d.size = d' := by rw [← hs]; exact Array.extract_size
  rwa [e1, Array.extract_size] at hp

theorem heap_sortedF {n : Nat} [Inhabited (Fin n)] {w : World} {g m : Nat} {os : Array Obj} {cur : Array Value} {e : TypeId} {fr : Nat × Nat} (d : Array (Fin n)) (hb : w.heap[g]? = some (.cells cur e fr)) :
    (sortWorld encF w g 0 m d os).heap[g]? = some (.cells (putCells encF 0 d cur) e fr) := by
  have hg : g < w.heap.size := (Array.getElem?_eq_some_iff.1 hb).1
  unfold sortWorld
  rw [heap_grow_old _ _ (by simpa using hg)]
  simp [putRow, mapBlock, Sort.ahead, Array.getElem?_modify, hb, onCells]
theorem take_putCellsF {n : Nat} [Inhabited (Fin n)] (cur : Array Value) (d : Array (Fin n)) (h : d.size ≤ cur.size) : (putCells encF 0 d cur).toList.take d.size = d.toList.map encF := by
  apply List.ext_getElem?
  intro j
  by_cases hj : j < d.size
  · rw [List.getElem?_take_of_lt hj, Array.getElem?_toList]
    simp [putCells, hj, show j < cur.size by omega]
  · rw [List.getElem?_take_eq_none (by omega), List.getElem?_eq_none (by simp; omega)]

theorem sort48 : ∀ args w, (callFunc 48 args).run Try.prog w = .ok (.enter 48 args) w := enters_of Try.func48 (by kernel_rfl) rfl

theorem SortFunc_any {w w0 : World} {box g cap B : Nat} {tv : Value} {T : List Th} {D : List Nat} (hb : w.heap[box]? = some (.cells #[tv] 22 (0, 0))) (hT : RdT w0 tv T) (hk0 : Kept No w0 w) (hg : w0.heap.size ≤ g) (hbg : box ≠ g) (hn : T.length ≤ 1000000)
    (hD : ∀ i ∈ D, i < T.length) (hDn : D.length ≤ 1000000) (h0 : D ≠ []) (hr : IRow w B (.slice (some ⟨g, 0, none⟩) D.length cap) (hdl D)) :
    Calls Try.prog 47 #[.slice (some ⟨g, 0, none⟩) D.length cap, .func (.func 48) #[] #[PT box]] w fun e w' => (∃ x, e = .returned x) ∧ ∃ D', D'.Perm D ∧ D'.Pairwise (fun i j => ¬ bef T j i) ∧ IRow w' B (.slice (some ⟨g, 0, none⟩) D'.length cap) (hdl D') ∧ Kept (fun k => k = g) w w' := by
  have hT0 : 0 < T.length := by
    cases D with
    | nil => exact absurd rfl h0
    | cons i D => have := hD i (by simp); omega
  haveI : Inhabited (Fin T.length) := ⟨⟨0, hT0⟩⟩
  obtain ⟨F, hF⟩ : ∃ F : List (Fin T.length), F.map Fin.val = D := ⟨D.pmap (fun i h => ⟨i, h⟩) hD, by rw [List.map_pmap]; simp⟩
  have hFl : F.length = D.length := by rw [← hF]; simp
  have hr' := hr
  rw [← hdl_len D] at hr'
  have hcell := fun j hj => World.ownsRow.cellAt hr' j hj
  clear hr'
  obtain ⟨h1, ⟨e, _⟩ | ⟨g', cap', cur, e, hbase, hcur, hc, hm, hs, ht⟩⟩ := hr
  · cases e
  injection e with e1 e2 e3
  injection e1 with e1
  injection e1 with e1
  subst e1 e3
  rw [hdl_len] at hc ht
  have hH : Holds encF w g 0 F.toArray := by
    intro j hj
    have hj' : j < F.length := by simpa using hj
    refine ⟨?_, frozen_of hcur _⟩
    rw [Nat.zero_add, hcell j (by rw [hdl_len]; omega)]
    subst hF
    simp [ic, hdl, hj', encF]
  have hS := Any.slices_SortFunc Try.sortF encF encF_one (cfF T) (swoF T) 48 #[PT box] g 0 cap F.toArray w sort48 (cmpLays hb hT hk0 hg hbg hn _) hH (hp_lt hcur) (by simp; omega)
  change Calls Try.prog 47 _ _ _ at hS
  rw [show F.toArray.size = D.length by simpa using hFl] at hS
  refine hS.mono ?_
  rintro e w' ⟨rfl, d', n, os, hp, hso, rfl⟩
  have hsz : d'.size = D.length := hp.1.trans (by simpa using hFl)
  rw [← show F.toArray.size = D.length by simpa using hFl] at hp
  have hpp := perm_all hp
  have hsz2 : d'.size ≤ cur.size := by omega
  refine ⟨⟨_, rfl⟩, d'.toList.map Fin.val, ?_, ?_, ⟨by simp [ic, hdl], .inr ⟨g, cap, _, ?_, hbase, heap_sortedF d' hcur, ?_, hm, by simp [putCells, hs], ?_⟩⟩, keptF d'⟩
  · rw [← hF]; exact hpp.map _
  · rw [List.pairwise_map, List.pairwise_iff_getElem]
    intro i j hi hj hij
    have hi' : i < d'.size := by simpa using hi
    have hj' : j < d'.size := by simpa using hj
    have := hso i j (Nat.zero_le _) hij (by omega)
    rw [getElem!_pos d' j hj', getElem!_pos d' i hi', ltF] at this
    have h3 := of_decide_eq_false this
    simp only [Array.getElem_toList]
    exact h3
  · simp [hdl]
  · simp [hdl]; omega
  · have := take_putCellsF cur d' hsz2
    simp only [hdl, List.length_map, Array.length_toList, Nat.mul_one]
    rw [this]
    simp [ic, encF]

set_option maxRecDepth 100000 in
set_option maxHeartbeats 600000 in
theorem SortFunc_none (p : Option Addr) (cap : Nat) (c : Value) (w : World) : Calls Try.prog 47 #[.slice p 0 cap, c] w fun e w' => (∃ x, e = .returned x) ∧ w = w' := by
  go_enter Try.func47, Try.ntmps47
  go_wp2_with fail
  go_at_call 62
  refine (Len_zero _).mono ?_
  rintro e w' ⟨⟨n, rfl⟩, rfl⟩
  go_wp2_with fail
  go_at_call 61
  refine (pdq_zero _ _ _ _).mono ?_
  rintro e w' ⟨⟨x, rfl⟩, rfl⟩
  go_wp2
  go_end0
  exact ⟨⟨_, rfl⟩, rfl⟩
end Go.Proofs.Ytnofmpbdfcolfaa
