/- Scope: the sort of the uses. -/
import Derived.Test.YtgkgpjbbmnfnmaaGreatDoorS14
import Derived.Test.YtgkgpjbbmnfnmaaGreatDoorSortP
import Derived.Shelf.SlSortCmp.NoneTotal
namespace Go.Proofs.YtgkgpjbbmnfnmaaGreatDoor
open Go.RowKit Go.Shelf Go.Sort
set_option linter.unusedSimpArgs false
set_option linter.unusedVariables false

/-- cmp.Compare of ints. -/
def cmp3 (x y : Int) : Int := if x < y then -1 else if y < x then 1 else 0
theorem isNaN3_any (x : Int) (w : World) : Calls Tryz.prog 69 #[.int .i64 x] w fun e w' => e = .returned (.bool false) ∧ w = w' := by
  go_enter Tryz.func69, Tryz.ntmps69
  go_wp2
  go_ret
  exact ⟨rfl, rfl⟩
theorem Compare_any (x y : Int) (w : World) : Calls Tryz.prog 42 #[.int .i64 x, .int .i64 y] w fun e w' => e = .returned (.int .i64 (cmp3 x y)) ∧ w = w' := by
  obtain ⟨c, hc⟩ : ∃ c, Hid (cmp3 x y = c) := ⟨_, rfl⟩
  rw [hc.out]
  by_cases h1 : x < y
  · have e : c = -1 := by rw [← hc.out]; simp [cmp3, h1]
    subst e
    go_enter Tryz.func42, Tryz.ntmps42
    go_wp2_with (go_at_call 69; refine (isNaN3_any _ _).mono ?_; rintro e w' ⟨rfl, rfl⟩)
    go_ret
    exact ⟨rfl, rfl⟩
  · by_cases h2 : y < x
    · have e : c = 1 := by rw [← hc.out]; simp [cmp3, h1, h2]
      subst e
      go_enter Tryz.func42, Tryz.ntmps42
      go_wp2_with (go_at_call 69; refine (isNaN3_any _ _).mono ?_; rintro e w' ⟨rfl, rfl⟩)
      go_ret
      exact ⟨rfl, rfl⟩
    · have e : c = 0 := by rw [← hc.out]; simp [cmp3, h1, h2]
      subst e
      go_enter Tryz.func42, Tryz.ntmps42
      go_wp2_with (go_at_call 69; refine (isNaN3_any _ _).mono ?_; rintro e w' ⟨rfl, rfl⟩)
      go_ret
      exact ⟨rfl, rfl⟩
def us0 : Us := ⟨0, ⟨#[]⟩, 0, 0, 0, false⟩
def cfU (x y : Us) : Int := cmp3 x.a y.a
theorem ltU (x y : Us) : Go.Proofs.ltOf cfU x y = decide (x.a < y.a) := by
  unfold Go.Proofs.ltOf cfU cmp3
  rw [decide_eq_decide]
  split
  · omega
  · split <;> omega
theorem wf_int {x : Int} (h : -1 ≤ x) (h2 : x ≤ 1000000) : wf x := by
  unfold wf Lit.wf
  have h3 : IntKind.i64.min = -9223372036854775808 := by decide
  have h4 : IntKind.i64.max = 9223372036854775807 := by decide
  simp [h3, h4]
  omega
theorem swoU : SWO (Go.Proofs.ltOf cfU) where
  irrefl x := by rw [ltU]; simp
  trans x y z h1 h2 := by rw [ltU] at *; simp at *; omega
  ntrans x y z h1 h2 := by rw [ltU] at *; simp at *; omega
set_option maxHeartbeats 2000000 in
theorem found1_any (x y : Us) (W : World) : Calls Tryz.prog 41 #[.agg (usC x).toArray, .agg (usC y).toArray] W fun e w' => e = .returned (.int .i64 (cfU x y)) ∧ ∃ q os', w' = grow (W.drewN q) os' := by
  have hcon := fun W' => Compare_any x.a y.a W'
  unfold cfU usC
  generalize cmp3 x.a y.a = r at hcon ⊢
  go_enter Tryz.func41, Tryz.ntmps41
  go_wp2_with (go_at_call 42; refine (hcon _).mono ?_; rintro e w' ⟨rfl, rfl⟩)
  go_ret
  exact ⟨rfl, 0, _, by rw [alloc_eq_grow, alloc_eq_grow, grow_grow]; rfl⟩
theorem cmpLaysU [Inhabited Us] (g off size : Nat) (w : World) : CmpLays Tryz.prog 41 #[] usC 6 cfU g off size w := fun _ _ _ _ x y => found1_any x y _
theorem flU_at : ∀ (l : List Us) (j : Nat) (h : j < l.length) (k : Nat), k < 6 → (flU l)[j * 6 + k]? = (usC l[j])[k]?
  | [], j, h, k, hk => by simp at h
  | e :: r, 0, h, k, hk => by
    simp only [flU, List.map_cons, List.flatten_cons, Nat.zero_mul, Nat.zero_add, List.getElem_cons_zero]
    rw [List.getElem?_append_left (by simp [usC]; omega)]
  | e :: r, j + 1, h, k, hk => by
    have := flU_at r j (by simpa using h) k hk
    simp only [flU, List.map_cons, List.flatten_cons, List.getElem_cons_succ] at this ⊢
    rw [show (j + 1) * 6 + k = (usC e).length + (j * 6 + k) by simp [usC]; omega, List.getElem?_append_right (by omega), Nat.add_sub_cancel_left, this]
theorem flU_len (l : List Us) : (flU l).length = l.length * 6 := by
  induction l with
  | nil => rfl
  | cons e r ih => simp only [flU, List.map_cons, List.flatten_cons, List.length_append] at ih ⊢; rw [ih]; simp [usC]; omega
theorem flat_eq [Inhabited Us] (l : List Us) : (flatK usC 6 l.toArray).toList = flU l := by
  apply List.ext_getElem?
  intro t
  by_cases ht : t < l.length * 6
  · have h1 : t / 6 < l.length := by omega
    have h2 := flU_at l (t / 6) h1 (t % 6) (by omega)
    rw [show t / 6 * 6 + t % 6 = t by omega] at h2
    have h3 := get_flatK usC 6 l.toArray t (by simpa using ht)
    have h4 : t < (flatK usC 6 l.toArray).size := by simpa using ht
    rw [getElem!_pos _ t h4] at h3
    rw [Array.getElem?_toList, Array.getElem?_eq_getElem h4, h3, h2]
    rw [getElem!_pos l.toArray (t / 6) (by simpa using h1)]
    have h5 : t % 6 < (usC l.toArray[t / 6]).length := by simp [usC]; omega
    rw [getElem!_pos (usC l.toArray[t / 6]) (t % 6) h5]
    simp [List.getElem?_eq_getElem]
  · rw [List.getElem?_eq_none (by simp; omega), List.getElem?_eq_none (by rw [flU_len]; omega)]
theorem perm_allU {α : Type} {d d' : Array α} [Inhabited α] (h : PermIn 0 d.size d d') : d'.toList.Perm d.toList := by
  obtain ⟨hs, _, hp⟩ := h
  have e1 : d'.extract 0 d.size = d' := by rw [← hs]; exact Array.extract_size
  rwa [e1, Array.extract_size] at hp
theorem keptU [Inhabited Us] {w : World} {g m : Nat} {os : Array Obj} (d : Array Us) : Kept (fun k => k = g) w (sortWorldK usC 6 w g 0 m d os) := by
  refine (Kept.refl _ w).grown (w' := sortWorldK usC 6 w g 0 m d os) (row := some g) ?_ (fun k e => .inl (by cases e; rfl))
  unfold sortWorldK
  refine ⟨rfl, rfl, rfl, by simp [putRowK], fun k hk hne => ?_⟩
  rw [heap_grow_old _ _ (by simpa [putRowK] using hk)]
  have : g ≠ k := fun e => hne (by rw [e])
  simp [putRowK, putRow, mapBlock, Sort.ahead, Array.getElem?_modify, this]
theorem heap_sortedU [Inhabited Us] {w : World} {g m : Nat} {os : Array Obj} {cur : Array Value} {e : TypeId} {fr : Nat × Nat} (d : Array Us) (hb : w.heap[g]? = some (.cells cur e fr)) :
    (sortWorldK usC 6 w g 0 m d os).heap[g]? = some (.cells (putCells id 0 (flatK usC 6 d) cur) e fr) := by
  have hg : g < w.heap.size := (Array.getElem?_eq_some_iff.1 hb).1
  unfold sortWorldK
  rw [heap_grow_old _ _ (by simpa [putRowK] using hg)]
  simp [putRowK, putRow, mapBlock, Sort.ahead, Array.getElem?_modify, hb, onCells]
theorem take_putU (cur d : Array Value) (h : d.size ≤ cur.size) : (putCells id 0 d cur).toList.take d.size = d.toList := by
  apply List.ext_getElem?
  intro j
  by_cases hj : j < d.size
  · rw [List.getElem?_take_of_lt hj, Array.getElem?_toList]
    simp [putCells, hj, show j < cur.size by omega]
  · rw [List.getElem?_take_eq_none (by omega), List.getElem?_eq_none (by simp; omega)]
theorem sort41 : ∀ args w, (callFunc 41 args).run Tryz.prog w = .ok (.enter 41 args) w := enters_of Tryz.func41 (by kernel_rfl) rfl
theorem sort_any {w : World} {g cap B : Nat} {L : List Us} (hr : w.ownsRow B 36 6 (.slice (some ⟨g, 0, none⟩) L.length cap) L.length (flU L)) (hn : L.length ≤ 1000000) :
    Calls Tryz.prog 40 #[.slice (some ⟨g, 0, none⟩) L.length cap, .func (.func 41) #[] #[]] w fun e w' => e = .returned (.tuple #[]) ∧ ∃ L', L'.Perm L ∧ L'.Pairwise (fun x y => x.a ≤ y.a) ∧ w'.ownsRow B 36 6 (.slice (some ⟨g, 0, none⟩) L.length cap) L'.length (flU L') ∧ Kept (fun k => k = g) w w' := by
  haveI : Inhabited Us := ⟨us0⟩
  have hcell := fun j hj => World.ownsRow.cellAt hr j hj
  have hfr := fun j => World.ownsRow.frozenAt hr j
  obtain ⟨h1, ⟨e, _⟩ | ⟨g', cap', cur, e, hbase, hcur, hc, hm, hs, ht⟩⟩ := hr
  · cases e
  injection e with e1 e2 e3
  injection e1 with e1
  injection e1 with e1
  subst e1 e3
  have hH : HoldsK usC 6 w g 0 L.toArray := by
    intro j hj
    have hj' : j < L.length * 6 := by simpa using hj
    refine ⟨?_, by rw [Nat.zero_add]; exact hfr j⟩
    rw [Nat.zero_add, hcell j hj', ← flat_eq, Array.getElem?_toList, Array.getElem?_eq_getElem hj, getElem!_pos _ j hj]
    rfl
  have hS := AnyQ.slices_SortFunc Tryz.sortF 6 Tryz.isAgg36 Tryz.sizeOf36 usC (fun _ => rfl) usC_one cfU swoU 41 #[] g 0 cap L.toArray w sort41 (cmpLaysU g 0 _ w) hH (Array.getElem?_eq_some_iff.1 hcur).1 (by simp; omega)
  change Calls Tryz.prog 40 _ _ _ at hS
  rw [show L.toArray.size = L.length by simp] at hS
  refine hS.mono ?_
  rintro e w' ⟨rfl, d', n, os, hp, hso, rfl⟩
  have hsz : d'.size = L.length := hp.1.trans (by simp)
  rw [← show L.toArray.size = L.length by simp] at hp
  have hpp := perm_allU hp
  have hcs : L.length * 6 ≤ cur.size := by
    have := congrArg List.length ht
    rw [List.length_take, Array.length_toList, flU_len] at this
    omega
  refine ⟨rfl, d'.toList, by simpa using hpp, ?_, ⟨by rw [flU_len], .inr ⟨g, cap, _, by simp [hsz], hbase, heap_sortedU d' hcur, by simp [hsz]; omega, hm, by simp [putCells, hs], ?_⟩⟩, keptU d'⟩
  · rw [List.pairwise_iff_getElem]
    intro i j hi hj hij
    have hi' : i < d'.size := by simpa using hi
    have hj' : j < d'.size := by simpa using hj
    have := hso i j (Nat.zero_le _) hij (by omega)
    rw [getElem!_pos d' j hj', getElem!_pos d' i hi', ltU] at this
    have h3 := of_decide_eq_false this
    simp only [Array.getElem_toList]
    omega
  · have h6 : (flatK usC 6 d').size = d'.toList.length * 6 := by simp
    rw [← h6, take_putU cur _ (by simp [hsz]; omega)]
    have := flat_eq d'.toList
    simpa using this
theorem sort_none (p : Option Addr) (cap : Nat) (c : Value) (w : World) : Calls Tryz.prog 40 #[.slice p 0 cap, c] w fun e w' => e = .returned (.tuple #[]) ∧ w = w' := by
  have h := AnyF.slices_SortFunc_none Tryz.sortF p cap c w
  change Calls Tryz.prog 40 _ _ _ at h
  exact h.mono fun e w' ⟨a, b⟩ => ⟨a, b.symm⟩
end Go.Proofs.YtgkgpjbbmnfnmaaGreatDoor
