/- cleared: a weak table's entries. -/
import Derived.Test.YtnofmpbdfcolfaaC1
namespace Go.Proofs.Ytnofmpbdfcolfaa
open Go.RowKit Go.Shelf
set_option linter.unusedSimpArgs false
set_option linter.unusedVariables false
attribute [local go_sem] Oper.semAt_some

/-- Does an entry go? -/
def clrAt (T : List Th) (stays live : List Bool) (t : Th) (p : Nat × V) : Bool := lostB T (decide (2 ≤ t.weak)) (t.sl.getD p.1 (0, 0)) stays || lostB T (!decide (t.weak = 2)) p.2 live
/-- The entries of the first values that go. -/
def clrJ (T : List Th) (stays live : List Bool) (t : Th) (i j : Nat) : List V := (((vals t).take j).filter (clrAt T stays live t)).map fun p => ((i : Int) + 1, (p.1 : Int))
theorem clrJ_succ (T : List Th) (stays live : List Bool) (t : Th) (i j : Nat) (hj : j < (vals t).length) :
    clrJ T stays live t i (j + 1) = clrJ T stays live t i j ++ (if clrAt T stays live t (valAt t j) then [((i : Int) + 1, ((valAt t j).1 : Int))] else []) := by
  unfold clrJ
  rw [List.take_succ_eq_append_getElem hj, List.filter_append, List.map_append]
  congr 1
  have : valAt t j = (vals t)[j] := by simp [valAt, List.getD, hj]
  rw [this]
  by_cases h : clrAt T stays live t (vals t)[j] = true
  · simp [h]
  · simp [h]
theorem clrJ_len (T : List Th) (stays live : List Bool) (t : Th) (i j : Nat) : (clrJ T stays live t i j).length ≤ (vals t).length := by
  unfold clrJ
  rw [List.length_map]
  exact Nat.le_trans (List.length_filter_le _ _) (by rw [List.length_take]; omega)

/-- While a table's values are gone through: in W, since W0. -/
structure CR (w W0 : World) (T : List Th) (stays live : List Bool) (t : Th) (i : Nat) (L : List V) (Ds : List Nat) (j : Nat) (W : World) : Prop where
  tn : Tn [35, 49] w.heap.size W0 W
  row : ∃ ev, W.heap[w.heap.size + 2]? = some (.cells #[ev] 35 (0, 0)) ∧ EnRow W w.heap.size ev (L ++ clrJ T stays live t i j)
  mks : ∀ D ∈ Ds, W.heap[D]? = some (.deferred (some []))
theorem CR.no {w W0 W W' : World} {T : List Th} {stays live : List Bool} {t : Th} {i : Nat} {L : List V} {Ds : List Nat} {j : Nat} (h : CR w W0 T stays live t i L Ds j W) (hk : Kept No W W') : CR w W0 T stays live t i L Ds j W' := by
  obtain ⟨ev, h1, h2⟩ := h.row
  exact ⟨h.tn.trans (Tn.no hk), ⟨ev, hk.heap h1 id, h2.cellsKept (fun k c e f hh => hk.heap hh id)⟩, fun D hD => hk.heap (h.mks D hD) id⟩
theorem CR.loose {w W0 W W' : World} {T : List Th} {stays live : List Bool} {t : Th} {i : Nat} {L : List V} {Ds : List Nat} {j : Nat} (h : CR w W0 T stays live t i L Ds j W) (hD : ∀ D ∈ Ds, D < W0.heap.size) (hl : Loose W0.heap.size W W') : CR w W0 T stays live t i L Ds j W' := by
  obtain ⟨ev, h1, h2⟩ := h.row
  exact ⟨Loose.tn h.tn hl (Nat.le_refl _), ⟨ev, hl.cells h1, h2.cellsKept (fun k c e f hh => hl.cells hh)⟩, fun D hD' => hl.same D _ (h.mks D hD') (.inl (hD D hD'))⟩

theorem Tn.other {ts : List Nat} {B : Nat} {w w' : World} (h : Tn ts B w w') {k : Nat} {o : Obj} (hk : w.heap[k]? = some o) (ho : o.isCells = false) : w'.heap[k]? = some o := by
  refine Kept.heap h hk ?_
  rintro ⟨_, c', e', f', h1, h2⟩
  rw [hk] at h1; cases h1; cases ho
/-- An entry goes. -/
theorem CR.app {w W0 W : World} {T : List Th} {stays live : List Bool} {t : Th} {i : Nat} {L : List V} {Ds : List Nat} {j : Nat} (h : CR w W0 T stays live t i L Ds j W) (hlen : (L ++ clrJ T stays live t i j).length + 1 ≤ 1000000) (hz : w.heap.size ≤ W.heap.size) (x : V)
    (hS : clrJ T stays live t i (j + 1) = clrJ T stays live t i j ++ [x]) :
    ∃ eo el ec vo vl vc W6, W.cell? ⟨w.heap.size + 1 + 1, 0, none⟩ = some (.slice eo el ec) ∧ (Builtin.append_ #[35, 35] 35 #[.slice eo el ec, .slice (some ⟨W.heap.size, 0, none⟩) 1 1]).run Try.prog (W.alloc (.cells #[.int .i64 x.1, .int .i64 x.2] 49)) = .ok (.slice vo vl vc) W6 ∧
      W6.cell? ⟨w.heap.size + 1 + 1, 0, none⟩ = some (.slice eo el ec) ∧ (∀ o, W6.frozen? ⟨w.heap.size + 1 + 1, o, none⟩ = false) ∧ CR w W0 T stays live t i L Ds (j + 1) (W6.setCell ⟨w.heap.size + 1 + 1, 0, none⟩ (.slice vo vl vc)) ∧ ∀ B, Still B W (W6.setCell ⟨w.heap.size + 1 + 1, 0, none⟩ (.slice vo vl vc)) := by
  obtain ⟨ev, h1, h2⟩ := h.row
  generalize hM : L ++ clrJ T stays live t i j = M at h2 hlen
  obtain ⟨eo, ec, rfl⟩ := h2.form
  obtain ⟨i0, hi, hz0, hz1, hz2⟩ := info_parts info49
  have hN : (W.alloc (.cells #[.int .i64 x.1, .int .i64 x.2] 49)).heap[W.heap.size]? = some (.cells #[.int .i64 x.1, .int .i64 x.2] 49 (0, 0)) := World.alloc_heap_new W _
  obtain ⟨v', w', hr, g2, g3, g4, g5⟩ := run_append_own_at (P := Try.prog) (W.alloc (.cells #[.int .i64 x.1, .int .i64 x.2] 49)) w.heap.size 35 35 49 i0 (.agg #[.int .i64 0, .int .i64 0]) 2 16 Try.underlying35 hi hz0 hz1 hz2 rfl (by decide) _ _ (ic (flatV M)) (World.ownsRow.alloc h2 _) ⟨W.heap.size, 0, none⟩ 1 1 (ic (flatV [x])) rfl
    (by
      intro j u hu
      rcases j with _ | _ | j
      · simp [ic, flatV] at hu; subst hu; simp [Addr.add]
      · simp [ic, flatV] at hu; subst hu; simp [Addr.add]
      · simp [ic, flatV] at hu) (ic_one _) (by unfold maxLen; omega) (by omega) (by rw [World.size_alloc]; omega)
  have hrow : EnRow w' w.heap.size v' (M ++ [x]) := by
    show World.ownsRow _ _ _ _ _ _ _
    rw [List.length_append, flatV_append, ic_append]; exact g2
  obtain ⟨vo, vc, rfl⟩ := hrow.form
  have t1 : Tn [49] w.heap.size W w' := Kept.grown ((Kept.refl _ _).alloc _) g3 (fun k hk => by
    obtain ⟨hb, c, hc⟩ := h2.block hk
    exact .inl ⟨hb, c, 49, _, hc, by simp⟩)
  have h1' := t1.cells h1 (by simp)
  have t2 : Tn [35] w.heap.size w' (w'.setCell ⟨w.heap.size + 1 + 1, 0, none⟩ (.slice vo (M ++ [x]).length vc)) := Kept.set (Kept.refl _ _) _ 0 _ (.inl ⟨by omega, _, 35, _, h1', by simp⟩)
  have t3 : Tn [35, 49] w.heap.size W (w'.setCell ⟨w.heap.size + 1 + 1, 0, none⟩ (.slice vo (M ++ [x]).length vc)) := (t1.mono (by simp)).trans (t2.mono (by simp))
  refine ⟨eo, _, ec, vo, _, vc, w', by rw [cell_of h1]; rfl, hr, by rw [cell_of h1']; rfl, frozen_of h1', ⟨h.tn.trans t3, ⟨_, hp_set_same h1' 0 _, ?_⟩, fun D hD => t3.other (h.mks D hD) rfl⟩, fun B => Still.of_tn t3⟩
  rw [hS, ← List.append_assoc, hM]
  refine hrow.turn (fun k hk => ?_)
  obtain ⟨_, c, hc⟩ := hrow.block hk
  exact Below.heap_setCell _ _ _ _ (ne_ty hc h1' (by decide))

/-- An append whose run is known. -/
theorem app_step {F : Fence} {m : Nat} {ops : Array Oper} {rest : List Oper} {o : Oper} {a : Act} {Q : Exit → Act → World → Prop} {w : World} (hgd : o.guard = none) (s x : Operand)
    (ho : o.op = .call { callee := .builtin .append, args := #[s, x], argTypes := #[35, 35] }) (v y v' : Value) (w' : World) (hs : a.eval s = v) (hx : a.eval x = y) (hr : (Builtin.append_ #[35, 35] o.type #[v, y]).run Try.prog w = .ok v' w')
    (h : wpListIn F m Try.prog ops Q rest (a.put o.dst v') w') : wpListIn F m Try.prog ops Q (o :: rest) a w := by
  refine wpListIn_plain hgd fun K hK' => ?_
  unfold Oper.wpIn
  refine ⟨?_, ?_⟩
  · simp [Oper.about, ho, resolve, Target.leads, Sem.run_pure]
  · rw [Oper.semAt_plain F _ _ (by rw [ho]; intro c hc'; cases hc')]
    simp [execOp, ho, resolve, invoke, builtin, hs, hx, hr, Result.andThen]
    exact hK' _ _ h
theorem and12 : bits .and .i64 1 2 = 0 := by decide
theorem and22 : bits .and .i64 2 2 = 2 := by decide
theorem and32 : bits .and .i64 3 2 = 2 := by decide
theorem and11 : bits .and .i64 1 1 = 1 := by decide
theorem and21 : bits .and .i64 2 1 = 0 := by decide
theorem and31 : bits .and .i64 3 1 = 1 := by decide

/-- What lies in the boxes while a table's values are gone through. -/
structure CB (w W : World) (tv lv sv xv : Value) (t : Th) (i V Sb Xb : Nat) : Prop where
  b0 : W.heap[w.heap.size]? = some (.cells #[tv] 22 (0, 0))
  b1 : W.heap[w.heap.size + 1]? = some (.cells #[lv] 30 (0, 0))
  v0 : W.heap[V]? = some (.cells #[.int .i64 (i : Int)] 3 (0, 0))
  v1 : W.heap[V + 1]? = some (.cells #[.int .i64 t.kind, .int .i64 t.weak, .int .i64 t.arr, xv, .int .i64 t.fin] 43 (0, 0))
  v2 : W.heap[Sb]? = some (.cells #[sv] 30 (0, 0))
  v3 : W.heap[Xb]? = some (.cells #[.int .i64 t.kind, .int .i64 t.weak, .int .i64 t.arr, xv, .int .i64 t.fin] 43 (0, 0))
theorem CB.tn {ts : List Nat} {B : Nat} {w W W' : World} {tv lv sv xv : Value} {t : Th} {i V Sb Xb : Nat} (h : CB w W tv lv sv xv t i V Sb Xb) (ht : Tn ts B W W') (hs : ∀ e ∈ [22, 30, 3, 43], e ∉ ts) : CB w W' tv lv sv xv t i V Sb Xb :=
  ⟨ht.cells h.b0 (hs _ (by simp)), ht.cells h.b1 (hs _ (by simp)), ht.cells h.v0 (hs _ (by simp)), ht.cells h.v1 (hs _ (by simp)), ht.cells h.v2 (hs _ (by simp)), ht.cells h.v3 (hs _ (by simp))⟩

/-- Between two things. -/
structure CL (w : World) (tv lv : Value) (L : List V) (Ds : List Nat) (W : World) : Prop where
  kp : Kept No w W
  b0 : W.heap[w.heap.size]? = some (.cells #[tv] 22 (0, 0))
  b1 : W.heap[w.heap.size + 1]? = some (.cells #[lv] 30 (0, 0))
  row : ∃ ev, W.heap[w.heap.size + 2]? = some (.cells #[ev] 35 (0, 0)) ∧ EnRow W w.heap.size ev L
  ms : Marks w.heap.size W Ds
theorem CL.no {w W W' : World} {tv lv : Value} {L : List V} {Ds : List Nat} (h : CL w tv lv L Ds W) (hk : Kept No W W') : CL w tv lv L Ds W' := by
  obtain ⟨ev, h1, h2⟩ := h.row
  exact ⟨h.kp.trans hk, hk.heap h.b0 id, hk.heap h.b1 id, ⟨ev, hk.heap h1 id, h2.cellsKept (fun k c e f hh => hk.heap hh id)⟩, ⟨h.ms.nd, fun D hD => hk.heap (h.ms.on D hD) id, h.ms.le⟩⟩
end Go.Proofs.Ytnofmpbdfcolfaa
