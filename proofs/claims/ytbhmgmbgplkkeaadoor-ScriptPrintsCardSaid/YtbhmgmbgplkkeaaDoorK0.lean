/- What every statement of this seat starts from: the listed variables as the program's own text lays them; a form of the row that keeps the world's shape. -/
import Derived.Test.YtbhmgmbgplkkeaaDoorR1
import Derived.Stop.LaidErr
namespace Go.Proofs.YtbhmgmbgplkkeaaDoor
open Go.ChangeShapes Go.WideShapes Go.ChangeAt Go.WideMaps Go.WideElems Go.RowKit
set_option linter.unusedSimpArgs false
set_option linter.unusedVariables false

/-- The row's lists. -/
abbrev laidA : List (String × DataW Unit) := Rows.scriptShrinksRow.laid
abbrev laidB : List (String × DataW Unit) := Rows.scriptPrintsRow.laid
theorem door_metA (os : Os) (args : Array Value) : laidMetH Tryd.prog laidA ((World.doorLaid Tryd.prog 62 os).forCall (fun _ _ => 0) ⟨#[], args, []⟩).memory :=
  laidMetH_of_parts3 (fuel := 8) (laidMet_of_run' 8 (by kernel_rfl) (by kernel_rfl)) (by kernel_rfl) (by kernel_rfl)
theorem door_metB (os : Os) (args : Array Value) : laidMetH Tryd.prog laidB ((World.doorLaid Tryd.prog 62 os).forCall (fun _ _ => 0) ⟨#[], args, []⟩).memory :=
  laidMetH_of_parts3 (fuel := 8) (laidMet_of_run' 8 (by kernel_rfl) (by kernel_rfl)) (by kernel_rfl) (by kernel_rfl)

theorem gA : Tryd.prog.globalNamed (laidA[0]'(by decide)).1 = some 0 := by kernel_rfl
theorem gB : Tryd.prog.globalNamed (laidB[3]'(by decide)).1 = some 0 := by kernel_rfl
theorem g10 : Tryd.prog.globalNamed (laidB[2]'(by decide)).1 = some 2 := by kernel_rfl
theorem tR : (Tryd.prog.globals[0]?).map (·.type) = some 90 := by kernel_rfl
theorem t10 : (Tryd.prog.globals[2]?).map (·.type) = some 105 := by kernel_rfl

set_option maxRecDepth 100000
/-- A row as it is read. -/
def rowD {H : Type} (r : Row) : DataW H := .agg [.lit (.int .i64 r.kind), .lit (.string r.word), .lit (.bool r.num), .lit (.int .i64 r.most)]
theorem row_cells {H : Type} {enc : TypeId × Value → H} {w : World} {base : Nat} {sp : Nat → Bool} {held : Bool} {fuel : Nat} {cs : List Value} {r : Row} {p : List MemPlace}
    (h : DataW.trod enc Tryd.prog w base sp held fuel 79 cs = some (rowD r, p)) : cs = rowC r := by
  obtain ⟨xs, n, _, hD, hl, hlen, hf⟩ := DataW.trod_struct Tryd.underlying79 h
  rw [cellsT79] at hl
  match cs, xs, hl, hlen with
  | [v0, v1, v2, v3], [y0, y1, y2, y3], _, _ =>
    have q0 := hf 0 _ rfl
    have q1 := hf 1 _ rfl
    have q2 := hf 2 _ rfl
    have q3 := hf 3 _ rfl
    simp [cellsT3, cellsT4, cellsT9] at q0 q1 q2 q3
    obtain ⟨z0, e0, x0, _⟩ := DataW.trod_int Tryd.underlying3 q0
    obtain ⟨s1, e1, x1, _⟩ := DataW.trod_string Tryd.underlying9 q1
    obtain ⟨b2, e2, x2⟩ := DataW.trod_bool Tryd.underlying4 q2
    obtain ⟨z3, e3, x3, _⟩ := DataW.trod_int Tryd.underlying3 q3
    simp only [List.cons.injEq, and_true] at e0 e1 e2 e3
    have hd := (Prod.mk.inj hD).1
    rw [x0, x1, x2, x3] at hd
    unfold rowD at hd
    simp only [List.map_cons, List.map_nil, DataW.agg.injEq, List.cons.injEq, DataW.lit.injEq, Lit.int.injEq, Lit.string.injEq, Lit.bool.injEq, and_true, true_and] at hd
    obtain ⟨h0, h1, h2, h3⟩ := hd
    rw [e0, e1, e2, e3]
    unfold rowC
    rw [h0, h1, h2, h3]
/-- An array of rows. -/
theorem tab_cells {H : Type} {enc : TypeId × Value → H} {w : World} {base : Nat} {sp : Nat → Bool} {held : Bool} {fuel : Nat} {cs : List Value} {p : List MemPlace}
    (h : DataW.trod enc Tryd.prog w base sp held fuel 90 cs = some (.agg (rowsL.map rowD), p)) : cs = tabV := by
  cases fuel with
  | zero => simp [DataW.trod] at h
  | succ fuel =>
    simp only [DataW.trod, Tryd.underlying90, cellsT79, cellsT90] at h
    split at h
    · rename_i hlen
      obtain ⟨xs, hm, hx⟩ := Option.map_eq_some_iff.1 h
      have hxs : xs.map (·.1) = rowsL.map (fun r => (rowD r : DataW H)) := by
        have := congrArg Prod.fst hx
        simpa using this
      have hxl : xs.length = 6 := by simpa using Lib.mapM_length hm
      have each : ∀ i (hi : i < 6), (cs.drop (i * 4)).take 4 = rowC (rowsL.getD i r0) := fun i hi => by
        obtain ⟨b, hb, hf⟩ := Lib.mapM_at hm i i (by simp [hi])
        have h2 : (xs.map (·.1))[i]? = some b.1 := by simp [hb]
        rw [hxs, List.getElem?_map] at h2
        obtain ⟨r, hr, hrb⟩ := Option.map_eq_some_iff.1 h2
        have hg : rowsL.getD i r0 = r := by simp [List.getD, hr]
        rw [hg]
        exact row_cells (p := b.2) (by rw [hrb]; exact hf)
      have e : cs = (cs.drop (0 * 4)).take 4 ++ ((cs.drop (1 * 4)).take 4 ++ ((cs.drop (2 * 4)).take 4 ++ ((cs.drop (3 * 4)).take 4 ++ ((cs.drop (4 * 4)).take 4 ++ (cs.drop (5 * 4)).take 4)))) := by
        match cs, hlen with
        | [a0, a1, a2, a3, a4, a5, a6, a7, a8, a9, b0, b1, b2, b3, b4, b5, b6, b7, b8, b9, c0, c1, c2, c3], _ => rfl
      rw [e, each 0 (by decide), each 1 (by decide), each 2 (by decide), each 3 (by decide), each 4 (by decide), each 5 (by decide)]
      rfl
    · cases h
theorem rows_of_var {W : World} {cs : Array Value} {n : String} (hg : Tryd.prog.globalNamed n = some 0) (hvar : W.var? Tryd.prog n = some cs) (hcs : cs.toList = tabV) : RowsIs W := by
  intro j v hv
  have := World.var?_cell hg hvar j
  rw [← Array.getElem?_toList, hcs] at this
  rw [Nat.zero_add, this]
  exact hv
theorem rows_of_laidA {W : World} (h : laidMetH Tryd.prog laidA W) : RowsIs W := by
  rw [MakeChecks.laidMetH_plain _ _ _ (by kernel_rfl)] at h
  obtain ⟨ps, ⟨g', t', cs, fuel, p, q, hg', ht', hvar, hd, _, _⟩, _⟩ := h
  obtain rfl := Option.some.inj (gA.symm.trans hg')
  obtain rfl := Option.some.inj (tR.symm.trans ht')
  exact rows_of_var gA hvar (tab_cells hd)
theorem rows_of_laidB {W : World} (h : laidMetH Tryd.prog laidB W) : RowsIs W := by
  rw [MakeChecks.laidMetH_plain _ _ _ (by kernel_rfl)] at h
  have h2 := laidMet.tail (laidMet.tail (laidMet.tail h))
  obtain ⟨ps, ⟨g', t', cs, fuel, p, q, hg', ht', hvar, hd, _, _⟩, _⟩ := h2
  obtain rfl := Option.some.inj (gB.symm.trans hg')
  obtain rfl := Option.some.inj (tR.symm.trans ht')
  exact rows_of_var gB hvar (tab_cells hd)
theorem max_of_shaped {W : World} (h : W.ShapedOpen Tryd.prog) : MaxIs W :=
  Go.Proofs.cell_of_shapedOpen_int (zero := #[.int .i64 0]) (t := 3) h (of_decide_eq_true (by kernel_rfl)) (by kernel_rfl) rfl (by kernel_rfl) (by kernel_rfl) Tryd.underlying3
/-- The powers of ten. -/
def TenIs (W : World) : Prop := Lib.TabIs Tryd.prog W (laidB[2]'(by decide)).1 .u64 Lib.pow10Tab
theorem ten_eq : Lib.pow10Tab = [1, 10, 100, 1000, 10000, 100000, 1000000, 10000000, 100000000, 1000000000, 10000000000, 100000000000, 1000000000000, 10000000000000, 100000000000000, 1000000000000000, 10000000000000000, 100000000000000000, 1000000000000000000, 10000000000000000000] := by decide +kernel
theorem ten_of_laid {W : World} (h : laidMetH Tryd.prog laidB W) : TenIs W := by
  rw [MakeChecks.laidMetH_plain _ _ _ (by kernel_rfl)] at h
  have h2 := laidMet.tail (laidMet.tail h)
  unfold TenIs
  rw [ten_eq]
  exact Lib.tabIs_of_head (zs := [1, 10, 100, 1000, 10000, 100000, 1000000, 10000000, 100000000, 1000000000, 10000000000, 100000000000, 1000000000000, 10000000000000, 100000000000000, 1000000000000000, 10000000000000000, 100000000000000000, 1000000000000000000, 10000000000000000000]) g10 t10 Tryd.underlying105 Tryd.underlying84 (by kernel_rfl) (by kernel_rfl) h2

/-- The row's form with the world's shape and the list handed on. -/
theorem returns_and_shaped {H : Type} {enc : TypeId × Value → H} {a : Assume} {C : Checked} {os : Os} {f : FuncId} {fn : Func} {s : ChangeSpec} {conds : List PathCond} {apart fresh handsOn again : Bool} {X : World → Array Value → Prop}
    (hX : ∀ (w w' : World) (args : Array Value), w.heap = w'.heap → X w args → X w' args)
    (own : ownKnob C.prog.godebug = none) (started : os.Started) (noInit : C.prog.inits.idxOf? f = none) (hfn : C.prog.funcs[f]? = some fn)
    (witness : ∃ (w : World) (tape : Tape) (i : Input), w.os = os ∧ (w.forCall tape i).Shaped C.prog ∧ i.vars = [] ∧ Input.okWide C.prog (w.forCall tape i) .any w.heap.size f i ∧
      ((s.pre enc C.prog fn conds apart (w.forCall tape i).memory i.args ∧ X (w.forCall tape i).memory i.args) ∧ sizedMet enc C.prog fn (OpenSpec.ofChange s) apart (w.forCall tape i).memory i.args) ∧ a.holds C.prog (lone (Frame.enter C.prog f i.args .normal) [] (w.forCall tape i)))
    (contract : ∀ (W : World) (base : Nat) (args : Array Value) (ds gs : List (DataW H)) (before : List MemPlace),
      (∀ (j : Nat) t v, fn.params[j]? = some t → args[j]? = some v → Value.okWide C.prog W .any base t v) →
      DataW.Whole enc C.prog fn.params.toList s.vars apart W args.toList ds gs before →
      conds.all (PathCond.test C.prog ⟨fn.params.toList, ds, s.plain.varTypes C.prog, gs⟩) = true →
      (DataW.weightsEach C.prog (fn.params.toList ++ s.plain.varTypes C.prog) (ds ++ gs)).all (· ≤ reachBytes) = true → X W args → W.ShapedOpen C.prog →
      a.holds C.prog (lone (Frame.enter C.prog f args .normal) [] W) →
      Calls C.prog f args W fun e W' => ∃ v, e = .returned v ∧ s.post enc C.prog fn apart fresh handsOn again W args v W') :
    ReturnsInHanded a C os f .any (fun w args => (s.pre enc C.prog fn conds apart w args ∧ X w args) ∧ sizedMet enc C.prog fn (OpenSpec.ofChange s) apart w args) (s.post enc C.prog fn apart fresh handsOn again) := by
  refine returnsInHanded_of_calls own started noInit witness ?_
  intro w tape i _ hsh _ hok hpre hholds
  obtain ⟨_, _, _, fn', hfn', _, _, _, _, hval⟩ := hok
  have e : fn' = fn := Option.some.inj (hfn'.symm.trans hfn)
  subst e
  obtain ⟨⟨⟨ds, gs, before, hw, hc⟩, hx⟩, hz⟩ := hpre
  have hw' := DataW.Whole.of_heap (w' := w.forCall tape i) (by rfl) hw
  refine (contract (w.forCall tape i) w.heap.size i.args ds gs before hval hw' hc (hz.weights hw) (hX _ _ _ (by rfl) hx) hsh hholds).mono fun e W' ⟨v, he, hp⟩ => ?_
  subst he
  exact ChangeSpec.post_blind hp
end Go.Proofs.YtbhmgmbgplkkeaaDoor
