/- Arguments of the laws, opened: values, heads, slices of cells, objects. -/
import Derived.Test.YtnmchcanijkggaaV1
import Derived.ProofKit
import Derived.Deep.Slices
import Derived.Lib.SmallJoins
namespace Go.Proofs.Ytnmchcanijkggaa
open Go.ChangeShapes Go.WideShapes Go.ChangeAt Go.WideMaps Go.WideElems Go.RowKit
set_option linter.unusedVariables false

theorem row_own : ownKnob Try.prog.godebug = none := by kernel_rfl
theorem Try_laidOut : laidOutB Try.prog = true := by kernel_rfl
theorem cellsT2 : Try.prog.cellsOf 2 = 1 := by kernel_rfl
theorem cellsT3 : Try.prog.cellsOf 3 = 1 := by kernel_rfl
theorem cellsT23 : Try.prog.cellsOf 23 = 8 := by kernel_rfl
theorem cellsT38 : Try.prog.cellsOf 38 = 2 := by kernel_rfl
theorem cellsT40 : Try.prog.cellsOf 40 = 1 := by kernel_rfl
theorem cellsT41 : Try.prog.cellsOf 41 = 1 := by kernel_rfl
theorem cellsT43 : Try.prog.cellsOf 43 = 10 := by kernel_rfl

theorem i64_of {a : Int} (h : (Lit.int .i64 a).wf = true) : I64 a := by
  simp only [Lit.wf, IntKind.min, IntKind.max, IntKind.signed, IntKind.bits, Bool.and_eq_true, decide_eq_true_eq, if_true] at h
  unfold I64; omega

section
variable {H : Type} {enc : TypeId × Value → H} {W : World} {base : Nat} {spare : Nat → Bool} {held : Bool}

/-- A value of the language. -/
theorem open_av {fuel : Nat} {cs : List Value} {x : DataW H × List MemPlace} (h : DataW.trod enc Try.prog W base spare held fuel 38 cs = some x) : ∃ t n : Int, cs = [.int .i64 t, .int .i64 n] ∧ I64 t ∧ I64 n := by
  obtain ⟨xs, n, _, rfl, hl, hlen, hf⟩ := DataW.trod_struct Try.underlying38 h
  rw [cellsT38] at hl
  match cs, xs, hl, hlen with
  | [v0, v1], [y0, y1], _, _ =>
    have g0 := hf 0 _ rfl
    have g1 := hf 1 _ rfl
    simp [cellsT2, cellsT3] at g0 g1
    obtain ⟨z0, e0, _, w0⟩ := DataW.trod_int Try.underlying3 g0
    obtain ⟨z1, e1, _, w1⟩ := DataW.trod_int Try.underlying2 g1
    simp only [List.cons.injEq, and_true] at e0 e1
    subst e0 e1
    exact ⟨z0, z1, rfl, i64_of w0, i64_of w1⟩

/-- A head. -/
theorem open_hd {fuel : Nat} {cs : List Value} {x : DataW H × List MemPlace} (h : DataW.trod enc Try.prog W base spare held fuel 23 cs = some x) :
    ∃ g : Hd, cs = [.int .i64 g.k, .int .i64 g.c, .int .i64 g.a, .int .i64 g.w, .int .i64 g.s, .int .i64 g.f, .int .i64 g.x, .int .i64 g.l] := by
  obtain ⟨xs, n, _, rfl, hl, hlen, hf⟩ := DataW.trod_struct Try.underlying23 h
  rw [cellsT23] at hl
  match cs, xs, hl, hlen with
  | [v0, v1, v2, v3, v4, v5, v6, v7], [y0, y1, y2, y3, y4, y5, y6, y7], _, _ =>
    have g0 := hf 0 _ rfl
    have g1 := hf 1 _ rfl
    have g2 := hf 2 _ rfl
    have g3 := hf 3 _ rfl
    have g4 := hf 4 _ rfl
    have g5 := hf 5 _ rfl
    have g6 := hf 6 _ rfl
    have g7 := hf 7 _ rfl
    simp [cellsT3] at g0 g1 g2 g3 g4 g5 g6 g7
    obtain ⟨z0, e0, _, _⟩ := DataW.trod_int Try.underlying3 g0
    obtain ⟨z1, e1, _, _⟩ := DataW.trod_int Try.underlying3 g1
    obtain ⟨z2, e2, _, _⟩ := DataW.trod_int Try.underlying3 g2
    obtain ⟨z3, e3, _, _⟩ := DataW.trod_int Try.underlying3 g3
    obtain ⟨z4, e4, _, _⟩ := DataW.trod_int Try.underlying3 g4
    obtain ⟨z5, e5, _, _⟩ := DataW.trod_int Try.underlying3 g5
    obtain ⟨z6, e6, _, _⟩ := DataW.trod_int Try.underlying3 g6
    obtain ⟨z7, e7, _, _⟩ := DataW.trod_int Try.underlying3 g7
    simp only [List.cons.injEq, and_true] at e0 e1 e2 e3 e4 e5 e6 e7
    subst e0 e1 e2 e3 e4 e5 e6 e7
    exact ⟨⟨z0, z1, z2, z3, z4, z5, z6, z7⟩, rfl⟩

/-- A slice of cells. -/
theorem open_zs {fuel : Nat} {v : Value} {x : DataW H × List MemPlace} (h : DataW.trod enc Try.prog W base (fun _ => true) held fuel 40 [v] = some x) : ∃ zs, SliceIs W v zs ∧ Iall zs ∧ RoomOK v := by
  rcases open_ints Try.underlying40 Try.underlying2 cellsT2 h with ⟨hcs, hx⟩ | ⟨a, len, cap, zs, hcs, _, hl, hm, hz, hx, hcell, hwz⟩
  · simp at hcs
    subst hcs
    refine ⟨[], Or.inl ⟨none, rfl, rfl⟩, ?_, ?_⟩
    · intro z hz; cases hz
    · intro ao n c e; injection e with e1 e2 e3; omega
  · simp at hcs
    subst hcs
    simp only [if_true] at hz
    have hroom : RoomOK (.slice (some a) len cap) := by
      intro ao n c e; injection e with e1 e2 e3; unfold maxLen at hm; omega
    by_cases h0 : cap = 0
    · subst h0
      obtain rfl : len = 0 := by omega
      refine ⟨[], Or.inl ⟨_, rfl, rfl⟩, ?_, hroom⟩
      intro z hz; cases hz
    · obtain ⟨b, off, spot⟩ := a
      have hspot : spot = none := by simpa [Addr.add] using World.cell?_spot (hcell 0 (by omega))
      subst hspot
      refine ⟨zs.take len, Or.inr ⟨b, off, cap, by rw [List.length_take]; congr 1; omega, fun i hi' => ?_⟩, fun z hz' => i64_of (hwz z (List.mem_of_mem_take hz')), hroom⟩
      rw [List.length_take] at hi'
      have h := hcell i (by omega)
      rw [add_plain] at h
      rw [h]
      simp [List.getD, show i < len by omega]

/-- A slice of values. -/
theorem open_ps {fuel : Nat} {v : Value} {x : DataW H × List MemPlace} (h : DataW.trod enc Try.prog W base (fun _ => true) held fuel 41 [v] = some x) : ∃ ps, PairsIs W v ps ∧ Pall ps := by
  rcases Deep.open_slice Try.underlying41 h with ⟨hcs, _⟩ | ⟨a, len, cap, m, n, D, Pl, hcs, hb, hl, hm, hmm, _, hx⟩
  · simp at hcs
    subst hcs
    refine ⟨[], Or.inl ⟨none, rfl, rfl⟩, ?_⟩
    intro p hp; cases hp
  · simp at hcs
    subst hcs
    simp only [if_true] at hmm
    have each : ∀ i, i < m → ∃ q : Int × Int, W.cell? (a.add (i * 2)) = some (.int .i64 q.1) ∧ W.cell? (a.add (i * 2 + 1)) = some (.int .i64 q.2) ∧ I64 q.1 ∧ I64 q.2 := by
      intro i hi
      obtain ⟨cs', h1, h2⟩ := hx i (by omega)
      rw [cellsT38] at h1
      obtain ⟨_, hlen, hcell⟩ := World.cells?_some h1
      obtain ⟨t, n', rfl, w0, w1⟩ := open_av h2
      have c0 := hcell 0 (by omega)
      have c1 := hcell 1 (by omega)
      rw [Deep.add_add] at c0 c1
      exact ⟨(t, n'), by simpa using c0, by simpa using c1, w0, w1⟩
    by_cases h0 : cap = 0
    · subst h0
      obtain rfl : len = 0 := by omega
      refine ⟨[], Or.inl ⟨_, rfl, rfl⟩, ?_⟩
      intro p hp; cases hp
    · obtain ⟨q, hq⟩ := Deep.choose_lt each
      obtain ⟨b, off, spot⟩ := a
      have hspot : spot = none := by simpa [Addr.add] using World.cell?_spot (hq 0 (by omega)).1
      subst hspot
      refine ⟨(List.range len).map q, Or.inr ⟨b, off, cap, by simp, fun i hi => ?_⟩, fun y hy => ?_⟩
      · have hil : i < len := by simpa using hi
        obtain ⟨c0, c1, _, _⟩ := hq i (by omega)
        rw [add_plain] at c0 c1
        have e : ((List.range len).map q).getD i (0, 0) = q i := by simp [List.getD, hil]
        rw [e]
        exact ⟨c0, c1⟩
      · obtain ⟨i, hi, rfl⟩ := List.mem_map.1 hy
        have := hq i (by have := List.mem_range.1 hi; omega)
        exact this.2.2

/-- An object. -/
theorem open_ob {fuel : Nat} {cs : List Value} {x : DataW H × List MemPlace} (h : DataW.trod enc Try.prog W base (fun _ => true) held fuel 43 cs = some x) :
    ∃ (g : Hd) (av sv : Value) (zs : List Int) (ps : List (Int × Int)), cs = [.int .i64 g.k, .int .i64 g.c, .int .i64 g.a, .int .i64 g.w, .int .i64 g.s, .int .i64 g.f, .int .i64 g.x, .int .i64 g.l, av, sv] ∧ SliceIs W av zs ∧ Iall zs ∧ RoomOK av ∧ PairsIs W sv ps ∧ Pall ps := by
  obtain ⟨xs, n, _, rfl, hl, hlen, hf⟩ := DataW.trod_struct Try.underlying43 h
  rw [cellsT43] at hl
  match cs, xs, hl, hlen with
  | [v0, v1, v2, v3, v4, v5, v6, v7, v8, v9], [y0, y1, y2], _, _ =>
    have g0 := hf 0 _ rfl
    have g1 := hf 1 _ rfl
    have g2 := hf 2 _ rfl
    simp [cellsT23, cellsT40, cellsT41] at g0 g1 g2
    obtain ⟨g, e⟩ := open_hd g0
    obtain ⟨zs, z1, z2, z3⟩ := open_zs g1
    obtain ⟨ps, p1, p2⟩ := open_ps g2
    refine ⟨g, v8, v9, zs, ps, ?_, z1, z2, z3, p1, p2⟩
    simp only [List.cons.injEq, and_true] at e
    obtain ⟨rfl, rfl, rfl, rfl, rfl, rfl, rfl, rfl⟩ := e
    rfl
end
end Go.Proofs.Ytnmchcanijkggaa
