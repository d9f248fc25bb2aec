/- Arguments of the laws, opened: values, slices of calls. -/
import Derived.Test.YthefmfjlinpepaaRE
import Derived.ProofKit
import Derived.Deep.Slices
import Derived.Lib.SmallJoins
namespace Go.Proofs.Ythefmfjlinpepaa
open Go.ChangeShapes Go.WideShapes Go.ChangeAt Go.WideMaps Go.WideElems Go.RowKit
set_option linter.unusedVariables false

theorem row_own : ownKnob Try.prog.godebug = none := by kernel_rfl
theorem Try_laidOut : laidOutB Try.prog = true := by kernel_rfl
theorem cellsT2 : Try.prog.cellsOf 2 = 1 := by kernel_rfl
theorem cellsT3 : Try.prog.cellsOf 3 = 1 := by kernel_rfl
theorem cellsT33 : Try.prog.cellsOf 33 = 2 := by kernel_rfl
theorem cellsT35 : Try.prog.cellsOf 35 = 6 := by kernel_rfl

theorem i64_of {a : Int} (h : (Lit.int .i64 a).wf = true) : I64 a := by
  simp only [Lit.wf, IntKind.min, IntKind.max, IntKind.signed, IntKind.bits, Bool.and_eq_true, decide_eq_true_eq, if_true] at h
  unfold I64; omega

/-- A call: its kind, its key, its value, its place. -/
structure Ac where
  kind : Int
  k : Int × Int
  v : Int × Int
  i : Int

/-- The calls that a slice holds. -/
def Acts (w : World) (v : Value) (L : List Ac) : Prop :=
  ∃ ao cap, v = .slice ao L.length cap ∧ (∀ a ∈ L, I64 a.k.2 ∧ I64 a.v.2 ∧ I64 a.i ∧ I64 a.k.1 ∧ I64 a.v.1) ∧ (0 < L.length → ∃ b off, ao = some ⟨b, off, none⟩ ∧ ∀ i a, L[i]? = some a →
    w.cell? ⟨b, off + i * 6, none⟩ = some (.int .i64 a.kind) ∧ w.cell? ⟨b, off + i * 6 + 1, none⟩ = some (.int .i64 a.k.1) ∧ w.cell? ⟨b, off + i * 6 + 2, none⟩ = some (.int .i64 a.k.2) ∧ w.cell? ⟨b, off + i * 6 + 3, none⟩ = some (.int .i64 a.v.1) ∧ w.cell? ⟨b, off + i * 6 + 4, none⟩ = some (.int .i64 a.v.2) ∧ w.cell? ⟨b, off + i * 6 + 5, none⟩ = some (.int .i64 a.i))

theorem add_plain (b off j : Nat) : (⟨b, off, none⟩ : Addr).add j = ⟨b, off + j, none⟩ := by simp [Addr.add]

section
variable {H : Type} {enc : TypeId × Value → H} {W : World} {base : Nat} {spare : Nat → Bool} {held : Bool}

set_option maxRecDepth 100000 in
/-- A value of the language. -/
theorem open_av {fuel : Nat} {cs : List Value} {x : DataW H × List MemPlace} (h : DataW.trod enc Try.prog W base spare held fuel 33 cs = some x) : ∃ t n : Int, cs = [.int .i64 t, .int .i64 n] ∧ I64 t ∧ I64 n := by
  obtain ⟨xs, n, _, rfl, hl, hlen, hf⟩ := DataW.trod_struct Try.underlying33 h
  rw [cellsT33] at hl
  match cs, xs, hl, hlen with
  | [v0, v1], [y0, y1], _, _ =>
    have g0 := hf 0 _ rfl
    have g1 := hf 1 _ rfl
    simp [cellsT2, cellsT3] at g0 g1
    obtain ⟨z0, e0, _, w0⟩ := DataW.trod_int Try.underlying3 g0
    obtain ⟨z1, e1, _, w1⟩ := DataW.trod_int Try.underlying2 g1
    simp only [List.cons.injEq, and_true] at e0 e1
    subst e0 e1
    exact ⟨z0, z1, rfl, i64_of w0, i64_of w1⟩

set_option maxRecDepth 100000 in
theorem open_acts {fuel : Nat} {x : DataW H × List MemPlace} {a0 : Option Addr} {len cap : Nat}
    (h : DataW.trod enc Try.prog W base spare held fuel 22 [.slice a0 len cap] = some x) : ∃ L, Acts W (.slice a0 len cap) L := by
  rcases Deep.open_slice Try.underlying22 h with ⟨hcs, _⟩ | ⟨a, len', cap', m, n, D, Pl, hcs, hb, hl, hm, hmm, _, hx⟩
  · simp at hcs
    obtain ⟨rfl, rfl, rfl⟩ := hcs
    exact ⟨[], none, 0, rfl, by simp, by simp⟩
  · simp at hcs
    obtain ⟨rfl, rfl, rfl⟩ := hcs
    have hlm : len ≤ m := by rw [hmm]; split <;> omega
    have each : ∀ i, i < len → ∃ q : Ac, (W.cell? (a.add (i * 6)) = some (.int .i64 q.kind) ∧ W.cell? (a.add (i * 6 + 1)) = some (.int .i64 q.k.1) ∧ W.cell? (a.add (i * 6 + 2)) = some (.int .i64 q.k.2) ∧ W.cell? (a.add (i * 6 + 3)) = some (.int .i64 q.v.1) ∧ W.cell? (a.add (i * 6 + 4)) = some (.int .i64 q.v.2) ∧ W.cell? (a.add (i * 6 + 5)) = some (.int .i64 q.i)) ∧ (I64 q.k.2 ∧ I64 q.v.2 ∧ I64 q.i ∧ I64 q.k.1 ∧ I64 q.v.1) := by
      intro i hi
      obtain ⟨cs', h1, h2⟩ := hx i (by omega)
      rw [cellsT35] at h1
      obtain ⟨_, hlen, hcell⟩ := World.cells?_some h1
      obtain ⟨y0, y1, y2, y3, n', _, _, g0, g1, g2, g3⟩ := Go.Joins.trod_struct4 Try.underlying35 h2
      match cs', hlen with
      | [v0, v1, v2, v3, v4, v5], _ =>
        simp [cellsT3, cellsT33] at g0 g1 g2 g3
        obtain ⟨z0, e0, _, _⟩ := DataW.trod_int Try.underlying3 g0
        obtain ⟨t1, n1, e1, w1, w2⟩ := open_av g1
        obtain ⟨t2, n2, e2, w3, w4⟩ := open_av g2
        obtain ⟨z3, e3, _, w5⟩ := DataW.trod_int Try.underlying3 g3
        simp only [List.cons.injEq, and_true] at e0 e1 e2 e3
        obtain ⟨e1a, e1b⟩ := e1
        obtain ⟨e2a, e2b⟩ := e2
        subst e0 e1a e1b e2a e2b e3
        have c0 := hcell 0 (by omega)
        have c1 := hcell 1 (by omega)
        have c2 := hcell 2 (by omega)
        have c3 := hcell 3 (by omega)
        have c4 := hcell 4 (by omega)
        have c5 := hcell 5 (by omega)
        rw [Deep.add_add] at c0 c1 c2 c3 c4 c5
        exact ⟨⟨z0, (t1, n1), (t2, n2), z3⟩, ⟨by simpa using c0, by simpa using c1, by simpa using c2, by simpa using c3, by simpa using c4, by simpa using c5⟩, w2, w4, i64_of w5, w1, w3⟩
    haveI : Inhabited Ac := ⟨⟨0, (0, 0), (0, 0), 0⟩⟩
    obtain ⟨q, hq⟩ := Deep.choose_lt each
    refine ⟨(List.range len).map q, some a, cap, by simp, fun y hy => ?_, fun h0 => ?_⟩
    · obtain ⟨i, hi, rfl⟩ := List.mem_map.1 hy
      exact (hq i (List.mem_range.1 hi)).2
    · have hl0 : 0 < len := by simpa using h0
      obtain ⟨b, off, spot⟩ := a
      have hspot : spot = none := by simpa [Addr.add] using World.cell?_spot (hq 0 hl0).1.1
      subst hspot
      refine ⟨b, off, rfl, fun i a' hi => ?_⟩
      have hil : i < len := by
        have := (List.getElem?_eq_some_iff.1 hi).1
        simpa using this
      obtain ⟨⟨c0, c1, c2, c3, c4, c5⟩, _⟩ := hq i hil
      rw [add_plain] at c0 c1 c2 c3 c4 c5
      have ea : a' = q i := by simp [hil] at hi; exact hi.symm
      rw [ea]
      exact ⟨c0, c1, c2, c3, c4, c5⟩
end
end Go.Proofs.Ythefmfjlinpepaa
