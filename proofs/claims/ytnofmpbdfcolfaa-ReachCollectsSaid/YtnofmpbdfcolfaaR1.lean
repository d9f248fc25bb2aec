/- Arguments of the laws, opened: graphs. -/
import Derived.Test.YtnofmpbdfcolfaaH2
import Derived.ProofKit
import Derived.Deep.Slices
import Derived.Lib.SmallJoins
import Derived.SizedLaws
namespace Go.Proofs.Ytnofmpbdfcolfaa
open Go.ChangeShapes Go.WideShapes Go.ChangeAt Go.WideMaps Go.WideElems Go.RowKit
set_option linter.unusedSimpArgs false
set_option linter.unusedVariables false

theorem row_own : ownKnob Try.prog.godebug = none := by kernel_rfl
theorem Try_laidOut : laidOutB Try.prog = true := by kernel_rfl
theorem cellsT2 : Try.prog.cellsOf 2 = 1 := by kernel_rfl
theorem cellsT3 : Try.prog.cellsOf 3 = 1 := by kernel_rfl
theorem cellsT22 : Try.prog.cellsOf 22 = 1 := by kernel_rfl
theorem cellsT23 : Try.prog.cellsOf 23 = 1 := by kernel_rfl
theorem cellsT25 : Try.prog.cellsOf 25 = 2 := by kernel_rfl
theorem cellsT40 : Try.prog.cellsOf 40 = 2 := by kernel_rfl
theorem cellsT43 : Try.prog.cellsOf 43 = 5 := by kernel_rfl
theorem bytesT40 : Try.prog.bytesOf 40 = 16 := by kernel_rfl
theorem bytesT43 : Try.prog.bytesOf 43 = 56 := by kernel_rfl
theorem add_plain (b off j : Nat) : (⟨b, off, none⟩ : Addr).add j = ⟨b, off + j, none⟩ := by simp [Addr.add]

section
variable {H : Type} {enc : TypeId × Value → H} {W : World} {base : Nat} {spare : Nat → Bool} {hld : Bool}

theorem weights_all {P : Program} {e : TypeId} {d : DataW H} {n : Nat} (hn : n ∈ d.weights P e) : ∀ l : List (DataW H), d ∈ l → n ∈ DataW.weightsAll P e l
  | [], h => by simp at h
  | x :: r, h => by
    simp only [DataW.weightsAll, List.mem_append]
    rcases List.mem_cons.1 h with rfl | h
    · exact .inl hn
    · exact .inr (weights_all hn r h)

set_option maxRecDepth 100000 in
theorem open_av {fuel : Nat} {cs : List Value} {x : DataW H × List MemPlace} (h : DataW.trod enc Try.prog W base spare hld fuel 40 cs = some x) : ∃ v : V, cs = [.int .i64 v.1, .int .i64 v.2] := by
  obtain ⟨xs, n, _, rfl, hl, hlen, hf⟩ := DataW.trod_struct Try.underlying40 h
  rw [cellsT40] at hl
  match cs, xs, hl, hlen with
  | [v0, v1], [y0, y1], _, _ =>
    have g0 := hf 0 _ rfl
    have g1 := hf 1 _ rfl
    simp [cellsT2, cellsT3] at g0 g1
    obtain ⟨z0, e0, _, w0⟩ := DataW.trod_int Try.underlying3 g0
    obtain ⟨z1, e1, _, w1⟩ := DataW.trod_int Try.underlying2 g1
    simp only [List.cons.injEq, and_true] at e0 e1
    subst e0 e1
    exact ⟨(z0, z1), rfl⟩

set_option maxRecDepth 100000 in
/-- A slice of values. -/
theorem open_vs {fuel : Nat} {v : Value} {x : DataW H × List MemPlace} {R : Nat} (h : DataW.trod enc Try.prog W base spare hld fuel 23 [v] = some x) (hR : ∀ n ∈ x.1.weights Try.prog 23, n ≤ R) :
    ∃ L : List V, RdV W v L ∧ (v = .slice none 0 0 ∨ ∃ a cap, v = .slice (some a) L.length cap) ∧ L.length ≤ R := by
  rcases Deep.open_slice Try.underlying23 h with ⟨hcs, _⟩ | ⟨a, len, cap, m, n, D, Pl, hcs, hb, hl, hm, hmm, hx1, hx⟩
  · simp at hcs
    subst hcs
    exact ⟨[], ⟨none, 0, rfl, fun j hj => by simp at hj⟩, .inl rfl, by simp⟩
  · simp at hcs
    subst hcs
    have hlm : len ≤ m := by rw [hmm]; split <;> omega
    have each : ∀ i, i < len → ∃ q : V, W.cell? (a.add (i * 2)) = some (.int .i64 q.1) ∧ W.cell? (a.add (i * 2 + 1)) = some (.int .i64 q.2) := by
      intro i hi
      obtain ⟨cs', h1, h2⟩ := hx i (by omega)
      rw [cellsT40] at h1
      obtain ⟨_, hlen, hcell⟩ := World.cells?_some h1
      obtain ⟨q, rfl⟩ := open_av h2
      have c0 := hcell 0 (by simp)
      have c1 := hcell 1 (by simp)
      rw [Deep.add_add] at c0 c1
      exact ⟨q, by simpa using c0, by simpa using c1⟩
    obtain ⟨q, hq⟩ := Deep.choose_lt each
    have hlR : len ≤ R := by
      rw [hx1] at hR
      simp only [DataW.weights, Try.underlying23, List.mem_cons, List.mem_append] at hR
      have := hR _ (.inl rfl)
      simp only [List.length_map, List.length_range, bytesT40] at this
      omega
    refine ⟨(List.range len).map q, ⟨some a, cap, by simp, fun j hj => ?_⟩, .inr ⟨a, cap, by simp⟩, by simpa using hlR⟩
    have hjl : j < len := by simpa using hj
    obtain ⟨c0, c1⟩ := hq j hjl
    obtain ⟨b, off, spot⟩ := a
    have hspot : spot = none := by simpa [Addr.add] using World.cell?_spot (hq 0 (by omega)).1
    subst hspot
    rw [add_plain] at c0 c1
    refine ⟨b, off, rfl, ?_, ?_⟩
    · rw [List.getElem_map, List.getElem_range]; exact c0
    · rw [List.getElem_map, List.getElem_range, Nat.add_assoc]; exact c1

set_option maxRecDepth 100000 in
/-- A slice of things. -/
theorem open_ths {fuel : Nat} {v : Value} {x : DataW H × List MemPlace} {R : Nat} (h : DataW.trod enc Try.prog W base spare hld fuel 22 [v] = some x) (hR : ∀ n ∈ x.1.weights Try.prog 22, n ≤ R) :
    ∃ T : List Th, RdT W v T ∧ (∀ t ∈ T, t.sl.length ≤ R ∧ wf t.fin) ∧ T.length ≤ R := by
  rcases Deep.open_slice Try.underlying22 h with ⟨hcs, _⟩ | ⟨a, len, cap, m, n, D, Pl, hcs, hb, hl, hm, hmm, hx1, hx⟩
  · simp at hcs
    subst hcs
    exact ⟨[], ⟨none, 0, rfl, fun j hj => by simp at hj⟩, by simp, by simp⟩
  · simp at hcs
    subst hcs
    have hlm : len ≤ m := by rw [hmm]; split <;> omega
    rw [hx1] at hR
    simp only [DataW.weights, Try.underlying22, List.mem_cons, List.mem_append] at hR
    have hlR : len ≤ R := by
      have := hR _ (.inl rfl)
      simp only [List.length_map, List.length_range, bytesT43] at this
      omega
    have each : ∀ i, i < len → ∃ q : Th × Value, (W.cell? (a.add (i * 5)) = some (.int .i64 q.1.kind) ∧ W.cell? (a.add (i * 5 + 1)) = some (.int .i64 q.1.weak) ∧ W.cell? (a.add (i * 5 + 2)) = some (.int .i64 q.1.arr) ∧ W.cell? (a.add (i * 5 + 3)) = some q.2 ∧ W.cell? (a.add (i * 5 + 4)) = some (.int .i64 q.1.fin)) ∧ RdV W q.2 q.1.sl ∧ q.1.sl.length ≤ R ∧ wf q.1.fin := by
      intro i hi
      obtain ⟨cs', h1, h2⟩ := hx i (by omega)
      rw [cellsT43] at h1
      obtain ⟨_, hlen, hcell⟩ := World.cells?_some h1
      obtain ⟨xs, n', _, hD, hl', hlen', hf⟩ := DataW.trod_struct Try.underlying43 h2
      match cs', xs, hlen, hlen' with
      | [v0, v1, v2, v3, v4], [y0, y1, y2, y3, y4], _, _ =>
        have g0 := hf 0 _ rfl
        have g1 := hf 1 _ rfl
        have g2 := hf 2 _ rfl
        have g3 := hf 3 _ rfl
        have g4 := hf 4 _ rfl
        simp [cellsT3, cellsT23] at g0 g1 g2 g3 g4
        obtain ⟨z0, e0, _, _⟩ := DataW.trod_int Try.underlying3 g0
        obtain ⟨z1, e1, _, _⟩ := DataW.trod_int Try.underlying3 g1
        obtain ⟨z2, e2, _, _⟩ := DataW.trod_int Try.underlying3 g2
        obtain ⟨z4, e4, _, w4⟩ := DataW.trod_int Try.underlying3 g4
        have hd : D i = .agg [y0.1, y1.1, y2.1, y3.1, y4.1] := (Prod.mk.inj hD).1
        obtain ⟨L, r1, _, r3⟩ := open_vs (R := R) g3 (fun k hk => hR k (.inr (.inl (weights_all (d := D i) (by
          rw [hd]
          simp only [DataW.weights, Try.underlying43]
          exact DataW.weights_mem_each (j := 3) (t := 23) (d := y3.1) rfl rfl _ hk) _ (List.mem_map.2 ⟨i, List.mem_range.2 hi, rfl⟩)))))
        simp only [List.cons.injEq, and_true] at e0 e1 e2 e4
        subst e0 e1 e2 e4
        have c0 := hcell 0 (by simp)
        have c1 := hcell 1 (by simp)
        have c2 := hcell 2 (by simp)
        have c3 := hcell 3 (by simp)
        have c4 := hcell 4 (by simp)
        rw [Deep.add_add] at c0 c1 c2 c3 c4
        exact ⟨(⟨z0, z1, z2, L, z4⟩, v3), ⟨by simpa using c0, by simpa using c1, by simpa using c2, by simpa using c3, by simpa using c4⟩, r1, r3, w4⟩
    haveI : Inhabited (Th × Value) := ⟨(⟨0, 0, 0, [], 0⟩, undef)⟩
    obtain ⟨q, hq⟩ := Deep.choose_lt each
    refine ⟨(List.range len).map fun i => (q i).1, ⟨some a, cap, by simp, fun j hj => ?_⟩, fun t ht => ?_, by simpa using hlR⟩
    · have hjl : j < len := by simpa using hj
      obtain ⟨⟨c0, c1, c2, c3, c4⟩, r, _⟩ := hq j hjl
      obtain ⟨b, off, spot⟩ := a
      have hspot : spot = none := by simpa [Addr.add] using World.cell?_spot (hq 0 (by omega)).1.1
      subst hspot
      rw [add_plain] at c0 c1 c2 c3 c4
      refine ⟨b, off, (q j).2, rfl, ?_, ?_, ?_, ?_, ?_, ?_⟩
      · rw [List.getElem_map, List.getElem_range]; exact c0
      · rw [List.getElem_map, List.getElem_range, Nat.add_assoc]; exact c1
      · rw [List.getElem_map, List.getElem_range, Nat.add_assoc]; exact c2
      · rw [Nat.add_assoc]; exact c3
      · rw [List.getElem_map, List.getElem_range, Nat.add_assoc]; exact c4
      · rw [List.getElem_map, List.getElem_range]; exact r
    · obtain ⟨i, hi, rfl⟩ := List.mem_map.1 ht
      have := hq i (List.mem_range.1 hi)
      exact ⟨this.2.2.1, this.2.2.2⟩

set_option maxRecDepth 100000 in
/-- A graph. -/
theorem open_graph {fuel : Nat} {cs : List Value} {x : DataW H × List MemPlace} {M : Nat} (h : DataW.trod enc Try.prog W base spare hld fuel 25 cs = some x) (hM : ∀ n ∈ x.1.weights Try.prog 25, n ≤ M) :
    ∃ (tv rv : Value) (T : List Th) (R : List V), cs = [tv, rv] ∧ RdT W tv T ∧ RdV W rv R ∧ (rv = .slice none 0 0 ∨ ∃ a cap, rv = .slice (some a) R.length cap) ∧ T.length ≤ M ∧ R.length ≤ M ∧ ∀ t ∈ T, t.sl.length ≤ M ∧ wf t.fin := by
  obtain ⟨xs, n, _, hD, hl, hlen, hf⟩ := DataW.trod_struct Try.underlying25 h
  rw [cellsT25] at hl
  match cs, xs, hl, hlen with
  | [v0, v1], [y0, y1], _, _ =>
    have g0 := hf 0 _ rfl
    have g1 := hf 1 _ rfl
    simp [cellsT22, cellsT23] at g0 g1
    have hd : x.1 = .agg [y0.1, y1.1] := by rw [hD]; rfl
    have hw : ∀ k, (k ∈ y0.1.weights Try.prog 22 ∨ k ∈ y1.1.weights Try.prog 23) → k ≤ M := fun k hk => hM k (by
      rw [hd]
      simp only [DataW.weights, Try.underlying25]
      rcases hk with hk | hk
      · exact DataW.weights_mem_each (j := 0) (t := 22) (d := y0.1) rfl rfl _ hk
      · exact DataW.weights_mem_each (j := 1) (t := 23) (d := y1.1) rfl rfl _ hk)
    obtain ⟨T, t1, t2, t3⟩ := open_ths (R := M) g0 (fun k hk => hw k (.inl hk))
    obtain ⟨R, r1, r2, r3⟩ := open_vs (R := M) g1 (fun k hk => hw k (.inr hk))
    exact ⟨v0, v1, T, R, rfl, t1, r1, r2, t3, r3, t2⟩
end
end Go.Proofs.Ytnofmpbdfcolfaa
