/- Arguments of the laws, opened: views. -/
import Derived.Test.YtnihfakhijjjkaaR0
import Derived.Deep.Slices
import Derived.Lib.SmallJoins
namespace Go.Proofs.Ytnihfakhijjjkaa
open Go.ChangeShapes Go.WideShapes Go.ChangeAt Go.WideMaps Go.WideElems Go.RowKit
set_option linter.unusedSimpArgs false
set_option linter.unusedVariables false

theorem cellsT2 : Try.prog.cellsOf 2 = 1 := by kernel_rfl
theorem cellsT3 : Try.prog.cellsOf 3 = 1 := by kernel_rfl
theorem cellsT27 : Try.prog.cellsOf 27 = 1 := by kernel_rfl
theorem cellsT28 : Try.prog.cellsOf 28 = 1 := by kernel_rfl
theorem cellsT30 : Try.prog.cellsOf 30 = 7 := by kernel_rfl
theorem cellsT32 : Try.prog.cellsOf 32 = 1 := by kernel_rfl
theorem cellsT34 : Try.prog.cellsOf 34 = 5 := by kernel_rfl
theorem cellsT36 : Try.prog.cellsOf 36 = 8 := by kernel_rfl
theorem cellsT38 : Try.prog.cellsOf 38 = 2 := by kernel_rfl
theorem bytesT3 : Try.prog.bytesOf 3 = 8 := by kernel_rfl
theorem bytesT38 : Try.prog.bytesOf 38 = 16 := by kernel_rfl
theorem bytesT36 : Try.prog.bytesOf 36 = 80 := by kernel_rfl
theorem add_plain (b off j : Nat) : (⟨b, off, none⟩ : Addr).add j = ⟨b, off + j, none⟩ := by simp [Addr.add]

section
variable {H : Type} {enc : TypeId × Value → H} {W : World} {base : Nat} {spare : Nat → Bool} {hld : Bool}

theorem weights_all {P : Program} {e : TypeId} {d : DataW H} {n : Nat} (hn : n ∈ d.weights P e) : ∀ l : List (DataW H), d ∈ l → n ∈ DataW.weightsAll P e l
  | [], h => by simp at h
  | x :: r, h => by
    simp only [DataW.weightsAll, List.mem_append]
    rcases List.mem_cons.1 h with rfl | h
    · exact .inl hn
    · exact .inr (weights_all hn r h)

set_option maxRecDepth 100000 in
theorem open_av {fuel : Nat} {cs : List Value} {x : DataW H × List MemPlace} (h : DataW.trod enc Try.prog W base spare hld fuel 38 cs = some x) : ∃ v : V, cs = [.int .i64 v.1, .int .i64 v.2] ∧ wf v.1 ∧ wf v.2 := by
  obtain ⟨xs, n, _, rfl, hl, hlen, hf⟩ := DataW.trod_struct Try.underlying38 h
  rw [cellsT38] at hl
  match cs, xs, hl, hlen with
  | [v0, v1], [y0, y1], _, _ =>
    have g0 := hf 0 _ rfl
    have g1 := hf 1 _ rfl
    simp [cellsT2, cellsT3] at g0 g1
    obtain ⟨z0, e0, _, w0⟩ := DataW.trod_int Try.underlying3 g0
    obtain ⟨z1, e1, _, w1⟩ := DataW.trod_int Try.underlying2 g1
    simp only [List.cons.injEq, and_true] at e0 e1
    subst e0 e1
    exact ⟨(z0, z1), rfl, w0, w1⟩

set_option maxRecDepth 100000 in
/-- A slice of values. -/
theorem open_vs {fuel : Nat} {v : Value} {x : DataW H × List MemPlace} {R : Nat} (h : DataW.trod enc Try.prog W base spare hld fuel 32 [v] = some x) (hR : ∀ n ∈ x.1.weights Try.prog 32, n ≤ R) :
    ∃ L : List V, RdV W v L ∧ L.length ≤ R ∧ ∀ q ∈ L, wf q.1 ∧ wf q.2 := by
  rcases Deep.open_slice Try.underlying32 h with ⟨hcs, _⟩ | ⟨a, len, cap, m, n, D, Pl, hcs, hb, hl, hm, hmm, hx1, hx⟩
  · simp at hcs
    subst hcs
    exact ⟨[], ⟨none, 0, rfl, fun j hj => by simp at hj⟩, by simp, by simp⟩
  · simp at hcs
    subst hcs
    have hlm : len ≤ m := by rw [hmm]; split <;> omega
    have each : ∀ i, i < len → ∃ q : V, (W.cell? (a.add (i * 2)) = some (.int .i64 q.1) ∧ W.cell? (a.add (i * 2 + 1)) = some (.int .i64 q.2)) ∧ wf q.1 ∧ wf q.2 := by
      intro i hi
      obtain ⟨cs', h1, h2⟩ := hx i (by omega)
      rw [cellsT38] at h1
      obtain ⟨_, hlen, hcell⟩ := World.cells?_some h1
      obtain ⟨q, rfl, w0, w1⟩ := open_av h2
      have c0 := hcell 0 (by simp)
      have c1 := hcell 1 (by simp)
      rw [Deep.add_add] at c0 c1
      exact ⟨q, ⟨by simpa using c0, by simpa using c1⟩, w0, w1⟩
    obtain ⟨q, hq⟩ := Deep.choose_lt each
    have hlR : len ≤ R := by
      rw [hx1] at hR
      simp only [DataW.weights, Try.underlying32, List.mem_cons, List.mem_append] at hR
      have := hR _ (.inl rfl)
      simp only [List.length_map, List.length_range, bytesT38] at this
      omega
    refine ⟨(List.range len).map q, ⟨some a, cap, by simp, fun j hj => ?_⟩, by simpa using hlR, fun t ht => ?_⟩
    · have hjl : j < len := by simpa using hj
      obtain ⟨⟨c0, c1⟩, _⟩ := hq j hjl
      obtain ⟨b, off, spot⟩ := a
      have hspot : spot = none := by simpa [Addr.add] using World.cell?_spot (hq 0 (by omega)).1.1
      subst hspot
      rw [add_plain] at c0 c1
      refine ⟨b, off, rfl, ?_, ?_⟩
      · rw [List.getElem_map, List.getElem_range]; exact c0
      · rw [List.getElem_map, List.getElem_range, Nat.add_assoc]; exact c1
    · obtain ⟨i, hi, rfl⟩ := List.mem_map.1 ht
      exact (hq i (List.mem_range.1 hi)).2

set_option maxRecDepth 100000 in
/-- A slice of ints: its form. -/
theorem open_is {fuel : Nat} {v : Value} {x : DataW H × List MemPlace} {R : Nat} (h : DataW.trod enc Try.prog W base spare hld fuel 28 [v] = some x) (hR : ∀ n ∈ x.1.weights Try.prog 28, n ≤ R) :
    ∃ ao n c, v = .slice ao n c ∧ n ≤ R := by
  rcases Deep.open_slice Try.underlying28 h with ⟨hcs, _⟩ | ⟨a, len, cap, m, n, D, Pl, hcs, hb, hl, hm, hmm, hx1, hx⟩
  · simp at hcs
    exact ⟨none, 0, 0, hcs, by omega⟩
  · simp at hcs
    refine ⟨some a, len, cap, hcs, ?_⟩
    have hlm : len ≤ m := by rw [hmm]; split <;> omega
    rw [hx1] at hR
    simp only [DataW.weights, Try.underlying28, List.mem_cons, List.mem_append] at hR
    have := hR _ (.inl rfl)
    simp only [List.length_map, List.length_range, bytesT3] at this
    omega

set_option maxRecDepth 100000 in
/-- A slice of objects. -/
theorem open_sns {fuel : Nat} {v : Value} {x : DataW H × List MemPlace} {R : Nat} (h : DataW.trod enc Try.prog W base spare hld fuel 27 [v] = some x) (hR : ∀ n ∈ x.1.weights Try.prog 27, n ≤ R) :
    ∃ S : List Sn, RdS W v S ∧ (∀ s ∈ S, s.sl.length ≤ R ∧ wf s.kind ∧ ∀ q ∈ s.sl, wf q.1 ∧ wf q.2) ∧ S.length ≤ R := by
  rcases Deep.open_slice Try.underlying27 h with ⟨hcs, _⟩ | ⟨a, len, cap, m, n, D, Pl, hcs, hb, hl, hm, hmm, hx1, hx⟩
  · simp at hcs
    subst hcs
    exact ⟨[], ⟨none, 0, rfl, fun j hj => by simp at hj⟩, by simp, by simp⟩
  · simp at hcs
    subst hcs
    have hlm : len ≤ m := by rw [hmm]; split <;> omega
    rw [hx1] at hR
    simp only [DataW.weights, Try.underlying27, List.mem_cons, List.mem_append] at hR
    have hlR : len ≤ R := by
      have := hR _ (.inl rfl)
      simp only [List.length_map, List.length_range, bytesT36] at this
      omega
    have each : ∀ i, i < len → ∃ q : Sn × Value, (W.cell? (a.add (i * 8)) = some (.int .i64 q.1.h) ∧ W.cell? (a.add (i * 8 + 1)) = some (.int .i64 q.1.kind) ∧ W.cell? (a.add (i * 8 + 2)) = some (.int .i64 q.1.weak) ∧ W.cell? (a.add (i * 8 + 3)) = some (.int .i64 q.1.arr) ∧ W.cell? (a.add (i * 8 + 4)) = some q.2 ∧ W.cell? (a.add (i * 8 + 5)) = some (.int .i64 q.1.fin) ∧ W.cell? (a.add (i * 8 + 6)) = some (.int .i64 q.1.col) ∧ W.cell? (a.add (i * 8 + 7)) = some (.int .i64 q.1.age)) ∧ RdV W q.2 q.1.sl ∧ q.1.sl.length ≤ R ∧ wf q.1.kind ∧ ∀ t ∈ q.1.sl, wf t.1 ∧ wf t.2 := by
      intro i hi
      obtain ⟨cs', h1, h2⟩ := hx i (by omega)
      rw [cellsT36] at h1
      obtain ⟨_, hlen, hcell⟩ := World.cells?_some h1
      obtain ⟨xs, n', _, hD, hl', hlen', hf⟩ := DataW.trod_struct Try.underlying36 h2
      match cs', xs, hlen, hlen' with
      | [v0, v1, v2, v3, v4, v5, v6, v7], [y0, y1, y2, y3], _, _ =>
        have g0 := hf 0 _ rfl
        have g1 := hf 1 _ rfl
        have g2 := hf 2 _ rfl
        have g3 := hf 3 _ rfl
        simp [cellsT3, cellsT34] at g0 g1 g2 g3
        obtain ⟨z0, e0, _, _⟩ := DataW.trod_int Try.underlying3 g0
        obtain ⟨z6, e6, _, _⟩ := DataW.trod_int Try.underlying3 g2
        obtain ⟨z7, e7, _, _⟩ := DataW.trod_int Try.underlying3 g3
        obtain ⟨ys, n'', _, hD1, hl1, hlen1, hf1⟩ := DataW.trod_struct Try.underlying34 g1
        match ys, hlen1 with
        | [u0, u1, u2, u3, u4], _ =>
          have k0 := hf1 0 _ rfl
          have k1 := hf1 1 _ rfl
          have k2 := hf1 2 _ rfl
          have k3 := hf1 3 _ rfl
          have k4 := hf1 4 _ rfl
          simp [cellsT3, cellsT32] at k0 k1 k2 k3 k4
          obtain ⟨z1, e1, _, w1⟩ := DataW.trod_int Try.underlying3 k0
          obtain ⟨z2, e2, _, _⟩ := DataW.trod_int Try.underlying3 k1
          obtain ⟨z3, e3, _, _⟩ := DataW.trod_int Try.underlying3 k2
          obtain ⟨z5, e5, _, _⟩ := DataW.trod_int Try.underlying3 k4
          have hd : D i = .agg [y0.1, y1.1, y2.1, y3.1] := (Prod.mk.inj hD).1
          have hd1 : y1.1 = .agg [u0.1, u1.1, u2.1, u3.1, u4.1] := by rw [hD1]; rfl
          obtain ⟨L, r1, r2, r3⟩ := open_vs (R := R) k3 (fun k hk => hR k (.inr (.inl (weights_all (d := D i) (by
            rw [hd]
            simp only [DataW.weights, Try.underlying36]
            refine DataW.weights_mem_each (j := 1) (t := 34) (d := y1.1) rfl rfl _ ?_
            rw [hd1]
            simp only [DataW.weights, Try.underlying34]
            exact DataW.weights_mem_each (j := 3) (t := 32) (d := u3.1) rfl rfl _ hk) _ (List.mem_map.2 ⟨i, List.mem_range.2 hi, rfl⟩)))))
          simp only [List.cons.injEq, and_true] at e0 e1 e2 e3 e5 e6 e7
          subst e0 e1 e2 e3 e5 e6 e7
          have c0 := hcell 0 (by simp)
          have c1 := hcell 1 (by simp)
          have c2 := hcell 2 (by simp)
          have c3 := hcell 3 (by simp)
          have c4 := hcell 4 (by simp)
          have c5 := hcell 5 (by simp)
          have c6 := hcell 6 (by simp)
          have c7 := hcell 7 (by simp)
          rw [Deep.add_add] at c0 c1 c2 c3 c4 c5 c6 c7
          exact ⟨(⟨z0, z1, z2, z3, L, z5, z6, z7⟩, v4), ⟨by simpa using c0, by simpa using c1, by simpa using c2, by simpa using c3, by simpa using c4, by simpa using c5, by simpa using c6, by simpa using c7⟩, r1, r2, w1, r3⟩
    haveI : Inhabited (Sn × Value) := ⟨(⟨0, 0, 0, 0, [], 0, 0, 0⟩, undef)⟩
    obtain ⟨q, hq⟩ := Deep.choose_lt each
    refine ⟨(List.range len).map fun i => (q i).1, ⟨some a, cap, by simp, fun j hj => ?_⟩, fun t ht => ?_, by simpa using hlR⟩
    · have hjl : j < len := by simpa using hj
      obtain ⟨⟨c0, c1, c2, c3, c4, c5, c6, c7⟩, r, _⟩ := hq j hjl
      obtain ⟨b, off, spot⟩ := a
      have hspot : spot = none := by simpa [Addr.add] using World.cell?_spot (hq 0 (by omega)).1.1
      subst hspot
      rw [add_plain] at c0 c1 c2 c3 c4 c5 c6 c7
      simp only [List.getElem_map, List.getElem_range]
      exact ⟨b, off, (q j).2, rfl, c0, by rw [Nat.add_assoc]; exact c1, by rw [Nat.add_assoc]; exact c2, by rw [Nat.add_assoc]; exact c3, by rw [Nat.add_assoc]; exact c4, by rw [Nat.add_assoc]; exact c5, by rw [Nat.add_assoc]; exact c6, by rw [Nat.add_assoc]; exact c7, r⟩
    · obtain ⟨i, hi, rfl⟩ := List.mem_map.1 ht
      exact (hq i (List.mem_range.1 hi)).2.2

set_option maxRecDepth 100000 in
/-- A view. -/
theorem open_view {fuel : Nat} {cs : List Value} {x : DataW H × List MemPlace} {M : Nat} (h : DataW.trod enc Try.prog W base spare hld fuel 30 cs = some x) (hM : ∀ n ∈ x.1.weights Try.prog 30, n ≤ M) :
    ∃ (md ph wh : Int) (so : Option Addr) (go : Option Addr) (gn gc : Nat) (ao : Option Addr) (an ac : Nat) (po : Option Addr) (pn pc sc : Nat) (S : List Sn), cs = [.int .i64 md, .int .i64 ph, .int .i64 wh, .slice so S.length sc, .slice go gn gc, .slice ao an ac, .slice po pn pc] ∧ RdS W (.slice so S.length sc) S ∧ S.length ≤ M ∧ an ≤ M ∧ ∀ s ∈ S, s.sl.length ≤ M ∧ wf s.kind ∧ ∀ q ∈ s.sl, wf q.1 ∧ wf q.2 := by
  obtain ⟨xs, n, _, hD, hl, hlen, hf⟩ := DataW.trod_struct Try.underlying30 h
  rw [cellsT30] at hl
  match cs, xs, hl, hlen with
  | [v0, v1, v2, v3, v4, v5, v6], [y0, y1, y2, y3, y4, y5, y6], _, _ =>
    have g0 := hf 0 _ rfl
    have g1 := hf 1 _ rfl
    have g2 := hf 2 _ rfl
    have g3 := hf 3 _ rfl
    have g4 := hf 4 _ rfl
    have g5 := hf 5 _ rfl
    have g6 := hf 6 _ rfl
    simp [cellsT3, cellsT27, cellsT28] at g0 g1 g2 g3 g4 g5 g6
    have hd : x.1 = .agg [y0.1, y1.1, y2.1, y3.1, y4.1, y5.1, y6.1] := by rw [hD]; rfl
    have hw : ∀ k, (k ∈ y3.1.weights Try.prog 27 ∨ k ∈ y4.1.weights Try.prog 28 ∨ k ∈ y5.1.weights Try.prog 28 ∨ k ∈ y6.1.weights Try.prog 28) → k ≤ M := fun k hk => hM k (by
      rw [hd]
      simp only [DataW.weights, Try.underlying30]
      rcases hk with hk | hk | hk | hk
      · exact DataW.weights_mem_each (j := 3) (t := 27) (d := y3.1) rfl rfl _ hk
      · exact DataW.weights_mem_each (j := 4) (t := 28) (d := y4.1) rfl rfl _ hk
      · exact DataW.weights_mem_each (j := 5) (t := 28) (d := y5.1) rfl rfl _ hk
      · exact DataW.weights_mem_each (j := 6) (t := 28) (d := y6.1) rfl rfl _ hk)
    obtain ⟨z0, e0, _, _⟩ := DataW.trod_int Try.underlying3 g0
    obtain ⟨z1, e1, _, _⟩ := DataW.trod_int Try.underlying3 g1
    obtain ⟨z2, e2, _, _⟩ := DataW.trod_int Try.underlying3 g2
    obtain ⟨S, t1, t2, t3⟩ := open_sns (R := M) g3 (fun k hk => hw k (.inl hk))
    obtain ⟨go, gn, gc, rfl, _⟩ := open_is (R := M) g4 (fun k hk => hw k (.inr (.inl hk)))
    obtain ⟨ao, an, ac, rfl, ha⟩ := open_is (R := M) g5 (fun k hk => hw k (.inr (.inr (.inl hk))))
    obtain ⟨po, pn, pc, rfl, _⟩ := open_is (R := M) g6 (fun k hk => hw k (.inr (.inr (.inr hk))))
    simp only [List.cons.injEq, and_true] at e0 e1 e2
    subst e0 e1 e2
    have t1' := t1
    obtain ⟨so, sc, rfl, _⟩ := t1
    exact ⟨z0, z1, z2, so, go, gn, gc, ao, an, ac, po, pn, pc, sc, S, rfl, t1', t3, ha, t2⟩
end
end Go.Proofs.Ytnihfakhijjjkaa
