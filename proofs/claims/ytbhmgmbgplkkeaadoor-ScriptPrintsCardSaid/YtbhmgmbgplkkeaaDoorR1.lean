/- Arguments of the laws, opened: points, scenes; what the rows' lists of variables give. -/
import Derived.Test.YtbhmgmbgplkkeaaDoorP12
import Derived.Test.YtbhmgmbgplkkeaaDoorRows
import Derived.ProofKit
import Derived.Deep.Slices
import Derived.Lib.SmallJoins
import Derived.SizedLaws
import Derived.LaidMore
import Derived.OpenShut
import Derived.Stop.Joined
import Derived.Lib.LaidTab
import Derived.Shelf.Vars
namespace Go.Proofs.YtbhmgmbgplkkeaaDoor
open Go.ChangeShapes Go.WideShapes Go.ChangeAt Go.WideMaps Go.WideElems Go.RowKit
set_option linter.unusedSimpArgs false
set_option linter.unusedVariables false

theorem own : ownKnob Tryd.prog.godebug = none := by kernel_rfl
theorem Tryd_laidOut : laidOutB Tryd.prog = true := by kernel_rfl
theorem cellsT3 : Tryd.prog.cellsOf 3 = 1 := by kernel_rfl
theorem cellsT4 : Tryd.prog.cellsOf 4 = 1 := by kernel_rfl
theorem cellsT9 : Tryd.prog.cellsOf 9 = 1 := by kernel_rfl
theorem cellsT23 : Tryd.prog.cellsOf 23 = 1 := by kernel_rfl
theorem cellsT25 : Tryd.prog.cellsOf 25 = 4 := by kernel_rfl
theorem cellsT45 : Tryd.prog.cellsOf 45 = 2 := by kernel_rfl
theorem cellsT79 : Tryd.prog.cellsOf 79 = 4 := by kernel_rfl
theorem cellsT90 : Tryd.prog.cellsOf 90 = 24 := by kernel_rfl
theorem bytesT45 : Tryd.prog.bytesOf 45 = 16 := by kernel_rfl
theorem reach_le {n : Nat} (h : n ≤ reachBytes) : n ≤ 140737488355328 := by unfold reachBytes at h; omega
theorem add_plain (b off j : Nat) : (⟨b, off, none⟩ : Addr).add j = ⟨b, off + j, none⟩ := by simp [Addr.add]

section
variable {H : Type} {enc : TypeId × Value → H} {W : World} {base : Nat} {spare : Nat → Bool} {hld : Bool}

theorem weights_all {P : Program} {e : TypeId} {d : DataW H} {n : Nat} (hn : n ∈ d.weights P e) : ∀ l : List (DataW H), d ∈ l → n ∈ DataW.weightsAll P e l
  | [], h => by simp at h
  | x :: r, h => by
    simp only [DataW.weightsAll, List.mem_append]
    rcases List.mem_cons.1 h with rfl | h
    · exact .inl hn
    · exact .inr (weights_all hn r h)

set_option maxRecDepth 100000 in
theorem open_av {fuel : Nat} {cs : List Value} {x : DataW H × List MemPlace} (h : DataW.trod enc Tryd.prog W base spare hld fuel 45 cs = some x) : ∃ v : V, cs = [.int .i64 v.1, .int .i64 v.2] := by
  obtain ⟨xs, n, _, rfl, hl, hlen, hf⟩ := DataW.trod_struct Tryd.underlying45 h
  rw [cellsT45] at hl
  match cs, xs, hl, hlen with
  | [v0, v1], [y0, y1], _, _ =>
    have g0 := hf 0 _ rfl
    have g1 := hf 1 _ rfl
    simp [cellsT3] at g0 g1
    obtain ⟨z0, e0, _, w0⟩ := DataW.trod_int Tryd.underlying3 g0
    obtain ⟨z1, e1, _, w1⟩ := DataW.trod_int Tryd.underlying3 g1
    simp only [List.cons.injEq, and_true] at e0 e1
    subst e0 e1
    exact ⟨(z0, z1), rfl⟩

set_option maxRecDepth 100000 in
/-- A slice of values. -/
theorem open_vs {fuel : Nat} {v : Value} {x : DataW H × List MemPlace} {R : Nat} (h : DataW.trod enc Tryd.prog W base spare hld fuel 23 [v] = some x) (hR : ∀ n ∈ x.1.weights Tryd.prog 23, n ≤ R) :
    ∃ L : List V, RdV W v L ∧ (v = .slice none 0 0 ∨ ∃ a cap, v = .slice (some a) L.length cap) ∧ L.length ≤ R := by
  rcases Deep.open_slice Tryd.underlying23 h with ⟨hcs, _⟩ | ⟨a, len, cap, m, n, D, Pl, hcs, hb, hl, hm, hmm, hx1, hx⟩
  · simp at hcs
    subst hcs
    exact ⟨[], ⟨none, 0, rfl, Nat.le_refl _, fun j hj => by simp at hj⟩, .inl rfl, by simp⟩
  · simp at hcs
    subst hcs
    have hlm : len ≤ m := by rw [hmm]; split <;> omega
    have each : ∀ i, i < len → ∃ q : V, W.cell? (a.add (i * 2)) = some (.int .i64 q.1) ∧ W.cell? (a.add (i * 2 + 1)) = some (.int .i64 q.2) := by
      intro i hi
      obtain ⟨cs', h1, h2⟩ := hx i (by omega)
      rw [cellsT45] at h1
      obtain ⟨_, hlen, hcell⟩ := World.cells?_some h1
      obtain ⟨q, rfl⟩ := open_av h2
      have c0 := hcell 0 (by simp)
      have c1 := hcell 1 (by simp)
      rw [Deep.add_add] at c0 c1
      exact ⟨q, by simpa using c0, by simpa using c1⟩
    obtain ⟨q, hq⟩ := Deep.choose_lt each
    have hlR : len ≤ R := by
      rw [hx1] at hR
      simp only [DataW.weights, Tryd.underlying23, List.mem_cons, List.mem_append] at hR
      have := hR _ (.inl rfl)
      simp only [List.length_map, List.length_range, bytesT45] at this
      omega
    refine ⟨(List.range len).map q, ⟨some a, cap, by simp, by simpa using hl, fun j hj => ?_⟩, .inr ⟨a, cap, by simp⟩, by simpa using hlR⟩
    have hjl : j < len := by simpa using hj
    obtain ⟨c0, c1⟩ := hq j hjl
    obtain ⟨b, off, spot⟩ := a
    have hspot : spot = none := by simpa [Addr.add] using World.cell?_spot (hq 0 (by omega)).1
    subst hspot
    rw [add_plain] at c0 c1
    refine ⟨b, off, rfl, ?_, ?_⟩
    · rw [List.getElem_map, List.getElem_range]; exact c0
    · rw [List.getElem_map, List.getElem_range, Nat.add_assoc]; exact c1


set_option maxRecDepth 100000 in
/-- A scene. -/
theorem open_sc {fuel : Nat} {cs : List Value} {x : DataW H × List MemPlace} {M : Nat} (h : DataW.trod enc Tryd.prog W base spare hld fuel 25 cs = some x) (hM : ∀ n ∈ x.1.weights Tryd.prog 25, n ≤ M) :
    ∃ (z n : Int) (pv : Value) (src : ByteArray) (L : List V), cs = [.int .i64 z, .int .i64 n, pv, .string src] ∧ RdV W pv L ∧ (pv = .slice none 0 0 ∨ ∃ a cap, pv = .slice (some a) L.length cap) ∧ (Lit.int .i64 z).wf = true ∧ (Lit.int .i64 n).wf = true ∧ L.length ≤ M ∧ src.size ≤ M := by
  obtain ⟨xs, n, _, hD, hl, hlen, hf⟩ := DataW.trod_struct Tryd.underlying25 h
  rw [cellsT25] at hl
  match cs, xs, hl, hlen with
  | [v0, v1, v2, v3], [y0, y1, y2, y3], _, _ =>
    have g0 := hf 0 _ rfl
    have g1 := hf 1 _ rfl
    have g2 := hf 2 _ rfl
    have g3 := hf 3 _ rfl
    simp [cellsT3, cellsT23, cellsT9] at g0 g1 g2 g3
    obtain ⟨z0, e0, _, w0⟩ := DataW.trod_int Tryd.underlying3 g0
    obtain ⟨z1, e1, _, w1⟩ := DataW.trod_int Tryd.underlying3 g1
    obtain ⟨s3, e3, x3, w3⟩ := DataW.trod_string Tryd.underlying9 g3
    have hd : x.1 = .agg [y0.1, y1.1, y2.1, y3.1] := by rw [hD]; rfl
    have hw : ∀ k, (k ∈ y2.1.weights Tryd.prog 23 ∨ k ∈ y3.1.weights Tryd.prog 9) → k ≤ M := fun k hk => hM k (by
      rw [hd]
      simp only [DataW.weights, Tryd.underlying25]
      rcases hk with hk | hk
      · exact DataW.weights_mem_each (j := 2) (t := 23) (d := y2.1) rfl rfl _ hk
      · exact DataW.weights_mem_each (j := 3) (t := 9) (d := y3.1) rfl rfl _ hk)
    obtain ⟨L, r1, r2, r3⟩ := open_vs (R := M) g2 (fun k hk => hw k (.inl hk))
    have hs : s3.size ≤ M := by
      refine hw s3.size (.inr ?_)
      rw [x3]
      simp only [DataW.weights, Tryd.underlying9, List.mem_cons]
      rw [Lib.size_eq]; simp
    simp only [List.cons.injEq, and_true] at e0 e1 e3
    subst e0 e1 e3
    exact ⟨z0, z1, v2, s3, L, rfl, r1, r2, w0, w1, r3, hs⟩
end
end Go.Proofs.YtbhmgmbgplkkeaaDoor
