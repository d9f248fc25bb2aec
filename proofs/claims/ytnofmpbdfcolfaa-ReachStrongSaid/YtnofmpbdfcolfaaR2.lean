/- Arguments of the laws, opened: slices of ints. -/
import Derived.Test.YtnofmpbdfcolfaaR1
namespace Go.Proofs.Ytnofmpbdfcolfaa
open Go.ChangeShapes Go.WideShapes Go.ChangeAt Go.WideMaps Go.WideElems Go.RowKit
set_option linter.unusedSimpArgs false
set_option linter.unusedVariables false

theorem bytesT3 : Try.prog.bytesOf 3 = 8 := by kernel_rfl
section
variable {H : Type} {enc : TypeId × Value → H} {W : World} {base : Nat} {spare : Nat → Bool} {hld : Bool}
set_option maxRecDepth 100000 in
theorem open_is {fuel : Nat} {v : Value} {x : DataW H × List MemPlace} {R : Nat} (h : DataW.trod enc Try.prog W base spare hld fuel 26 [v] = some x) (hR : ∀ n ∈ x.1.weights Try.prog 26, n ≤ R) :
    ∃ L : List Int, RdI W v L ∧ L.length ≤ R := by
  rcases Deep.open_slice Try.underlying26 h with ⟨hcs, _⟩ | ⟨a, len, cap, m, n, D, Pl, hcs, hb, hl, hm, hmm, hx1, hx⟩
  · simp at hcs
    subst hcs
    exact ⟨[], ⟨none, 0, rfl, fun j hj => by simp at hj⟩, by simp⟩
  · simp at hcs
    subst hcs
    have hlm : len ≤ m := by rw [hmm]; split <;> omega
    have each : ∀ i, i < len → ∃ q : Int, W.cell? (a.add i) = some (.int .i64 q) := by
      intro i hi
      obtain ⟨cs', h1, h2⟩ := hx i (by omega)
      rw [cellsT3] at h1
      obtain ⟨_, hlen, hcell⟩ := World.cells?_some h1
      match cs', hlen with
      | [v0], _ =>
        obtain ⟨z0, e0, _, _⟩ := DataW.trod_int Try.underlying3 h2
        simp only [List.cons.injEq, and_true] at e0
        subst e0
        have c0 := hcell 0 (by simp)
        rw [Deep.add_add] at c0
        exact ⟨z0, by simpa using c0⟩
    obtain ⟨q, hq⟩ := Deep.choose_lt each
    have hlR : len ≤ R := by
      rw [hx1] at hR
      simp only [DataW.weights, Try.underlying26, List.mem_cons, List.mem_append] at hR
      have := hR _ (.inl rfl)
      simp only [List.length_map, List.length_range, bytesT3] at this
      omega
    refine ⟨(List.range len).map q, ⟨some a, cap, by simp, fun j hj => ?_⟩, by simpa using hlR⟩
    have hjl : j < len := by simpa using hj
    have c0 := hq j hjl
    obtain ⟨b, off, spot⟩ := a
    have hspot : spot = none := by
      have := World.cell?_spot (hq 0 (by omega))
      simpa [Addr.add] using this
    subst hspot
    rw [add_plain] at c0
    refine ⟨b, off, rfl, ?_⟩
    rw [List.getElem_map, List.getElem_range]; exact c0
end
end Go.Proofs.Ytnofmpbdfcolfaa
