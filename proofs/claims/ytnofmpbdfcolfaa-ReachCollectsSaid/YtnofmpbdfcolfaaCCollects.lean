/- ReachCollects: what a collection of any graph keeps, finalises and clears is what the document says, at this commit's code; no condition but the form's own bound of sizes. -/
import Derived.Test.YtnofmpbdfcolfaaY9j
import Derived.Test.YtnofmpbdfcolfaaR1
import Derived.Test.YtnofmpbdfcolfaaRows
import Derived.ProofKit
import Derived.SizedLaws
namespace Go.Proofs.Ytnofmpbdfcolfaa
open Go.ChangeShapes Go.WideShapes Go.ChangeAt Go.WideMaps Go.WideElems Go.RowKit
set_option linter.unusedVariables false
set_option linter.unusedSimpArgs false

theorem reach_le {n : Nat} (h : n ≤ reachBytes) : n ≤ 140737488355328 := by unfold reachBytes at h; omega

set_option maxRecDepth 100000 in
theorem reachCollects_lifted (os : Os) (started : os.Started) (H : Type) (enc : TypeId × Value → H) :
    ReturnsInHanded {} Try.checked os 4 .any (Rows.reachCollectsSpec.pre6 enc Try.prog Try.f4 Rows.reachCollectsRow.domain false) (Rows.reachCollectsSpec.post enc Try.prog Try.f4 false true false false) := by
  refine returnsInHanded_of_change_sized (C := Try.checked) row_own started (by kernel_rfl) Try.func4
    (ChangeSpec.witness6 (enc := enc) (C := Try.checked) false ⟨#[], #[.agg #[.slice none 0 0, .slice none 0 0]], []⟩ 8 (by kernel_rfl) (by kernel_rfl) (by kernel_rfl) (by kernel_rfl)) ?_
  intro W base args ds gs before hval0 hW _ hSz0 _
  have hval : ∀ (j : Nat) t v, Try.f4.params[j]? = some t → args[j]? = some v → Value.okWide Try.prog W .any base t v := hval0
  have hW' := hW
  obtain ⟨p, q, hA0, hV, rfl, hfz, hnd⟩ := hW
  have hA : DataW.TrodAll enc Try.prog W 0 (fun _ => true) true Try.f4.params.toList args.toList ds p := hA0
  rw [Try.params4] at hA hval
  obtain ⟨v0, d0, rfl, rfl, h0⟩ := trodAll_one hA
  obtain ⟨rfl, rfl⟩ := trodVars_none hV
  have hSz : (DataW.weightsEach Try.prog (Try.f4.params.toList ++ Rows.reachCollectsSpec.plain.varTypes Try.prog) ([d0] ++ [])).all (· ≤ reachBytes) = true := hSz0
  rw [Try.params4] at hSz
  have hwt : ∀ (j : Nat) (t : TypeId) (d : DataW H), (#[25].toList ++ Rows.reachCollectsSpec.plain.varTypes Try.prog)[j]? = some t → ([d0] ++ [])[j]? = some d → ∀ m ∈ d.weights Try.prog t, m ≤ reachBytes := fun j t d ht hd m hm => by
    have := List.all_eq_true.1 hSz m (DataW.weights_mem_each (j := j) (t := t) ht hd m hm)
    simpa using this
  have h0k := h0
  obtain ⟨fuel0, hf0⟩ := h0
  obtain ⟨⟨cs0⟩, rfl, _⟩ := okWide_struct Try.underlying25 (hval 0 25 v0 rfl rfl)
  simp only [Value.cells] at hf0
  obtain ⟨tv0, rv0, T0, R0, rfl, s0, r0, i0, b0, c0, e0⟩ := open_graph hf0 (hwt 0 25 _ rfl rfl)
  clear hA0 hval0 hSz0 hSz
  simp only [List.append_nil] at hW'
  have lt0 : ∀ x ∈ p, x.block < W.heap.size := fun x hx => by simpa using hW'.lt x (by simp [hx])
  have k0 : ∀ (W' : World), Below W.heap.size W W' → DataW.Trod enc Try.prog W' 0 (fun b => decide (b < W.heap.size)) true 25 _ d0 p := fun W' hn => Below.trod Try_laidOut (by kernel_rfl) (of_decide_eq_true (by kernel_rfl)) h0k hn lt0
  refine (ReachCollects_any s0 r0 (reach_le b0) (reach_le c0) (fun t ht => reach_le (e0 t ht).1)).mono fun e W' ⟨he, hg0⟩ => ?_
  have hg : Below W.heap.size W W' := hg0.below (Nat.le_refl _) (fun _ e => e.elim)
  subst he
  exact ⟨_, rfl, _, _, _, [], p, [], hW', trodAll_mk1 (shut_bool Try.underlying4 _), trodAll_mk1 (k0 _ hg), rfl, hg.frame _, fun h => by cases h⟩

theorem reachCollects_holds : Rows.ReachCollectsSaid :=
  OpenClaim.holds_of_wide 4 Try.f4 rfl rfl rfl rfl rfl rfl rfl ⟨rfl, rfl, rfl, rfl, rfl⟩ rfl rfl rfl rfl rfl (by kernel_rfl) Try.func4 (by kernel_rfl)
    (of_decide_eq_true (by kernel_rfl)) (by unfold Func.isWrapper; first | (rw [if_pos (by decide +kernel)]; kernel_rfl) | (rw [if_neg (by decide +kernel)]; exact ⟨rfl, rfl⟩))
    (fun os started H enc _ => reachCollects_lifted os started H enc)
end Go.Proofs.Ytnofmpbdfcolfaa
