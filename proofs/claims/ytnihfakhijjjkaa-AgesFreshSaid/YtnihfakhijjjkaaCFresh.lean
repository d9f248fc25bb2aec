/- AgesFresh: a view in which all are young and white, and each slot leads somewhere, breaks nothing, in either mode, at this commit's code; no condition but the form's own bound of sizes. -/
import Derived.Test.YtnihfakhijjjkaaD7
import Derived.Test.YtnihfakhijjjkaaR1
import Derived.Test.YtnihfakhijjjkaaR0
import Derived.Test.YtnihfakhijjjkaaRows
import Derived.ProofKit
import Derived.SizedLaws
namespace Go.Proofs.Ytnihfakhijjjkaa
open Go.ChangeShapes Go.WideShapes Go.ChangeAt Go.WideMaps Go.WideElems Go.RowKit
set_option linter.unusedVariables false
set_option linter.unusedSimpArgs false

set_option maxRecDepth 100000 in
theorem agesFresh_lifted (os : Os) (started : os.Started) (H : Type) (enc : TypeId × Value → H) :
    ReturnsInHanded {} Try.checked os 5 .any (Rows.agesFreshSpec.pre6 enc Try.prog Try.f5 Rows.agesFreshRow.domain false) (Rows.agesFreshSpec.post enc Try.prog Try.f5 false true false false) := by
  refine returnsInHanded_of_change_sized (C := Try.checked) row_own started (by kernel_rfl) Try.func5
    (ChangeSpec.witness6 (enc := enc) (C := Try.checked) false ⟨#[], #[.agg #[.int .i64 0, .int .i64 0, .int .i64 0, .slice none 0 0, .slice none 0 0, .slice none 0 0, .slice none 0 0], .bool false], []⟩ 8 (by kernel_rfl) (by kernel_rfl) (by kernel_rfl) (by kernel_rfl)) ?_
  intro W base args ds gs before hval0 hW _ hSz0 _
  have hval : ∀ (j : Nat) t v, Try.f5.params[j]? = some t → args[j]? = some v → Value.okWide Try.prog W .any base t v := hval0
  have hW' := hW
  obtain ⟨p, q, hA0, hV, rfl, hfz, hnd⟩ := hW
  have hA : DataW.TrodAll enc Try.prog W 0 (fun _ => true) true Try.f5.params.toList args.toList ds p := hA0
  rw [Try.params5] at hA hval
  obtain ⟨v0, v1, d0, d1, p0, p1, rfl, rfl, rfl, h0, h1⟩ := trodAll_two hA
  obtain ⟨rfl, rfl⟩ := trodVars_none hV
  have hSz : (DataW.weightsEach Try.prog (Try.f5.params.toList ++ Rows.agesFreshSpec.plain.varTypes Try.prog) ([d0, d1] ++ [])).all (· ≤ reachBytes) = true := hSz0
  rw [Try.params5] at hSz
  have hwt : ∀ (j : Nat) (t : TypeId) (d : DataW H), (#[30, 4].toList ++ Rows.agesFreshSpec.plain.varTypes Try.prog)[j]? = some t → ([d0, d1] ++ [])[j]? = some d → ∀ m ∈ d.weights Try.prog t, m ≤ reachBytes := fun j t d ht hd m hm => by
    have := List.all_eq_true.1 hSz m (DataW.weights_mem_each (j := j) (t := t) ht hd m hm)
    simpa using this
  have h0k := h0
  obtain ⟨fuel0, hf0⟩ := h0
  obtain ⟨⟨cs0⟩, rfl, _⟩ := okWide_struct Try.underlying30 (hval 0 30 v0 rfl rfl)
  simp only [Value.cells] at hf0
  obtain ⟨md0, ph0, wh0, so0, go0, gn0, gc0, ao0, an0, ac0, po0, pn0, pc0, sc0, S0, rfl, s0, b0, c0, e0⟩ := open_view hf0 (hwt 0 30 _ rfl rfl)
  obtain ⟨a1, rfl, rfl, rfl⟩ := open_bool Try.underlying4 (hval 1 4 v1 rfl rfl) h1
  clear hA0 hval0 hSz0 hSz
  simp only [List.append_nil] at hW'
  have lt0 : ∀ x ∈ p0, x.block < W.heap.size := fun x hx => by simpa using hW'.lt x (by simp [hx])
  have k0 : ∀ (W' : World), Below W.heap.size W W' → DataW.Trod enc Try.prog W' 0 (fun b => decide (b < W.heap.size)) true 30 _ d0 p0 := fun W' hn => Below.trod Try_laidOut (by kernel_rfl) (of_decide_eq_true (by kernel_rfl)) h0k hn lt0
  refine Calls.mono (AgesFresh_any a1 s0 (reach_le b0) (reach_le c0) (fun t ht => reach_le (e0 t ht).1) (fun t ht => (e0 t ht).2)) (fun e W' ⟨he, hg0⟩ => ?_)
  have hg : Below W.heap.size W W' := hg0.below (Nat.le_refl _) (fun _ e => e.elim)
  subst he
  exact ⟨_, rfl, _, _, _, [], p0 ++ [], [], hW', trodAll_mk1 (shut_bool Try.underlying4 _), trodAll_mk2 (k0 _ hg) (shut_bool Try.underlying4 _), rfl, hg.frame _, fun h => by cases h⟩

theorem agesFresh_holds : Rows.AgesFreshSaid :=
  OpenClaim.holds_of_wide 5 Try.f5 rfl rfl rfl rfl rfl rfl rfl ⟨rfl, rfl, rfl, rfl, rfl⟩ rfl rfl rfl rfl rfl (by kernel_rfl) Try.func5 (by kernel_rfl)
    (of_decide_eq_true (by kernel_rfl)) (by unfold Func.isWrapper; first | (rw [if_pos (by decide +kernel)]; kernel_rfl) | (rw [if_neg (by decide +kernel)]; exact ⟨rfl, rfl⟩))
    (fun os started H enc _ => agesFresh_lifted os started H enc)
end Go.Proofs.Ytnihfakhijjjkaa
