/- StrtabTurns: what is found does not hang on the order in which texts were put, nor on others that were dropped, at this commit's code; no condition. -/
import Derived.Test.YtnfamebihpnjlaaZ6
import Derived.Test.YtnfamebihpnjlaaY2
import Derived.Test.YtnfamebihpnjlaaRows
import Derived.ProofKit
import Derived.SizedLaws
namespace Go.Proofs.Ytnfamebihpnjlaa
open Go.ChangeShapes Go.WideShapes Go.ChangeAt Go.WideMaps Go.WideElems Go.RowKit
open Go.ChangeMaps (open_string shut_string)
set_option linter.unusedVariables false
set_option linter.unusedSimpArgs false

theorem weights_strs {H : Type} (P : Program) (e : TypeId) : ∀ {ss : List ByteArray} {s : ByteArray}, s ∈ ss → s.size ∈ DataW.weightsAll P e (strs (H := H) ss)
  | t :: ss, s, h => by
    rcases List.mem_cons.1 h with rfl | h
    · show s.size ∈ DataW.weights P e (.lit (.string s.data.toList)) ++ _
      rw [List.mem_append]
      left
      unfold DataW.weights
      rw [List.mem_singleton, Lib.size_eq]
    · have := weights_strs (H := H) P e h
      simp only [strs, List.map_cons, DataW.weightsAll, List.mem_append] at this ⊢
      exact Or.inr this

theorem cellsT9' : Try.prog.cellsOf 9 = 1 := by kernel_rfl
theorem open_strs {H : Type} {enc : TypeId × Value → H} {W : World} {base : Nat} {spare : Nat → Bool} {held : Bool} {fuel : Nat} {d : DataW H} {ps : List MemPlace} {a0 : Option Addr} {len cap : Nat}
    (h : DataW.trod enc Try.prog W base spare held fuel 48 [.slice a0 len cap] = some (d, ps)) (hz : ∀ m ∈ d.weights Try.prog 48, m ≤ reachBytes) : ∃ ss, Strs W (.slice a0 len cap) ss := by
  rcases open_strings Try.underlying48 Try.underlying9 cellsT9' h with ⟨hcs, _⟩ | ⟨a, len', cap', ss, hcs, _, hl, hm, hlen, hx, hcell, _⟩
  · simp at hcs
    obtain ⟨rfl, rfl, rfl⟩ := hcs
    exact ⟨[], none, 0, rfl, by simp, by simp⟩
  · simp at hcs
    obtain ⟨rfl, rfl, rfl⟩ := hcs
    obtain ⟨rfl, rfl⟩ := Prod.mk.inj hx
    have hll : len ≤ ss.length := by rw [hlen]; split <;> omega
    refine ⟨ss.take len, some a, cap, by simp [Nat.min_eq_left hll], fun s hs => ?_, fun h0 => ?_⟩
    · have := hz s.size (by
        simp only [DataW.weights, Try.underlying48, List.mem_cons, List.mem_append]
        exact Or.inr (Or.inl (weights_strs _ _ hs)))
      unfold reachBytes at this
      exact this
    · have hl0 : 0 < len := by rw [List.length_take, Nat.min_eq_left hll] at h0; exact h0
      obtain ⟨b, off, spot⟩ := a
      have hspot : spot = none := by simpa [Addr.add] using World.cell?_spot (hcell 0 (by omega))
      subst hspot
      refine ⟨b, off, rfl, fun i hi => ?_⟩
      rw [List.length_take, Nat.min_eq_left hll] at hi
      have := hcell i (by omega)
      rw [add_plain] at this
      rw [this]
      simp [tx, List.getD_eq_getElem?_getD, List.getElem?_take, hi]

set_option maxRecDepth 100000 in
theorem strtabTurns_lifted (os : Os) (started : os.Started) (H : Type) (enc : TypeId × Value → H) :
    ReturnsInHanded {} Try.checked os 6 .any (Rows.strtabTurnsSpec.pre6 enc Try.prog Try.f6 Rows.strtabTurnsRow.domain false) (Rows.strtabTurnsSpec.post enc Try.prog Try.f6 false true false false) := by
  refine returnsInHanded_of_change_sized (C := Try.checked) row_own started (by kernel_rfl) Try.func6
    (ChangeSpec.witness6 (enc := enc) (C := Try.checked) false ⟨#[], #[.slice none 0 0, .string ⟨#[]⟩], []⟩ 8 (by kernel_rfl) (by kernel_rfl) (by kernel_rfl) (by kernel_rfl)) ?_
  intro W base args ds gs before hval0 hW _ hSz0 _
  have hval : ∀ (j : Nat) t v, Try.f6.params[j]? = some t → args[j]? = some v → Value.okWide Try.prog W .any base t v := hval0
  have hW' := hW
  obtain ⟨p, q, hA0, hV, rfl, hfz, hnd⟩ := hW
  have hA : DataW.TrodAll enc Try.prog W 0 (fun _ => true) true Try.f6.params.toList args.toList ds p := hA0
  rw [Try.params6] at hA hval
  obtain ⟨v0, v1, d0, d1, p0, p1, rfl, rfl, rfl, h0, h1⟩ := trodAll_two hA
  obtain ⟨rfl, rfl⟩ := trodVars_none hV
  have h0k := h0
  obtain ⟨fuel0, hf0⟩ := h0
  obtain ⟨x0, len0, cap0, rfl⟩ := okWide_slice Try.underlying48 (hval 0 48 v0 rfl rfl)
  simp only [Value.cells] at hf0
  have hSz : (DataW.weightsEach Try.prog (Try.f6.params.toList ++ Rows.strtabTurnsSpec.plain.varTypes Try.prog) ([d0, d1] ++ [])).all (· ≤ reachBytes) = true := hSz0
  rw [Try.params6] at hSz
  obtain ⟨L0, hL0⟩ := open_strs hf0 (fun m hm => by
    have := List.all_eq_true.1 hSz m (DataW.weights_mem_each (j := 0) (t := 48) rfl rfl m hm)
    simpa using this)
  obtain ⟨s1, rfl, rfl, rfl, w1⟩ := open_string Try.underlying9 (hval 1 9 v1 rfl rfl) h1
  clear hA0 hval0 hSz0 hSz
  simp only [List.append_nil] at hW'
  have lt0 : ∀ x ∈ p0, x.block < W.heap.size := fun x hx => by simpa using hW'.lt x (by simp [hx])
  have k0 : ∀ (W' : World), Below W.heap.size W W' → DataW.Trod enc Try.prog W' 0 (fun b => decide (b < W.heap.size)) true 48 _ d0 p0 := fun W' hn => Below.trod Try_laidOut (by kernel_rfl) (of_decide_eq_true (by kernel_rfl)) h0k hn lt0
  refine (StrtabTurns_any (.slice x0 len0 cap0) L0 s1 W hL0 w1).mono fun e W' ⟨he, hg0⟩ => ?_
  have hg : Below W.heap.size W W' := hg0.below (Nat.le_refl _) (fun _ e => e.elim)
  subst he
  exact ⟨_, rfl, _, _, _, [], p0 ++ ([]), [], hW', trodAll_mk1 (shut_bool Try.underlying4 _), trodAll_mk2 (k0 _ hg) (shut_string Try.underlying9 w1), rfl, hg.frame _, fun h => by cases h⟩

theorem strtabTurns_holds : Rows.StrtabTurnsSaid :=
  OpenClaim.holds_of_wide 6 Try.f6 rfl rfl rfl rfl rfl rfl rfl ⟨rfl, rfl, rfl, rfl, rfl⟩ rfl rfl rfl rfl rfl (by kernel_rfl) Try.func6 (by kernel_rfl)
    (of_decide_eq_true (by kernel_rfl)) (by unfold Func.isWrapper; first | (rw [if_pos (by decide +kernel)]; kernel_rfl) | (rw [if_neg (by decide +kernel)]; exact ⟨rfl, rfl⟩))
    (fun os started H enc _ => strtabTurns_lifted os started H enc)
end Go.Proofs.Ytnfamebihpnjlaa
