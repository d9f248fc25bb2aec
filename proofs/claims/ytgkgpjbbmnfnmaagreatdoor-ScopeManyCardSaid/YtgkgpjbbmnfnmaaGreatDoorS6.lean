/- Scope: names become known. -/
import Derived.Test.YtgkgpjbbmnfnmaaGreatDoorS5
namespace Go.Proofs.YtgkgpjbbmnfnmaaGreatDoor
open Go.RowKit
set_option linter.unusedSimpArgs false
set_option linter.unusedVariables false

def errS (s : St) (a : Int) : St := if (s.err == 0 && (s.stk.length : Int) - s.base == 60) = true then { s with at' := a, err := 4 } else s
def nameS (s : St) (a : Int) (t : ByteArray) : St :=
  useS { errS s a with made := s.made + 1, stk := s.stk ++ [⟨t, s.num, s.made⟩] } a t s.num s.made
def learn1 (s : St) : Tr → St
  | .mk _ t _ _ _ _ a => nameS s a t
/-- Numbers stay small. -/
structure Sml (N : Nat) (s : St) : Prop where
  stk : s.stk.length ≤ N
  us : s.us.length ≤ N
  far : ∀ o n, 0 ≤ s.far o n ∧ s.far o n ≤ (N : Int)
  num : 0 ≤ s.num ∧ s.num ≤ (N : Int)
  base : 0 ≤ s.base ∧ s.base ≤ (N : Int)
  made : 0 ≤ s.made ∧ s.made ≤ (N : Int)
  cnt : 0 ≤ s.cnt ∧ s.cnt ≤ (N : Int)
  ent : ∀ e ∈ s.stk, 0 ≤ e.o ∧ e.o ≤ (N : Int) ∧ 0 ≤ e.n ∧ e.n ≤ (N : Int)
  use : ∀ x ∈ s.us, -1 ≤ x.o ∧ x.o ≤ (N : Int) ∧ -1 ≤ x.v ∧ x.v ≤ (N : Int)
theorem wf_of {x : Int} (h : 0 ≤ x) (h2 : x ≤ 1000000) : wf x := by
  unfold wf Lit.wf
  have h3 : IntKind.i64.min = -9223372036854775808 := by decide
  have h4 : IntKind.i64.max = 9223372036854775807 := by decide
  simp [h3, h4]
  omega
theorem errS_eq (s : St) (a : Int) : (errS s a).stk = s.stk ∧ (errS s a).us = s.us ∧ (errS s a).far = s.far ∧ (errS s a).num = s.num ∧ (errS s a).base = s.base ∧ (errS s a).made = s.made ∧ (errS s a).cnt = s.cnt := by
  unfold errS
  split <;> exact ⟨rfl, rfl, rfl, rfl, rfl, rfl, rfl⟩
theorem bump_sml {N : Nat} {s : St} (h : Sml N s) (a : Int) (t : ByteArray) (o n : Int) (ho : -1 ≤ o ∧ o ≤ (N : Int) ∧ -1 ≤ n ∧ n ≤ (N : Int)) : Sml (N + 1) (useS s a t o n) := by
  refine ⟨by have := h.stk; show s.stk.length ≤ _; omega, by have := h.us; show (s.us ++ [_]).length ≤ _; rw [List.length_append]; simp; omega, fun o' n' => ?_, by have := h.num; show 0 ≤ s.num ∧ s.num ≤ _; omega, by have := h.base; show 0 ≤ s.base ∧ s.base ≤ _; omega, by have := h.made; show 0 ≤ s.made ∧ s.made ≤ _; omega, by have := h.cnt; show 0 ≤ s.cnt ∧ s.cnt ≤ _; omega, fun e he => by have := h.ent e he; omega, fun x hx => ?_⟩
  rotate_left
  · rcases List.mem_append.1 (show x ∈ s.us ++ [_] from hx) with hx | hx
    · have := h.use x hx
      omega
    · rw [List.mem_singleton.1 hx]
      exact ⟨ho.1, by show o ≤ _; omega, ho.2.2.1, by show n ≤ _; omega⟩
  have h1 := h.far o n
  have h2 := h.far o' n'
  show 0 ≤ (if (o != -1 && o != s.num) = true then bumpF s.far o n else s.far) o' n' ∧ (if (o != -1 && o != s.num) = true then bumpF s.far o n else s.far) o' n' ≤ ((N + 1 : Nat) : Int)
  split
  · unfold bumpF
    split <;> omega
  · omega
theorem name_sml {N : Nat} {s : St} (h : Sml N s) (a : Int) (t : ByteArray) : Sml (N + 1) (nameS s a t) := by
  obtain ⟨e1, e2, e3, e4, e5, e6, e7⟩ := errS_eq s a
  have h1 := h.stk
  have h2 := h.us
  have h4 := h.num
  have h5 := h.base
  have h6 := h.made
  have h7 := h.cnt
  unfold nameS useS
  refine ⟨by show (s.stk ++ [_]).length ≤ _; rw [List.length_append]; simp; omega, by show ((errS s a).us ++ [_]).length ≤ _; rw [e2, List.length_append]; simp; omega, fun o' n' => ?_, by show 0 ≤ (errS s a).num ∧ (errS s a).num ≤ _; rw [e4]; omega, by show 0 ≤ (errS s a).base ∧ (errS s a).base ≤ _; rw [e5]; omega, by show 0 ≤ s.made + 1 ∧ s.made + 1 ≤ _; omega, by show 0 ≤ (errS s a).cnt ∧ (errS s a).cnt ≤ _; rw [e7]; omega, fun e he => ?_, fun x hx => ?_⟩
  rotate_left
  · rcases List.mem_append.1 (show e ∈ s.stk ++ [⟨t, s.num, s.made⟩] from he) with he | he
    · have := h.ent e he
      omega
    · rw [List.mem_singleton.1 he]
      exact ⟨h4.1, by show s.num ≤ _; omega, h6.1, by show s.made ≤ _; omega⟩
  · rcases List.mem_append.1 (show x ∈ (errS s a).us ++ [_] from hx) with hx | hx
    · rw [e2] at hx
      have := h.use x hx
      omega
    · rw [List.mem_singleton.1 hx]
      exact ⟨by show -1 ≤ s.num; omega, by show s.num ≤ _; omega, by show -1 ≤ s.made; omega, by show s.made ≤ _; omega⟩
  have h8 := h.far o' n'
  have h9 := h.far s.num s.made
  show 0 ≤ (if (s.num != -1 && s.num != (errS s a).num) = true then bumpF (errS s a).far s.num s.made else (errS s a).far) o' n' ∧ (if (s.num != -1 && s.num != (errS s a).num) = true then bumpF (errS s a).far s.num s.made else (errS s a).far) o' n' ≤ ((N + 1 : Nat) : Int)
  rw [e3, e4]
  simp
  omega
end Go.Proofs.YtgkgpjbbmnfnmaaGreatDoor
