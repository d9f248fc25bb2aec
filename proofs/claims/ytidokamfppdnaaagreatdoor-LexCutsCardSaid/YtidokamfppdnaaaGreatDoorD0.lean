/- What a token is; a source's tokens. -/
import Derived.Test.YtidokamfppdnaaaGreatDoorD1
namespace Go.Proofs.YtidokamfppdnaaaGreatDoor
open Go.RowKit
set_option linter.unusedSimpArgs false
set_option linter.unusedVariables false

/-- A token at k. -/
def TkF (s : ByteArray) (k : Nat) (X : Tk) : Prop := ∃ n K vt vn sy, 0 < n ∧ k + n ≤ s.size ∧ 1 ≤ K ∧ K ≤ 5 ∧ X = ⟨K, s.extract k (k + n), vt, vn, sy, k, (k + n : Nat)⟩
theorem isLt_nm {c : UInt8} (h : isLt c = true) : isNm c = true := by unfold isNm; rw [h]; rfl
theorem isDg_nm {c : UInt8} (h : isDg c = true) : isNm c = true := by unfold isNm; rw [h]; simp
theorem name_pos (s : ByteArray) {k : Nat} (hk : k < s.size) (h : isLt s[k] = true) : 0 < nameL ((bl s).drop k) ∧ k + nameL ((bl s).drop k) ≤ s.size := by
  have hl := nameL_le ((bl s).drop k)
  rw [List.length_drop, bl_len] at hl
  refine ⟨?_, by omega⟩
  rw [bl_drop s hk, nameL, if_pos (isLt_nm h)]; omega
theorem numL_pos {c : UInt8} (h : isNm c = true) : ∀ l, 0 < numL (c :: l)
  | [] => by simp [numL, h]
  | d :: r => by rw [numL, if_pos h]; omega
theorem num_pos (s : ByteArray) {k : Nat} (hk : k < s.size) (h : isDg s[k] = true) : 0 < numL ((bl s).drop k) ∧ k + numL ((bl s).drop k) ≤ s.size := by
  have hl := numL_le ((bl s).drop k)
  rw [List.length_drop, bl_len] at hl
  refine ⟨?_, by omega⟩
  rw [bl_drop s hk]; exact numL_pos (isDg_nm h) _
theorem ask_ok (s : ByteArray) {k : Nat} (hk : k < s.size) (hs : s.size ≤ 8192) (p : Tk × Int) (hp : p ∈ asks s k hs) (h2 : p.2 = 0) (h1 : p.1.k ≠ 0) : TkF s k p.1 := by
  unfold asks at hp
  simp only [List.mem_cons, List.not_mem_nil, or_false] at hp
  rcases hp with rfl | rfl | rfl | rfl
  · dsimp only at h1 ⊢
    unfold nmT at h1 ⊢
    rw [bl_getD s hk] at h1 ⊢
    cases hl : isLt s[k] with
    | false => rw [hl] at h1; exact absurd rfl h1
    | true =>
      obtain ⟨a, b⟩ := name_pos s hk hl
      rw [if_pos rfl]
      refine ⟨_, nmK s k, _, _, _, a, b, ?_, ?_, rfl⟩
      · unfold nmK; split <;> decide
      · unfold nmK; split <;> decide
  · unfold nuX at h1 h2 ⊢
    rw [bl_getD s hk] at h1 h2 ⊢
    cases hl : isDg s[k] with
    | false => rw [hl] at h1; exact absurd rfl h1
    | true =>
      obtain ⟨a, b⟩ := num_pos s hk hl
      rw [hl, if_pos rfl] at h2
      dsimp only at h2
      rw [if_pos rfl]
      dsimp only
      rw [if_pos h2]
      exact ⟨_, 3, _, _, _, a, b, by decide, by decide, rfl⟩
  · unfold quX at h1 h2 ⊢
    by_cases hl : ((bl s).getD k 0).toNat = 34
    · rw [if_pos hl] at h1 h2 ⊢
      rcases qL_index ((bl s).drop (k + 1)) with ⟨q1, q2⟩ | ⟨n, q1, q2, q3⟩
      · rw [q1] at h1; exact absurd rfl h1
      · rw [List.length_drop, bl_len] at q3
        rw [q1] at h1 h2 ⊢
        dsimp only at h1 h2 ⊢
        cases hu : uq (s.extract k (k + n + 2)) with
        | none => rw [hu] at h1; exact absurd rfl h1
        | some u => exact ⟨n + 2, 4, _, _, _, by omega, by omega, by decide, by decide, rfl⟩
    · rw [if_neg hl] at h1; exact absurd rfl h1
  · dsimp only at h1 ⊢
    unfold sgX at h1 ⊢
    cases hg : sgF ((bl s).drop k) sgs with
    | none => rw [hg] at h1; exact absurd rfl h1
    | some g =>
      have hm := List.mem_of_find?_eq_some hg
      have hp := List.find?_some hg
      have := hp_len hp
      rw [List.length_drop, bl_len] at this
      exact ⟨g.length, 5, _, _, _, (sgs_le g hm).2, by have := (sgs_le g hm).2; omega, by decide, by decide, rfl⟩
theorem tk_ok (s : ByteArray) {k : Nat} (hk : k < s.size) (hs : s.size ≤ 8192) (h : (tkAt s k hs).2 = 0) : TkF s k (tkAt s k hs).1 := by
  unfold tkAt pick at h ⊢
  cases hf : (asks s k hs).find? hit with
  | none => rw [hf] at h; exact absurd h (by decide)
  | some p =>
    rw [hf] at h
    have hm := List.mem_of_find?_eq_some hf
    have hh := List.find?_some hf
    refine ask_ok s hk hs p hm h ?_
    unfold hit at hh
    have h' : p.2 = 0 := h
    rw [h'] at hh
    simpa using hh

/-- The tokens from k on, and the first error. -/
inductive Lx (s : ByteArray) (hs : s.size ≤ 8192) : Nat → Option (Nat × Int) → List Tk → Prop
  | done (k : Nat) : s.size ≤ k → Lx s hs k none []
  | bad (k : Nat) (x : Int) : k < s.size → (tkAt s k hs).2 = x → x ≠ 0 → Lx s hs k (some (k, x)) []
  | more (k E : Nat) (X : Tk) (e : Option (Nat × Int)) (L : List Tk) : k < s.size → (tkAt s k hs).2 = 0 → (tkAt s k hs).1 = X → X.e = (E : Int) → k < E → E ≤ s.size → Lx s hs (E + skipB false ((bl s).drop E)) e L → Lx s hs k e (X :: L)
theorem skipB_len : ∀ b l, skipB b l ≤ l.length
  | _, [] => by simp [skipB]
  | true, c :: r => by
    have h1 := skipB_len false r
    have h2 := skipB_len true r
    unfold skipB; split <;> simp <;> omega
  | false, c :: r => by
    have h1 := skipB_len false r
    have h2 := skipB_len true r
    unfold skipB; split
    · simp; omega
    · split <;> simp <;> omega
theorem skipB_le (s : ByteArray) {k : Nat} (hk : k ≤ s.size) : k + skipB false ((bl s).drop k) ≤ s.size := by
  have hl := skipB_len false ((bl s).drop k)
  rw [List.length_drop, bl_len] at hl
  omega
theorem Lx.all (s : ByteArray) (hs : s.size ≤ 8192) : ∀ n k, s.size - k ≤ n → ∃ e L, Lx s hs k e L := by
  intro n
  induction n with
  | zero => exact fun k hn => ⟨_, _, .done k (by omega)⟩
  | succ n ih =>
    intro k hn
    by_cases hk : k < s.size
    · by_cases hx : (tkAt s k hs).2 = 0
      · obtain ⟨m, K, vt, vn, sy, h1, h2, h3, h4, h5⟩ := tk_ok s hk hs hx
        obtain ⟨e, L, hL⟩ := ih (k + m + skipB false ((bl s).drop (k + m))) (by omega)
        exact ⟨e, _, .more k (k + m) _ e L hk hx h5 rfl (by omega) h2 hL⟩
      · exact ⟨_, _, .bad k _ hk rfl hx⟩
    · exact ⟨_, _, .done k (by omega)⟩
end Go.Proofs.YtidokamfppdnaaaGreatDoor
