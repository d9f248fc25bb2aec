/- Tokens by their forms; the chapter's examples. -/
import Derived.Test.YtidokamfppdnaaaGreatDoorD2
namespace Go.Proofs.YtidokamfppdnaaaGreatDoor
open Go.RowKit
set_option linter.unusedSimpArgs false
set_option linter.unusedVariables false

theorem nmK_ne (s : ByteArray) (k : Nat) : nmK s k ≠ 0 := by unfold nmK; split <;> decide
theorem tk_name {s : ByteArray} {k : Nat} (hk : k < s.size) (hs : s.size ≤ 8192) (h : isLt s[k] = true) : tkAt s k hs = (nmT s k, 0) := by
  have hh : hit (nmT s k, 0) = true := by
    unfold nmT hit
    rw [bl_getD s hk, h, if_pos rfl]
    have := nmK_ne s k
    simp [this]
  unfold tkAt pick asks
  rw [List.find?_cons, hh]
theorem nm_not {s : ByteArray} {k : Nat} (hk : k < s.size) (h : isLt s[k] = false) : hit (nmT s k, 0) = false := by
  unfold nmT hit
  rw [bl_getD s hk, h]
  rfl
theorem tk_num {s : ByteArray} {k : Nat} (hk : k < s.size) (hs : s.size ≤ 8192) (h1 : isLt s[k] = false) (h2 : isDg s[k] = true) : tkAt s k hs = nuX s k hs ∨ (nuX s k hs).2 = 0 ∧ (nuX s k hs).1.k = 0 := by
  cases hh : hit (nuX s k hs) with
  | true =>
    left
    unfold tkAt pick asks
    rw [List.find?_cons, nm_not hk h1, List.find?_cons, hh]
  | false =>
    right
    unfold hit at hh
    simpa using hh
theorem tk_num0 {s : ByteArray} {k : Nat} (hk : k < s.size) (hs : s.size ≤ 8192) (h1 : isLt s[k] = false) (h2 : isDg s[k] = true) (h3 : ∃ t m, ReadB (s.extract k (k + numL ((bl s).drop k))) t m 0) :
    ∃ t m, tkAt s k hs = (⟨3, s.extract k (k + numL ((bl s).drop k)), t, m, ⟨#[]⟩, k, (k + numL ((bl s).drop k) : Nat)⟩, 0) := by
  have hz : (s.extract k (k + numL ((bl s).drop k))).size ≤ 140737488351232 := by rw [ByteArray.size_extract]; omega
  have h0 := rd_zero _ hz h3
  have hn : nuX s k hs = (⟨3, s.extract k (k + numL ((bl s).drop k)), (rd _ hz).1.1, (rd _ hz).1.2.1, ⟨#[]⟩, k, (k + numL ((bl s).drop k) : Nat)⟩, 0) := by
    unfold nuX
    rw [bl_getD s hk, h2, if_pos rfl]
    dsimp only
    rw [if_pos h0, h0]
  rcases tk_num hk hs h1 h2 with h | ⟨_, h⟩
  · rw [h, hn]; exact ⟨_, _, rfl⟩
  · rw [hn] at h; exact absurd (show (3 : Int) = 0 from h) (by decide)
theorem nu_not {s : ByteArray} {k : Nat} (hk : k < s.size) (hs : s.size ≤ 8192) (h : isDg s[k] = false) : hit (nuX s k hs) = false := by
  unfold nuX hit
  rw [bl_getD s hk, h]
  rfl
theorem tk_quote {s : ByteArray} {k : Nat} (hk : k < s.size) (hs : s.size ≤ 8192) (h1 : isLt s[k] = false) (h2 : isDg s[k] = false) (h3 : s[k].toNat = 34) : tkAt s k hs = quX s k := by
  have hh : hit (quX s k) = true := by
    unfold quX hit
    rw [bl_getD s hk, if_pos h3]
    rcases qL_index ((bl s).drop (k + 1)) with ⟨q1, q2⟩ | ⟨n, q1, q2, q3⟩
    · rw [q1]; rfl
    · rw [q1]
      dsimp only
      cases uq (s.extract k (k + n + 2)) <;> rfl
  unfold tkAt pick asks
  rw [List.find?_cons, nm_not hk h1, List.find?_cons, nu_not hk hs h2, List.find?_cons, hh]
theorem tk_sign {s : ByteArray} {k : Nat} (hk : k < s.size) (hs : s.size ≤ 8192) (h1 : isLt s[k] = false) (h2 : isDg s[k] = false) (h3 : ¬ s[k].toNat = 34) :
    tkAt s k hs = match sgF ((bl s).drop k) sgs with | some g => (⟨5, s.extract k (k + g.length), 0, 0, ⟨#[]⟩, k, (k + g.length : Nat)⟩, 0) | none => (t0, 15) := by
  have hq : hit (quX s k) = false := by
    unfold quX hit
    rw [bl_getD s hk, if_neg h3]; rfl
  unfold tkAt pick asks
  rw [List.find?_cons, nm_not hk h1, List.find?_cons, nu_not hk hs h2, List.find?_cons, hq]
  unfold sgX
  cases sgF ((bl s).drop k) sgs <;> rfl

def s1 : ByteArray := ⟨#[97, 61, 49, 46, 46, 50]⟩
def s2 : ByteArray := ⟨#[120, 45, 45, 121]⟩
def s3 : ByteArray := ⟨#[97, 32, 36]⟩
def s4 : ByteArray := ⟨#[34, 97]⟩
theorem hs1 : s1.size ≤ 8192 := by decide
theorem hs2 : s2.size ≤ 8192 := by decide
theorem hs3 : s3.size ≤ 8192 := by decide
theorem hs4 : s4.size ≤ 8192 := by decide
theorem lx_more {s : ByteArray} {hs : s.size ≤ 8192} {k E k' : Nat} {X : Tk} {e : Option (Nat × Int)} {L : List Tk} (hk : k < s.size) (ht : tkAt s k hs = (X, 0)) (hE : X.e = (E : Int)) (h5 : k < E) (h6 : E ≤ s.size) (hk' : E + skipB false ((bl s).drop E) = k') (hL : Lx s hs k' e L) : Lx s hs k e (X :: L) :=
  .more k E X e L hk (by rw [ht]) (by rw [ht]) hE h5 h6 (by rw [hk']; exact hL)
theorem ex1 : ∃ a b c d : Int, Lx s1 hs1 (skipB false (bl s1)) none [⟨1, s1.extract 0 1, 0, 0, ⟨#[]⟩, 0, 1⟩, ⟨5, s1.extract 1 2, 0, 0, ⟨#[]⟩, 1, 2⟩, ⟨3, s1.extract 2 3, a, b, ⟨#[]⟩, 2, 3⟩, ⟨5, s1.extract 3 5, 0, 0, ⟨#[]⟩, 3, 5⟩, ⟨3, s1.extract 5 6, c, d, ⟨#[]⟩, 5, 6⟩] := by
  obtain ⟨a, b, h2⟩ := tk_num0 (s := s1) (k := 2) (by decide) hs1 (by decide) (by decide) (readB_digit _ 1 (by decide) (by decide) (by decide) (by decide) (by decide) (by decide) (by kernel_rfl))
  obtain ⟨c, d, h5⟩ := tk_num0 (s := s1) (k := 5) (by decide) hs1 (by decide) (by decide) (readB_digit _ 2 (by decide) (by decide) (by decide) (by decide) (by decide) (by decide) (by kernel_rfl))
  refine ⟨a, b, c, d, ?_⟩
  have h0 := tk_name (s := s1) (k := 0) (by decide) hs1 (by decide)
  have h1 := tk_sign (s := s1) (k := 1) (by decide) hs1 (by decide) (by decide) (by decide)
  have h3 := tk_sign (s := s1) (k := 3) (by decide) hs1 (by decide) (by decide) (by decide)
  refine lx_more (k := 0) (E := 1) (k' := 1) (by decide) h0 rfl (by decide) (by decide) (by decide) ?_
  refine lx_more (E := 2) (k' := 2) (by decide) h1 rfl (by decide) (by decide) (by decide) ?_
  refine lx_more (E := 3) (k' := 3) (by decide) h2 rfl (by decide) (by decide) (by decide) ?_
  refine lx_more (E := 5) (k' := 5) (by decide) h3 rfl (by decide) (by decide) (by decide) ?_
  refine lx_more (E := 6) (k' := 6) (by decide) h5 rfl (by decide) (by decide) (by decide) ?_
  exact .done 6 (by decide)
theorem ex2 : Lx s2 hs2 (skipB false (bl s2)) none [⟨1, s2.extract 0 1, 0, 0, ⟨#[]⟩, 0, 1⟩] := by
  have h0 := tk_name (s := s2) (k := 0) (by decide) hs2 (by decide)
  refine lx_more (k := 0) (E := 1) (k' := 4) (by decide) h0 rfl (by decide) (by decide) (by decide) ?_
  exact .done 4 (by decide)
theorem ex3 : Lx s3 hs3 (skipB false (bl s3)) (some (2, 15)) [⟨1, s3.extract 0 1, 0, 0, ⟨#[]⟩, 0, 1⟩] := by
  have h0 := tk_name (s := s3) (k := 0) (by decide) hs3 (by decide)
  have h2 := tk_sign (s := s3) (k := 2) (by decide) hs3 (by decide) (by decide) (by decide)
  refine lx_more (k := 0) (E := 1) (k' := 2) (by decide) h0 rfl (by decide) (by decide) (by decide) ?_
  exact .bad 2 15 (by decide) (by rw [h2]; rfl) (by decide)
theorem ex4 : Lx s4 hs4 (skipB false (bl s4)) (some (0, 16)) [] := by
  have h0 := tk_quote (s := s4) (k := 0) (by decide) hs4 (by decide) (by decide) (by decide)
  exact .bad 0 16 (by decide) (by rw [h0]; rfl) (by decide)
end Go.Proofs.YtidokamfppdnaaaGreatDoor
