/- Scope: sources made of words: many variables. -/
import Derived.Test.YtgkgpjbbmnfnmaaGreatDoorS21
namespace Go.Proofs.YtgkgpjbbmnfnmaaGreatDoor
open Go.RowKit
set_option linter.unusedSimpArgs false
set_option linter.unusedVariables false

/-- Words, each with a blank behind. -/
def spell : List (List UInt8) → List UInt8
  | [] => []
  | u :: r => u ++ 32 :: spell r
def wordOk : List UInt8 → Bool
  | [] => false
  | c :: r => isLt c && r.all isNm
def wtok (k : Nat) (u : List UInt8) : Tk := ⟨if wordsL.contains u then 2 else 1, ⟨u.toArray⟩, 0, 0, ⟨#[]⟩, k, (k + u.length : Nat)⟩
def wtoks : Nat → List (List UInt8) → List Tk
  | _, [] => []
  | k, u :: r => wtok k u :: wtoks (k + u.length + 1) r
theorem ba_eq (x : ByteArray) (l : List UInt8) (h : bl x = l) : x = ⟨l.toArray⟩ := by
  subst h
  cases x
  simp [bl]
theorem nameL_word : ∀ (u r : List UInt8), (∀ c ∈ u, isNm c = true) → nameL (u ++ 32 :: r) = u.length
  | [], r, _ => by
    rw [List.nil_append, nameL, if_neg (by decide)]
    rfl
  | c :: u, r, h => by
    rw [List.cons_append, nameL, if_pos (h c (List.mem_cons_self ..)), nameL_word u r (fun d hd => h d (List.mem_cons_of_mem _ hd)), List.length_cons, Nat.add_comm]
theorem wordOk_all {u : List UInt8} (h : wordOk u = true) : (∃ c r, u = c :: r ∧ isLt c = true) ∧ ∀ c ∈ u, isNm c = true := by
  cases u with
  | nil => cases h
  | cons c r =>
    rw [wordOk, Bool.and_eq_true] at h
    refine ⟨⟨c, r, rfl, h.1⟩, fun d hd => ?_⟩
    rcases List.mem_cons.1 hd with e | hd
    · rw [e, isNm, h.1]; rfl
    · exact List.all_eq_true.1 h.2 d hd
theorem skip_lt {c : UInt8} {r : List UInt8} (h : isLt c = true) : skipB false (c :: r) = 0 := by
  have h1 : isBl c = false := by
    unfold isLt at h
    unfold isBl
    simp at h ⊢
    omega
  have h2 : ¬ c.toNat = 45 := by
    unfold isLt at h
    simp at h
    omega
  rw [skipB, if_neg (by rw [h1]; decide), if_neg (fun e => h2 e.1)]
theorem skip_spell : ∀ ws : List (List UInt8), (∀ u ∈ ws, wordOk u = true) → skipB false (spell ws) = 0
  | [], _ => rfl
  | u :: r, h => by
    obtain ⟨⟨c, q, rfl, h1⟩, _⟩ := wordOk_all (h u (List.mem_cons_self ..))
    exact skip_lt h1
theorem lx_spell {s : ByteArray} (hs : s.size ≤ 8192) : ∀ (ws : List (List UInt8)) (k : Nat), (∀ u ∈ ws, wordOk u = true) → (bl s).drop k = spell ws → Lx s hs k none (wtoks k ws)
  | [], k, _, h => .done k (by
    have := List.drop_eq_nil_iff.1 h
    rwa [bl_len] at this)
  | u :: r, k, hw, h => by
    have hu := hw u (List.mem_cons_self ..)
    have hr : ∀ x ∈ r, wordOk x = true := fun x hx => hw x (List.mem_cons_of_mem _ hx)
    obtain ⟨⟨c, q, hcq, h1⟩, h2⟩ := wordOk_all hu
    have hlen := congrArg List.length h
    rw [List.length_drop, bl_len, spell, List.length_append, List.length_cons] at hlen
    have hk : k < s.size := by omega
    have hc : s[k] = c := by
      have := bl_drop s hk
      rw [h, spell, hcq, List.cons_append] at this
      exact (List.cons.inj this).1.symm
    have hn : nameL ((bl s).drop k) = u.length := by rw [h, spell]; exact nameL_word u _ h2
    have he : s.extract k (k + u.length) = ⟨u.toArray⟩ := by
      refine ba_eq _ _ ?_
      rw [bl_ext, List.drop_take, Nat.add_sub_cancel_left, h, spell, List.take_left]
    have hx : nmT s k = wtok k u := by
      unfold nmT nmK isWd
      rw [bl_getD s hk, hc, if_pos h1, hn, he]
      rfl
    have hd : (bl s).drop (k + u.length) = 32 :: spell r := by
      rw [← List.drop_drop, h, spell, List.drop_left]
    have hd2 : (bl s).drop (k + u.length + 1) = spell r := by
      rw [← List.drop_drop, hd]; rfl
    refine lx_more hk ((tk_name hk hs (by rw [hc]; exact h1)).trans (by rw [hx])) rfl (by rw [hcq]; simp) (by omega) ?_ (lx_spell hs r (k + u.length + 1) hr hd2)
    rw [hd, skipB, if_pos (by decide), skip_spell r hr]
theorem wtoks_len : ∀ (ws : List (List UInt8)) (k : Nat), (wtoks k ws).length = ws.length
  | [], _ => rfl
  | u :: r, k => by rw [wtoks, List.length_cons, wtoks_len r, List.length_cons]
def wLocal : List UInt8 := [108, 111, 99, 97, 108]
def wA : List UInt8 := [97]
def wDo : List UInt8 := [100, 111]
def wEnd : List UInt8 := [101, 110, 100]
def ws1 : Nat → List (List UInt8)
  | 0 => []
  | n + 1 => wLocal :: wA :: ws1 n
def ws2 : Nat → List (List UInt8)
  | 0 => []
  | n + 1 => wDo :: wLocal :: wA :: wEnd :: ws2 n
theorem ws1_ok : ∀ n, ∀ u ∈ ws1 n, wordOk u = true
  | 0, u, h => by simp [ws1] at h
  | n + 1, u, h => by
    rw [ws1, List.mem_cons, List.mem_cons] at h
    rcases h with rfl | rfl | h
    · decide
    · decide
    · exact ws1_ok n u h
theorem ws2_ok : ∀ n, ∀ u ∈ ws2 n, wordOk u = true
  | 0, u, h => by simp [ws2] at h
  | n + 1, u, h => by
    rw [ws2, List.mem_cons, List.mem_cons, List.mem_cons, List.mem_cons] at h
    rcases h with rfl | rfl | rfl | rfl | h
    · decide
    · decide
    · decide
    · decide
    · exact ws2_ok n u h
theorem spell_app (a b : List (List UInt8)) : spell (a ++ b) = spell a ++ spell b := by
  induction a with
  | nil => rfl
  | cons u r ih => rw [List.cons_append, spell, spell, ih]; simp
theorem ws1_end : ∀ n, ws1 (n + 1) = ws1 n ++ [wLocal, wA]
  | 0 => rfl
  | n + 1 => congrArg (fun l => wLocal :: wA :: l) (ws1_end n)
theorem ws2_end : ∀ n, ws2 (n + 1) = ws2 n ++ [wDo, wLocal, wA, wEnd]
  | 0 => rfl
  | n + 1 => congrArg (fun l => wDo :: wLocal :: wA :: wEnd :: l) (ws2_end n)
theorem ws1_len : ∀ n, (ws1 n).length = 2 * n ∧ (spell (ws1 n)).length = 8 * n
  | 0 => ⟨rfl, rfl⟩
  | n + 1 => by
    obtain ⟨h1, h2⟩ := ws1_len n
    refine ⟨by rw [ws1, List.length_cons, List.length_cons, h1]; omega, ?_⟩
    rw [ws1, spell, spell]
    simp only [List.length_append, List.length_cons, h2, wLocal, wA, List.length_nil]
    omega
theorem ws2_len : ∀ n, (ws2 n).length = 4 * n ∧ (spell (ws2 n)).length = 15 * n
  | 0 => ⟨rfl, rfl⟩
  | n + 1 => by
    obtain ⟨h1, h2⟩ := ws2_len n
    refine ⟨by rw [ws2, List.length_cons, List.length_cons, List.length_cons, List.length_cons, h1]; omega, ?_⟩
    rw [ws2, spell, spell, spell, spell]
    simp only [List.length_append, List.length_cons, h2, wLocal, wA, wDo, wEnd, List.length_nil]
    omega
/-- The texts that the law makes. -/
def sp1 (n : Nat) : ByteArray := ⟨(spell (ws1 n)).toArray⟩
def sp2 (n : Nat) : ByteArray := ⟨(spell (ws2 n)).toArray⟩
theorem sp1_size (n : Nat) : (sp1 n).size = 8 * n := by
  show (spell (ws1 n)).toArray.size = _
  rw [List.size_toArray, (ws1_len n).2]
theorem sp2_size (n : Nat) : (sp2 n).size = 15 * n := by
  show (spell (ws2 n)).toArray.size = _
  rw [List.size_toArray, (ws2_len n).2]
theorem ba_app (a b : List UInt8) : (⟨a.toArray⟩ : ByteArray) ++ ⟨b.toArray⟩ = ⟨(a ++ b).toArray⟩ := by
  apply ByteArray.ext
  simp
theorem sp1_succ (n : Nat) : sp1 (n + 1) = sp1 n ++ ⟨#[108, 111, 99, 97, 108, 32, 97, 32]⟩ := by
  unfold sp1
  rw [ws1_end, spell_app, ← ba_app]
  rfl
theorem sp2_succ (n : Nat) : sp2 (n + 1) = sp2 n ++ ⟨#[100, 111, 32, 108, 111, 99, 97, 108, 32, 97, 32, 101, 110, 100, 32]⟩ := by
  unfold sp2
  rw [ws2_end, spell_app, ← ba_app]
  rfl
theorem wt1_at : ∀ n k j, j < n → (wtoks k (ws1 n))[2 * j]? = some (wtok (k + 8 * j) wLocal) ∧ (wtoks k (ws1 n))[2 * j + 1]? = some (wtok (k + 8 * j + 6) wA)
  | 0, _, _, h => by omega
  | n + 1, k, 0, _ => ⟨rfl, rfl⟩
  | n + 1, k, j + 1, h => by
    have ih := wt1_at n (k + 8) j (by omega)
    rw [show k + 8 * (j + 1) = k + 8 + 8 * j by omega]
    exact ih
theorem wt2_at : ∀ n k j, j < n → (wtoks k (ws2 n))[4 * j]? = some (wtok (k + 15 * j) wDo) ∧ (wtoks k (ws2 n))[4 * j + 1]? = some (wtok (k + 15 * j + 3) wLocal) ∧ (wtoks k (ws2 n))[4 * j + 2]? = some (wtok (k + 15 * j + 9) wA) ∧ (wtoks k (ws2 n))[4 * j + 3]? = some (wtok (k + 15 * j + 11) wEnd)
  | 0, _, _, h => by omega
  | n + 1, k, 0, _ => ⟨rfl, rfl, rfl, rfl⟩
  | n + 1, k, j + 1, h => by
    have ih := wt2_at n (k + 15) j (by omega)
    rw [show k + 15 * (j + 1) = k + 15 + 15 * j by omega]
    exact ih
theorem lx_words {ws : List (List UInt8)} (hw : ∀ u ∈ ws, wordOk u = true) (hs : (⟨(spell ws).toArray⟩ : ByteArray).size ≤ 8192) : PsR ⟨(spell ws).toArray⟩ (whole ⟨wtoks 0 ws, ((⟨(spell ws).toArray⟩ : ByteArray).size : Int)⟩) := by
  have hb : bl (⟨(spell ws).toArray⟩ : ByteArray) = spell ws := by simp [bl]
  refine .inr ⟨hs, none, wtoks 0 ws, ?_, rfl⟩
  rw [hb, skip_spell ws hw]
  exact lx_spell hs ws 0 hw hb
end Go.Proofs.YtgkgpjbbmnfnmaaGreatDoor
