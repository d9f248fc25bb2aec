/- Scope: many variables are told. -/
import Derived.Test.YtgkgpjbbmnfnmaaGreatDoorS28
namespace Go.Proofs.YtgkgpjbbmnfnmaaGreatDoor
open Go.RowKit
set_option linter.unusedSimpArgs false
set_option linter.unusedVariables false

theorem allS_cons (f : St → St) (fs : List (St → St)) (s : St) : allS (f :: fs) s = allS fs (f s) := rfl
theorem wkR_cons (x : Tr) (l : List Tr) : wkR (x :: l) = wk x :: wkR l := by rw [wkR_map, wkR_map]; rfl
theorem wk_loc (a b : Nat) (s : St) : wk (loc a b) s = nameS s b ⟨wA.toArray⟩ := by
  rw [loc, wk]
  rfl
theorem nameS_us (s : St) (a : Int) (t : ByteArray) : (nameS s a t).us.length = s.us.length + 1 := by
  show ((errS s a).us ++ [_]).length = _
  rw [List.length_append]
  unfold errS
  split <;> rfl
theorem nameS_stk (s : St) (a : Int) (t : ByteArray) : (nameS s a t).stk = s.stk ++ [⟨t, s.num, s.made⟩] := rfl
theorem nameS_base (s : St) (a : Int) (t : ByteArray) : (nameS s a t).base = s.base := by
  show (errS s a).base = _
  unfold errS
  split <;> rfl
/-- Of the first text: how far it is told. -/
structure Told (s : St) (j : Nat) : Prop where
  stk : s.stk.length = j
  us : s.us.length = j
  base : s.base = 0
  few : j ≤ 60 → s.err = 0
  many : 60 < j → s.err = 4 ∧ s.at' = 486
theorem Told.step {s : St} {j : Nat} (h : Told s j) : Told (wk (loc (8 * j) (8 * j + 6)) s) (j + 1) := by
  rw [wk_loc]
  have hl := h.stk
  have hb := h.base
  have he : (nameS s ((8 * j + 6 : Nat) : Int) ⟨wA.toArray⟩).err = (errS s ((8 * j + 6 : Nat) : Int)).err ∧ (nameS s ((8 * j + 6 : Nat) : Int) ⟨wA.toArray⟩).at' = (errS s ((8 * j + 6 : Nat) : Int)).at' := ⟨rfl, rfl⟩
  refine ⟨by rw [nameS_stk, List.length_append, hl]; rfl, by rw [nameS_us, h.us], by rw [nameS_base, hb], fun hj => ?_, fun hj => ?_⟩
  · rw [he.1]
    have h0 := h.few (by omega)
    unfold errS
    rw [if_neg]
    · exact h0
    · rw [h0, hl, hb]
      simp
      omega
  · rw [he.1, he.2]
    unfold errS
    by_cases e : j = 60
    · have h0 := h.few (by omega)
      rw [if_pos]
      · exact ⟨rfl, by rw [e]; rfl⟩
      · rw [h0, hl, hb, e]
        rfl
    · have h0 := h.many (by omega)
      rw [if_neg]
      · exact h0
      · rw [h0.1]
        simp
theorem Told.run : ∀ (m j : Nat) (s : St), Told s j → Told (allS (wkR (locs1 j m)) s) (j + m)
  | 0, j, s, h => h
  | m + 1, j, s, h => by
    rw [locs1, wkR_cons, allS_cons, show j + (m + 1) = j + 1 + m by omega]
    exact Told.run m (j + 1) _ h.step
theorem told0 : Told s0 0 := ⟨rfl, rfl, rfl, fun _ => rfl, fun h => by omega⟩
/-- Of the second. -/
structure Told2 (s : St) (j : Nat) : Prop where
  stk : s.stk = []
  us : s.us.length = j
  base : s.base = 0
  err : s.err = 0
theorem wk_blk2 (j : Nat) (s : St) : wk (blk2 j) s = blkS [] [wk (loc (15 * j + 3) (15 * j + 9))] s := by
  rw [blk2, nd, wk, wkR_map]
  show wk (nd 20 [loc (15 * j + 3) (15 * j + 9)] ((15 * j + 3 : Nat) : Int)) s = _
  rw [nd, wk, wkR_map]
  rfl
theorem Told2.step {s : St} {j : Nat} (h : Told2 s j) : Told2 (wk (blk2 j) s) (j + 1) := by
  rw [wk_blk2]
  have e : blkS [] [wk (loc (15 * j + 3) (15 * j + 9))] s = { nameS s ((15 * j + 9 : Nat) : Int) ⟨wA.toArray⟩ with stk := (nameS s ((15 * j + 9 : Nat) : Int) ⟨wA.toArray⟩).stk.take s.stk.length } := by
    show ({ wk (loc (15 * j + 3) (15 * j + 9)) s with stk := (wk (loc (15 * j + 3) (15 * j + 9)) s).stk.take s.stk.length } : St) = _
    rw [wk_loc]
  rw [e]
  refine ⟨?_, ?_, ?_, ?_⟩
  · show (nameS s ((15 * j + 9 : Nat) : Int) ⟨wA.toArray⟩).stk.take s.stk.length = []
    rw [h.stk]
    rfl
  · show (nameS s ((15 * j + 9 : Nat) : Int) ⟨wA.toArray⟩).us.length = _
    rw [nameS_us, h.us]
  · show (nameS s ((15 * j + 9 : Nat) : Int) ⟨wA.toArray⟩).base = _
    rw [nameS_base, h.base]
  · show (errS s ((15 * j + 9 : Nat) : Int)).err = 0
    unfold errS
    rw [if_neg]
    · exact h.err
    · rw [h.stk, h.base, h.err]
      decide
theorem Told2.run : ∀ (m j : Nat) (s : St), Told2 s j → Told2 (allS (wkR (locs2 j m)) s) (j + m)
  | 0, j, s, h => h
  | m + 1, j, s, h => by
    rw [locs2, wkR_cons, allS_cons, show j + (m + 1) = j + 1 + m by omega]
    exact Told2.run m (j + 1) _ h.step
theorem told20 : Told2 s0 0 := ⟨rfl, rfl, rfl, rfl⟩
theorem wk_20 (l : List Tr) (a : Int) (s : St) : (wk (nd 20 l a) s).us = (allS (wkR l) s).us ∧ (wk (nd 20 l a) s).err = (allS (wkR l) s).err ∧ (wk (nd 20 l a) s).at' = (allS (wkR l) s).at' := by
  rw [nd, wk]
  exact ⟨rfl, rfl, rfl⟩
/-- What is found in the first text. -/
theorem res1 (n : Nat) (hn : n ≤ 200) : ∃ T, PsR (sp1 n) T ∧ (n ≤ 60 → ∃ st, resM T = .ok st ∧ st.us.length = n) ∧ (60 < n → resM T = .error (486, 4)) := by
  have hp := lx_words (ws1_ok n) (by have := sp1_size n; unfold sp1 at this; omega)
  obtain ⟨a, ha⟩ := whole1 n ((⟨(spell (ws1 n)).toArray⟩ : ByteArray).size : Int)
  rw [ha] at hp
  have ht := Told.run n 0 s0 told0
  rw [Nat.zero_add] at ht
  obtain ⟨k1, k2, k3⟩ := wk_20 (locs1 0 n) a s0
  refine ⟨_, hp, fun h => ⟨wk (nd 20 (locs1 0 n) a) s0, ?_, by rw [k1]; exact ht.us⟩, fun h => ?_⟩
  · unfold resM
    dsimp only
    rw [if_pos (by rw [k2]; exact ht.few h)]
  · obtain ⟨q1, q2⟩ := ht.many h
    unfold resM
    dsimp only
    rw [if_neg (by rw [k2, q1]; decide), k2, k3, q1, q2]
/-- And in the second. -/
theorem res2 (n : Nat) (hn : n ≤ 200) : ∃ T, PsR (sp2 n) T ∧ ∃ st, resM T = .ok st ∧ st.us.length = n := by
  have hp := lx_words (ws2_ok n) (by have := sp2_size n; unfold sp2 at this; omega)
  obtain ⟨a, ha⟩ := whole2 n ((⟨(spell (ws2 n)).toArray⟩ : ByteArray).size : Int)
  rw [ha] at hp
  have ht := Told2.run n 0 s0 told20
  rw [Nat.zero_add] at ht
  obtain ⟨k1, k2, k3⟩ := wk_20 (locs2 0 n) a s0
  refine ⟨_, hp, wk (nd 20 (locs2 0 n) a) s0, ?_, by rw [k1]; exact ht.us⟩
  unfold resM
  dsimp only
  rw [if_pos (by rw [k2]; exact ht.err)]
end Go.Proofs.YtgkgpjbbmnfnmaaGreatDoor
