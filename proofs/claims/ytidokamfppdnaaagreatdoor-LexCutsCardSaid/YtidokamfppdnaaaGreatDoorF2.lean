/- A token at two places of two sources. -/
import Derived.Test.YtidokamfppdnaaaGreatDoorF1
namespace Go.Proofs.YtidokamfppdnaaaGreatDoor
open Go.RowKit
set_option linter.unusedSimpArgs false
set_option linter.unusedVariables false

theorem bl_inj {s t : ByteArray} (h : bl s = bl t) : s = t := by
  have : s.data = t.data := Array.toList_inj.1 h
  cases s; cases t; simp at this; rw [this]
theorem bl_cut (s : ByteArray) (k n : Nat) : bl (s.extract k (k + n)) = ((bl s).drop k).take n := by
  rw [bl_ext, List.drop_take]; congr 1; omega
theorem cut_loc {s s' : ByteArray} {k k' m n : Nat} (h : (bl s').drop k' = ((bl s).drop k).take m) (hn : n ≤ m) : s'.extract k' (k' + n) = s.extract k (k + n) := by
  apply bl_inj
  rw [bl_cut, bl_cut, h, List.take_take, Nat.min_eq_left hn]
theorem head_loc {s s' : ByteArray} {k k' m : Nat} (hk : k < s.size) (hk' : k' < s'.size) (h : (bl s').drop k' = ((bl s).drop k).take m) : s'[k'] = s[k] := by
  rw [bl_drop s hk, bl_drop s' hk'] at h
  cases m with
  | zero => simp at h
  | succ m => rw [List.take_succ_cons] at h; exact (List.cons.inj h).1
theorem rd_congr {t t' : ByteArray} (h : t' = t) (hz : t.size ≤ 140737488351232) (hz' : t'.size ≤ 140737488351232) : (rd t' hz').1 = (rd t hz).1 := by subst h; rfl
theorem ext_bd (s : ByteArray) (hs : s.size ≤ 8192) (a b : Nat) : (s.extract a b).size ≤ 140737488351232 := by rw [ByteArray.size_extract]; omega
theorem tk_numX {s : ByteArray} {k : Nat} (hk : k < s.size) (hs : s.size ≤ 8192) (h1 : isLt s[k] = false) (h2 : isDg s[k] = true) : tkAt s k hs = nuX s k hs := by
  rcases tk_num hk hs h1 h2 with h | ⟨h, h'⟩
  · exact h
  · unfold nuX at h h'
    rw [bl_getD s hk, h2, if_pos rfl] at h h'
    dsimp only at h h'
    rw [if_pos h] at h'
    exact absurd (show (3 : Int) = 0 from h') (by decide)

theorem tk_loc {s s' : ByteArray} {k k' m n : Nat} (hk : k < s.size) (hk' : k' < s'.size) (hs : s.size ≤ 8192) (hs' : s'.size ≤ 8192) (h : (bl s').drop k' = ((bl s).drop k).take m) {X : Tk}
    (hX : tkAt s k hs = (X, 0)) (he : X.e = ((k + n : Nat) : Int)) (hn : n ≤ m) : tkAt s' k' hs' = (⟨X.k, X.t, X.vt, X.vn, X.sy, k', (k' + n : Nat)⟩, 0) := by
  have hh := head_loc hk hk' h
  have hc := cut_loc h hn
  cases h1 : isLt s[k] with
  | true =>
    have e1 := tk_name hk hs h1
    rw [hX] at e1
    have hXn : X = nmT s k := congrArg Prod.fst e1
    have h1' : isLt s'[k'] = true := by rw [hh]; exact h1
    rw [tk_name hk' hs' h1']
    unfold nmT at hXn ⊢
    rw [bl_getD s hk, h1, if_pos rfl] at hXn
    rw [bl_getD s' hk', h1', if_pos rfl]
    subst hXn
    have hnn : nameL ((bl s).drop k) = n := by have : ((k + nameL ((bl s).drop k) : Nat) : Int) = ((k + n : Nat) : Int) := he; omega
    have hnn' : nameL ((bl s').drop k') = n := by rw [h, nameL_take _ _ (by omega)]; exact hnn
    unfold nmK
    rw [hnn, hnn', hc]
  | false =>
    have h1' : isLt s'[k'] = false := by rw [hh]; exact h1
    cases h2 : isDg s[k] with
    | true =>
      have h2' : isDg s'[k'] = true := by rw [hh]; exact h2
      have e1 := tk_numX hk hs h1 h2
      rw [hX] at e1
      rw [tk_numX hk' hs' h1' h2']
      unfold nuX at e1 ⊢
      rw [bl_getD s hk, h2, if_pos rfl] at e1
      rw [bl_getD s' hk', h2', if_pos rfl]
      dsimp only at e1 ⊢
      have ex := (congrArg Prod.snd e1).symm
      dsimp only at ex
      rw [if_pos ex] at e1
      have hXn := congrArg Prod.fst e1
      dsimp only at hXn
      have hnn : numL ((bl s).drop k) = n := by
        have : ((k + numL ((bl s).drop k) : Nat) : Int) = ((k + n : Nat) : Int) := by rw [hXn] at he; exact he
        omega
      have hnn' : numL ((bl s').drop k') = n := by rw [h, numL_take _ _ (by omega)]; exact hnn
      have ht : s'.extract k' (k' + numL ((bl s').drop k')) = s.extract k (k + numL ((bl s).drop k)) := by rw [hnn, hnn', hc]
      have hr := rd_congr ht (ext_bd s hs _ _) (ext_bd s' hs' _ _)
      rw [hr, if_pos ex, ex, hXn]
      dsimp only
      rw [ht, hnn']
    | false =>
      have h2' : isDg s'[k'] = false := by rw [hh]; exact h2
      by_cases h3 : s[k].toNat = 34
      · have h3' : s'[k'].toNat = 34 := by rw [hh]; exact h3
        have e1 := tk_quote hk hs h1 h2 h3
        rw [hX] at e1
        rw [tk_quote hk' hs' h1' h2' h3']
        unfold quX at e1 ⊢
        rw [bl_getD s hk, if_pos h3] at e1
        rw [bl_getD s' hk', if_pos h3']
        rcases qL_index ((bl s).drop (k + 1)) with ⟨q1, q2⟩ | ⟨i, q1, q2, q3⟩
        · rw [q1] at e1; exact absurd (show (0 : Int) = 16 from congrArg Prod.snd e1) (by decide)
        · rw [q1] at e1
          dsimp only at e1
          cases hu : uq (s.extract k (k + i + 2)) with
          | none => rw [hu] at e1; exact absurd (show (0 : Int) = 16 from congrArg Prod.snd e1) (by decide)
          | some u =>
            rw [hu] at e1
            have hXn := congrArg Prod.fst e1
            dsimp only at hXn
            have hnn : i + 2 = n := by
              have : ((k + i + 2 : Nat) : Int) = ((k + n : Nat) : Int) := by rw [hXn] at he; exact he
              omega
            have hd' : (bl s').drop (k' + 1) = ((bl s).drop (k + 1)).take (m - 1) := by
              rw [bl_drop s hk, bl_drop s' hk'] at h
              cases m with
              | zero => simp at h
              | succ m => rw [List.take_succ_cons] at h; exact (List.cons.inj h).2
            have q' : qL ((bl s').drop (k' + 1)) = some i := by rw [hd']; exact qL_take _ _ _ q1 (by omega)
            have ht : s'.extract k' (k' + i + 2) = s.extract k (k + i + 2) := by
              have := hc
              rw [← hnn] at this
              exact this
            rw [q']
            dsimp only
            rw [ht, hu, hXn]
            dsimp only
            rw [← hnn]; rfl
      · have h3' : ¬ s'[k'].toNat = 34 := by rw [hh]; exact h3
        have e1 := tk_sign hk hs h1 h2 h3
        rw [hX] at e1
        rw [tk_sign hk' hs' h1' h2' h3']
        cases hg : sgF ((bl s).drop k) sgs with
        | none => rw [hg] at e1; exact absurd (show (0 : Int) = 15 from congrArg Prod.snd e1) (by decide)
        | some g =>
          rw [hg] at e1
          have hXn := congrArg Prod.fst e1
          dsimp only at hXn
          have hnn : g.length = n := by
            have : ((k + g.length : Nat) : Int) = ((k + n : Nat) : Int) := by rw [hXn] at he; exact he
            omega
          have hg' : sgF ((bl s').drop k') sgs = some g := by rw [h]; exact sgF_take _ _ _ _ hg (by omega)
          rw [hg', hXn]
          dsimp only
          rw [hnn, hc]
end Go.Proofs.YtidokamfppdnaaaGreatDoor
