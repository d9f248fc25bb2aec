/- The same token with a blank behind it. -/
import Derived.Test.YtidokamfppdnaaaDoorF4
namespace Go.Proofs.YtidokamfppdnaaaDoor
open Go.RowKit
set_option linter.unusedSimpArgs false
set_option linter.unusedVariables false

theorem cut_glue {s s' : ByteArray} {k k' n : Nat} {t : List UInt8} (hn : k + n ≤ s.size) (h : (bl s').drop k' = ((bl s).drop k).take n ++ t) : s'.extract k' (k' + n) = s.extract k (k + n) := by
  apply bl_inj
  rw [bl_cut, bl_cut, h]
  exact List.take_left' (by rw [List.length_take, List.length_drop, bl_len]; omega)
theorem head_glue {s s' : ByteArray} {k k' n : Nat} {t : List UInt8} (hk : k < s.size) (hk' : k' < s'.size) (hn : 0 < n) (h : (bl s').drop k' = ((bl s).drop k).take n ++ t) : s'[k'] = s[k] := by
  rw [bl_drop s hk, bl_drop s' hk'] at h
  cases n with
  | zero => omega
  | succ n => rw [List.take_succ_cons, List.cons_append] at h; exact (List.cons.inj h).1
theorem bl_four {c : UInt8} (h : isBl c = true) : c = 9 ∨ c = 10 ∨ c = 13 ∨ c = 32 := by
  rcases (isBl_iff c).1 h with h | h | h | h
  · exact .inl (UInt8.toNat_inj.1 h)
  · exact .inr (.inl (UInt8.toNat_inj.1 h))
  · exact .inr (.inr (.inl (UInt8.toNat_inj.1 h)))
  · exact .inr (.inr (.inr (UInt8.toNat_inj.1 h)))
theorem sgF_glue (g : List UInt8) (hg : g ∈ sgs) {t : List UInt8} (h : Beh t) : sgF (g ++ t) sgs = some g := by
  unfold sgs at hg
  simp only [List.mem_cons, List.not_mem_nil, or_false] at hg
  rcases h with rfl | ⟨c, r, rfl, hc⟩
  · rcases hg with rfl | rfl | rfl | rfl | rfl | rfl | rfl | rfl | rfl | rfl | rfl | rfl | rfl | rfl | rfl | rfl | rfl | rfl | rfl | rfl | rfl | rfl | rfl | rfl <;> rfl
  · rcases bl_four hc with rfl | rfl | rfl | rfl <;> rcases hg with rfl | rfl | rfl | rfl | rfl | rfl | rfl | rfl | rfl | rfl | rfl | rfl | rfl | rfl | rfl | rfl | rfl | rfl | rfl | rfl | rfl | rfl | rfl | rfl <;> rfl

theorem tk_glue {s s' : ByteArray} {k k' n : Nat} {t : List UInt8} (ht0 : Beh t) (hk : k < s.size) (hk' : k' < s'.size) (hs : s.size ≤ 8192) (hs' : s'.size ≤ 8192) (h : (bl s').drop k' = ((bl s).drop k).take n ++ t) {X : Tk}
    (hX : tkAt s k hs = (X, 0)) (he : X.e = ((k + n : Nat) : Int)) : tkAt s' k' hs' = (⟨X.k, X.t, X.vt, X.vn, X.sy, k', (k' + n : Nat)⟩, 0) := by
  have hF := tk_ok s hk hs (by rw [hX])
  obtain ⟨nF, _, _, _, _, n1, n2, _, _, hF⟩ := hF
  have hnF : n = nF := by
    rw [hX] at hF
    have hF' : X = _ := hF
    rw [hF'] at he
    have : ((k + nF : Nat) : Int) = ((k + n : Nat) : Int) := he
    omega
  subst hnF
  have hh := head_glue hk hk' n1 h
  have hc := cut_glue (by omega) h
  cases h1 : isLt s[k] with
  | true =>
    have e1 := tk_name hk hs h1
    rw [hX] at e1
    have hXn : X = nmT s k := congrArg Prod.fst e1
    have h1' : isLt s'[k'] = true := by rw [hh]; exact h1
    rw [tk_name hk' hs' h1']
    unfold nmT at hXn ⊢
    rw [bl_getD s hk, h1, if_pos rfl] at hXn
    rw [bl_getD s' hk', h1', if_pos rfl]
    subst hXn
    have hnn : nameL ((bl s).drop k) = n := by have : ((k + nameL ((bl s).drop k) : Nat) : Int) = ((k + n : Nat) : Int) := he; omega
    have hnn' : nameL ((bl s').drop k') = n := by rw [h, ← hnn]; exact nameL_glue ht0 _
    unfold nmK
    rw [hnn, hnn', hc]
  | false =>
    have h1' : isLt s'[k'] = false := by rw [hh]; exact h1
    cases h2 : isDg s[k] with
    | true =>
      have h2' : isDg s'[k'] = true := by rw [hh]; exact h2
      have e1 := tk_numX hk hs h1 h2
      rw [hX] at e1
      rw [tk_numX hk' hs' h1' h2']
      unfold nuX at e1 ⊢
      rw [bl_getD s hk, h2, if_pos rfl] at e1
      rw [bl_getD s' hk', h2', if_pos rfl]
      dsimp only at e1 ⊢
      have ex := (congrArg Prod.snd e1).symm
      dsimp only at ex
      rw [if_pos ex] at e1
      have hXn := congrArg Prod.fst e1
      dsimp only at hXn
      have hnn : numL ((bl s).drop k) = n := by
        have : ((k + numL ((bl s).drop k) : Nat) : Int) = ((k + n : Nat) : Int) := by rw [hXn] at he; exact he
        omega
      have hnn' : numL ((bl s').drop k') = n := by rw [h, ← hnn]; exact numL_glue ht0 _
      have ht : s'.extract k' (k' + numL ((bl s').drop k')) = s.extract k (k + numL ((bl s).drop k)) := by rw [hnn, hnn', hc]
      have hr := rd_congr ht (ext_bd s hs _ _) (ext_bd s' hs' _ _)
      rw [hr, if_pos ex, ex, hXn]
      dsimp only
      rw [ht, hnn']
    | false =>
      have h2' : isDg s'[k'] = false := by rw [hh]; exact h2
      by_cases h3 : s[k].toNat = 34
      · have h3' : s'[k'].toNat = 34 := by rw [hh]; exact h3
        have e1 := tk_quote hk hs h1 h2 h3
        rw [hX] at e1
        rw [tk_quote hk' hs' h1' h2' h3']
        unfold quX at e1 ⊢
        rw [bl_getD s hk, if_pos h3] at e1
        rw [bl_getD s' hk', if_pos h3']
        rcases qL_index ((bl s).drop (k + 1)) with ⟨q1, q2⟩ | ⟨i, q1, q2, q3⟩
        · rw [q1] at e1; exact absurd (show (0 : Int) = 16 from congrArg Prod.snd e1) (by decide)
        · rw [q1] at e1
          dsimp only at e1
          cases hu : uq (s.extract k (k + i + 2)) with
          | none => rw [hu] at e1; exact absurd (show (0 : Int) = 16 from congrArg Prod.snd e1) (by decide)
          | some u =>
            rw [hu] at e1
            have hXn := congrArg Prod.fst e1
            dsimp only at hXn
            have hnn : i + 2 = n := by
              have : ((k + i + 2 : Nat) : Int) = ((k + n : Nat) : Int) := by rw [hXn] at he; exact he
              omega
            have hd' : (bl s').drop (k' + 1) = ((bl s).drop (k + 1)).take (i + 1) ++ t := by
              rw [bl_drop s hk, bl_drop s' hk', ← hnn, List.take_succ_cons, List.cons_append] at h
              exact (List.cons.inj h).2
            have q' : qL ((bl s').drop (k' + 1)) = some i := by rw [hd']; exact qL_glue t _ _ q1
            have ht : s'.extract k' (k' + i + 2) = s.extract k (k + i + 2) := by
              have := hc
              rw [← hnn] at this
              exact this
            rw [q']
            dsimp only
            rw [ht, hu, hXn]
            dsimp only
            rw [← hnn]; rfl
      · have h3' : ¬ s'[k'].toNat = 34 := by rw [hh]; exact h3
        have e1 := tk_sign hk hs h1 h2 h3
        rw [hX] at e1
        rw [tk_sign hk' hs' h1' h2' h3']
        cases hg : sgF ((bl s).drop k) sgs with
        | none => rw [hg] at e1; exact absurd (show (0 : Int) = 15 from congrArg Prod.snd e1) (by decide)
        | some g =>
          rw [hg] at e1
          have hXn := congrArg Prod.fst e1
          dsimp only at hXn
          have hnn : g.length = n := by
            have : ((k + g.length : Nat) : Int) = ((k + n : Nat) : Int) := by rw [hXn] at he; exact he
            omega
          have hg' : sgF ((bl s').drop k') sgs = some g := by
            have hm := List.mem_of_find?_eq_some hg
            have hp := List.find?_some hg
            have hgt : ((bl s).drop k).take n = g := by
              rw [← Lib.hasPrefix_of_take] at hp
              simp at hp
              rw [← hnn]; exact hp.2
            rw [h, hgt]; exact sgF_glue g hm ht0
          rw [hg', hXn]
          dsimp only
          rw [hnn, hc]
end Go.Proofs.YtidokamfppdnaaaDoor
