/- Put, Drop, Find, Text on what a table has. -/
import Derived.Test.YtnfamebihpnjlaaY0
namespace Go.Proofs.Ytnfamebihpnjlaa
open Go.RowKit
set_option linter.unusedSimpArgs false
set_option linter.unusedVariables false

/-- How many buckets there may be. -/
structure Inv4 (n p len : Nat) : Prop where
  pw : ∃ k, n = 2 ^ (k + 2)
  fits : len ≤ n
  low : n ≤ 4 ∨ n ≤ 4 * len
  bd : n ≤ 2 * p + 4
theorem Inv4.start : Inv4 4 0 0 := ⟨⟨0, rfl⟩, by omega, Or.inl (Nat.le_refl _), by omega⟩
theorem Inv4.more {n p len : Nat} (h : Inv4 n p len) (hl : len + 1 ≤ n) : Inv4 n (p + 1) (len + 1) := ⟨h.pw, hl, h.low.imp id (fun h => by omega), by have := h.bd; omega⟩
theorem Inv4.twice {n p len : Nat} (h : Inv4 n p len) (hl : n < len + 1) (hp : len ≤ p) : Inv4 (2 * n) (p + 1) (len + 1) := by
  obtain ⟨k, hk⟩ := h.pw
  have := h.fits
  have h1 : 1 ≤ n := by rw [hk]; exact Nat.one_le_two_pow
  exact ⟨⟨k + 1, by rw [hk, show k + 1 + 2 = (k + 2) + 1 by omega, Nat.pow_succ 2 (k + 2)]; omega⟩, by omega, Or.inr (by omega), by omega⟩
theorem Inv4.less {n p len : Nat} (h : Inv4 n p len) (hr : n ≤ 4 ∨ n ≤ 4 * (len - 1) + 3) : Inv4 n p (len - 1) := by
  obtain ⟨k, hk⟩ := h.pw
  have hm : n % 4 = 0 := by rw [hk, Nat.pow_add]; omega
  exact ⟨⟨k, hk⟩, by have := h.fits; omega, hr.imp id (fun h => by omega), h.bd⟩
theorem Inv4.half {n p len : Nat} (h : Inv4 n p len) (h4 : ¬ n ≤ 4) (hr : 4 * (len - 1) + 3 < n) : 8 ≤ n ∧ Inv4 (n / 2) p (len - 1) := by
  obtain ⟨k, hk⟩ := h.pw
  have hb := h.bd
  have hlo := h.low
  cases k with
  | zero => exact absurd (by rw [hk]; decide) h4
  | succ k =>
    have e : n = 2 * 2 ^ (k + 2) := by rw [hk, show k + 1 + 2 = (k + 2) + 1 by omega, Nat.pow_succ, Nat.mul_comm]
    have e2 : 2 ^ (k + 2) = 4 * 2 ^ k := by rw [Nat.pow_add]; omega
    have e3 : 1 ≤ 2 ^ k := Nat.one_le_two_pow
    refine ⟨by omega, ⟨k, by omega⟩, by omega, Or.inr (by omega), by omega⟩

/-- What a table has: handles with their texts. -/
abbrev Ct := List (Int × ByteArray)
def ct (L : List Ent) : Ct := L.map fun e => (e.h, e.s)
/-- A table made since w0 by at most b puts, which has C. -/
def Tab (w0 w : World) (A b : Nat) (C : Ct) : Prop := ∃ p n L, p ≤ b ∧ Re w0 w A n p L ∧ Inv4 n p L.length ∧ (ct L).Perm C
/-- Is a text there, or a handle? -/
def hasC (C : Ct) (s : ByteArray) (x : Int) : Prop := ∃ e ∈ C, e.1 = x ∨ e.2 = s

theorem ct_mem {L : List Ent} {C : Ct} (h : (ct L).Perm C) {x : Int × ByteArray} : x ∈ C ↔ ∃ e ∈ L, (e.h, e.s) = x := by
  rw [← h.mem_iff]; simp [ct]
theorem hasB_iff {L : List Ent} {C : Ct} (h : (ct L).Perm C) (s : ByteArray) (x : Int) : hasB L s x = true ↔ hasC C s x := by
  constructor
  · intro hb
    unfold hasB at hb
    rw [Bool.or_eq_true] at hb
    rcases hb with hb | hb
    · obtain ⟨e, he, h1⟩ := lookE_isSome.1 hb
      exact ⟨_, (ct_mem h).2 ⟨e, he, rfl⟩, Or.inl h1⟩
    · rcases find_spec (L := L) (s := s) with ⟨e, he, h1, _⟩ | ⟨_, h2⟩
      · exact ⟨_, (ct_mem h).2 ⟨e, he, rfl⟩, Or.inr h1⟩
      · rw [h2] at hb; cases hb
  · rintro ⟨e, he, h1⟩
    obtain ⟨y, hy, rfl⟩ := (ct_mem h).1 he
    cases hb : hasB L s x with
    | true => rfl
    | false =>
      obtain ⟨f1, f2, _⟩ := hasB_false hb
      rcases h1 with h1 | h1
      · exact absurd h1 (f1 y hy)
      · exact absurd h1 (f2 y hy)

theorem Re.le {w0 w : World} {A n p : Nat} {L : List Ent} (h : Re w0 w A n p L) : L.length ≤ p := by
  obtain ⟨C, M, vs, h1, _⟩ := h
  exact h1.map.le
theorem Re.good {w0 w : World} {A n p : Nat} {L : List Ent} (h : Re w0 w A n p L) : Good L p := by
  obtain ⟨C, M, vs, h1, _⟩ := h
  exact h1.good

theorem ct_snoc (L : List Ent) (e : Ent) : ct (L ++ [e]) = ct L ++ [(e.h, e.s)] := by simp [ct]
theorem ct_rm (L : List Ent) (x : Int) : ct (rm L x) = (ct L).filter (fun e => e.1 != x) := by
  unfold ct rm
  rw [List.filter_map]
  congr 1

/-- Put. -/
theorem Tab.put {w0 w : World} {A b : Nat} {C : Ct} (h : Tab w0 w A b C) (hb : b ≤ 10000) (s : ByteArray) (hs : s.size ≤ maxLen) (x : Int) (hw : wf x) :
    Calls Try.prog 27 #[.pointer (some ⟨A, 0, none⟩), .string s, .int .i64 x] w fun e w' =>
      (x < 1 ∧ e = .returned (.int .i64 1) ∧ Tab w0 w' A (b + 1) C) ∨ (1 ≤ x ∧ hasC C s x ∧ e = .returned (.int .i64 17) ∧ Tab w0 w' A (b + 1) C) ∨ (1 ≤ x ∧ ¬ hasC C s x ∧ e = .returned (.int .i64 0) ∧ Tab w0 w' A (b + 1) (C ++ [(x, s)])) := by
  obtain ⟨p, n, L, hp, hR, hI, hc⟩ := h
  have hx2 : x ≤ 9223372036854775807 := by
    have : IntKind.i64.max = 9223372036854775807 := by decide
    unfold wf at hw; simp [Lit.wf] at hw; omega
  by_cases hx : x < 1
  · obtain ⟨C', M, vs, h1, h2⟩ := hR
    refine (Put_arg h1 s x hx).mono ?_
    rintro e w' ⟨rfl, rfl⟩
    exact Or.inl ⟨hx, rfl, p, n, L, by omega, ⟨C', M, vs, h1, h2⟩, hI, hc⟩
  · have hx1 : 1 ≤ x := by omega
    cases hh : hasB L s x with
    | true =>
      refine (hR.there s hs x hx1 hx2 hh).mono ?_
      rintro e w' ⟨rfl, h1⟩
      exact Or.inr (Or.inl ⟨hx1, (hasB_iff hc s x).1 hh, rfl, p, n, L, by omega, h1, hI, hc⟩)
    | false =>
      have hn : ¬ hasC C s x := fun h => by have := (hasB_iff hc s x).2 h; rw [hh] at this; cases this
      by_cases hr : L.length + 1 ≤ n
      · refine (hR.put s hs x hx1 hx2 hh (by omega) hr).mono ?_
        rintro e w' ⟨rfl, h1⟩
        exact Or.inr (Or.inr ⟨hx1, hn, rfl, p + 1, n, _, by omega, h1, by simpa using hI.more hr, by rw [ct_snoc]; exact hc.append_right _⟩)
      · have hle := hR.le
        have hbd := hI.bd
        obtain ⟨C', M, vs, h1, h2⟩ := hR
        refine (Put_more h1 s hs x hx1 hx2 hh (by omega) (by omega) (by omega) (by omega)).mono ?_
        rintro e w' ⟨rfl, C2, vs2, L2, hp2, h3, h4, _⟩
        have hl2 : L2.length = L.length + 1 := by rw [hp2.length_eq]; simp
        refine Or.inr (Or.inr ⟨hx1, hn, rfl, p + 1, 2 * n, L2, by omega, ⟨C2, M, vs2, h3, kept_fp h1 h2 h4⟩, by rw [hl2]; exact hI.twice (by omega) hle, ?_⟩)
        have := (hp2.map fun e => (e.h, e.s)).trans (by rw [← ct, ct_snoc]; exact hc.append_right _ : (List.map (fun e : Ent => (e.h, e.s)) (L ++ [⟨x, s, p + 1⟩])).Perm (C ++ [(x, s)]))
        exact this

/-- Drop. -/
theorem Tab.drop {w0 w : World} {A b : Nat} {C : Ct} (h : Tab w0 w A b C) (hb : b ≤ 10000) (x : Int) (hw : wf x) :
    Calls Try.prog 29 #[.pointer (some ⟨A, 0, none⟩), .int .i64 x] w fun e w' =>
      ((∀ y ∈ C, y.1 ≠ x) ∧ e = .returned (.int .i64 5) ∧ Tab w0 w' A b C) ∨ ((∃ y ∈ C, y.1 = x) ∧ e = .returned (.int .i64 0) ∧ Tab w0 w' A b (C.filter (fun e => e.1 != x))) := by
  obtain ⟨p, n, L, hp, hR, hI, hc⟩ := h
  by_cases hx : ∃ e ∈ L, e.h = x
  · obtain ⟨e, he, rfl⟩ := hx
    have hmem : ∃ y ∈ C, y.1 = e.h := ⟨_, (ct_mem hc).2 ⟨e, he, rfl⟩, rfl⟩
    have hlen := rm_length hR.good.hnd he
    by_cases hr : n ≤ 4 ∨ n ≤ 4 * (L.length - 1) + 3
    · refine (hR.drop he hr).mono ?_
      rintro r w' ⟨rfl, h1⟩
      exact Or.inr ⟨hmem, rfl, p, n, _, hp, h1, by rw [hlen]; exact hI.less hr, by rw [ct_rm]; exact hc.filter _⟩
    · have h4 : ¬ n ≤ 4 := fun h => hr (Or.inl h)
      have h5 : 4 * (L.length - 1) + 3 < n := by omega
      obtain ⟨h8, hI2⟩ := hI.half h4 h5
      have hle := hR.le
      obtain ⟨C', M, vs, h1, h2⟩ := hR
      refine (Drop_fewer h1 he h8 h5 (by omega)).mono ?_
      rintro r w' ⟨rfl, C2, vs2, L2, hp2, h3, h4', _⟩
      have hl2 : L2.length = L.length - 1 := by rw [hp2.length_eq, hlen]
      refine Or.inr ⟨hmem, rfl, p, n / 2, L2, hp, ⟨C2, M, vs2, h3, kept_fp h1 h2 h4'⟩, by rw [hl2]; exact hI2, ?_⟩
      have e1 : (ct L2).Perm (ct (rm L e.h)) := hp2.map _
      rw [ct_rm] at e1
      exact e1.trans (hc.filter _)
  · have hn : ∀ e ∈ L, e.h ≠ x := fun e he h1 => hx ⟨e, he, h1⟩
    obtain ⟨C', M, vs, h1, h2⟩ := hR
    refine (Drop_none h1 x hw (lookE_none hn)).mono ?_
    rintro e w' ⟨rfl, hk⟩
    refine Or.inl ⟨fun y hy h3 => ?_, rfl, p, n, L, hp, ⟨C', M, vs, h1.no hk, h2.trans hk⟩, hI, hc⟩
    obtain ⟨e, he, h4⟩ := (ct_mem hc).1 hy
    exact hn e he (by rw [← h3, ← h4])
end Go.Proofs.Ytnfamebihpnjlaa
