/- What ParseInt says of digits; the parts of a text. -/
import Derived.Test.YtdpdpgnpkmfooaaGreatDoorD9
import Derived.Test.YtdpdpgnpkmfooaaGreatDoorE1
namespace Go.Proofs.YtdpdpgnpkmfooaaGreatDoor
open Go.RowKit

theorem pU_all : ∀ (l : List UInt8) (acc : Nat), (∀ c ∈ l, 48 ≤ c.toNat ∧ c.toNat ≤ 57) → acc ≤ 18446744073709551615 →
    Lib.parseUintM 18446744073709551615 acc l = if decF acc l ≤ 18446744073709551615 then .ok (decF acc l) else .range
  | [], acc, _, h => by
    have : decF acc [] = acc := rfl
    rw [this, if_pos h]; rfl
  | c :: l, acc, hl, h => by
    have hc := hl c (List.mem_cons_self ..)
    have hr := fun x hx => hl x (List.mem_cons_of_mem c hx)
    have hg := decF_ge l (acc * 10 + (c.toNat - 48))
    have e : decF acc (c :: l) = decF (acc * 10 + (c.toNat - 48)) l := rfl
    rw [e]
    unfold Lib.parseUintM
    rw [if_pos hc]
    by_cases h1 : 1844674407370955162 ≤ acc
    · rw [if_pos h1, if_neg (by omega)]
    · rw [if_neg h1]
      by_cases h2 : 18446744073709551615 < acc * 10 + (c.toNat - 48)
      · rw [if_pos h2, if_neg (by omega)]
      · rw [if_neg h2]
        exact pU_all l _ hr (by omega)

theorem pUB_all (l : List UInt8) (h : ∀ c ∈ l, 48 ≤ c.toNat ∧ c.toNat ≤ 57) (hne : l ≠ []) : Lib.parseUintB 64 l = if decV l ≤ 18446744073709551615 then .ok (decV l) else .range := by
  unfold Lib.parseUintB
  rw [if_neg hne]
  exact pU_all l 0 h (by omega)

theorem pI_pos (l : List UInt8) (h : ∀ c ∈ l, 48 ≤ c.toNat ∧ c.toNat ≤ 57) (hne : l ≠ []) : Lib.parseIntB 64 l = if decV l < 9223372036854775808 then .ok (decV l : Int) else .range := by
  have hu := pUB_all l h hne
  cases l with
  | nil => exact absurd rfl hne
  | cons c r =>
    have hc := h c (List.mem_cons_self ..)
    have c1 : ¬ c.toNat = 43 := by omega
    have c2 : ¬ c.toNat = 45 := by omega
    generalize decV (c :: r) = V at *
    unfold Lib.parseIntB
    simp only [c1, c2, or_self, if_false, hu]
    by_cases h1 : V ≤ 18446744073709551615
    · rw [if_pos h1]
      simp only [not_false_eq_true, true_and, false_and, if_false]
      by_cases h2 : V < 9223372036854775808
      · rw [if_neg (by omega), if_pos h2]
      · rw [if_pos (by omega), if_neg h2]
    · rw [if_neg h1, if_neg (by omega)]

theorem pI_neg (l : List UInt8) (h : ∀ c ∈ l, 48 ≤ c.toNat ∧ c.toNat ≤ 57) (hne : l ≠ []) : Lib.parseIntB 64 (45 :: l) = if decV l ≤ 9223372036854775808 then .ok (-(decV l : Int)) else .range := by
  have hu := pUB_all l h hne
  generalize decV l = V at *
  have e45 : (45 : UInt8).toNat = 45 := rfl
  unfold Lib.parseIntB
  simp only [e45, or_true, if_true, hu]
  by_cases h1 : V ≤ 18446744073709551615
  · rw [if_pos h1]
    simp only [not_true, false_and, if_false, true_and]
    by_cases h2 : V ≤ 9223372036854775808
    · rw [if_neg (by omega), if_pos h2]
    · rw [if_pos (by omega), if_neg h2]
  · rw [if_neg h1, if_neg (by omega)]

theorem allB_ne {A : ByteArray} (h : allB A dec = true) : A.data.toList ≠ [] := by
  intro e; unfold allB at h; rw [e] at h; simp at h

/-- The sign and the rest. -/
theorem dash_cases (s : ByteArray) : (Lib.hasPrefix s.data.toList dash.data.toList = true ∧ s.data.toList = 45 :: (unsg s).data.toList ∧ unsg s = s.extract 1 s.size) ∨ (Lib.hasPrefix s.data.toList dash.data.toList = false ∧ unsg s = s) := by
  have hd : dash.data.toList = [45] := rfl
  cases h : Lib.hasPrefix s.data.toList dash.data.toList
  · right
    refine ⟨rfl, ?_⟩
    unfold unsg Lib.trimPrefix
    rw [h, if_neg (by simp)]
  · left
    have hu : (unsg s).data.toList = s.data.toList.drop 1 := by
      unfold unsg Lib.trimPrefix
      rw [h, if_pos rfl, hd]
      simp
    refine ⟨rfl, ?_, Go.WideShapes.bytes_inj (by rw [hu, ex_hi])⟩
    rw [hu]
    unfold Lib.hasPrefix at h
    rw [hd] at h
    cases hl : s.data.toList with
    | nil => rw [hl] at h; cases h
    | cons c r =>
      rw [hl] at h
      simp at h
      rw [← h]; rfl

theorem get0 (s : ByteArray) (h : 0 < s.size) : s.data.toList[0]'(by rw [← Lib.size_eq]; exact h) = s[0] := rfl

theorem signed_of (s : ByteArray) : signed s (unsg s) (Lib.hasPrefix s.data.toList dash.data.toList) := by
  rcases dash_cases s with ⟨h, hl, he⟩ | ⟨h, he⟩
  · right; right
    have h0 : 0 < s.size := by rw [Lib.size_eq, hl]; simp
    refine ⟨h, he, h0, ?_⟩
    have e : s[0] = 45 := by rw [← get0 s h0]; simp [hl]
    rw [e]; rfl
  · rcases Nat.eq_zero_or_pos s.size with h0 | h0
    · exact Or.inl ⟨h, he, h0⟩
    · refine Or.inr (Or.inl ⟨h, he, h0, ?_⟩)
      intro hc
      have e : s[0] = 45 := by apply UInt8.toNat_inj.1; show s[0].toNat = 45; omega
      rw [← get0 s h0] at e
      unfold Lib.hasPrefix at h
      cases hl : s.data.toList with
      | nil => rw [Lib.size_eq, hl] at h0; simp at h0
      | cons c r =>
        simp only [hl, List.getElem_cons_zero] at e
        rw [hl, e] at h
        cases h

theorem pre_eq (s : ByteArray) : ((s.extract 0 2).toList == [48, 102]) = Lib.hasPrefix s.data.toList zf.data.toList := by
  rw [ByteArray.toList_eq, ex_lo]
  have hz : zf.data.toList = [48, 102] := rfl
  unfold Lib.hasPrefix
  rw [hz]
  rcases s.data.toList with _ | ⟨a, _ | ⟨b, r⟩⟩
  · rfl
  · simp [List.isPrefixOf]
  · rw [Bool.eq_iff_iff]
    simp [List.isPrefixOf]
    constructor
    · rintro ⟨rfl, rfl⟩; exact ⟨rfl, rfl⟩
    · rintro ⟨h1, h2⟩; exact ⟨h1.symm, h2.symm⟩

theorem noBits_of (s : ByteArray) (h : Lib.hasPrefix s.data.toList zf.data.toList = false) : noBits s := by
  by_cases h18 : (s.size : Int) = 18
  · exact Or.inr ⟨h18, by rw [pre_eq]; exact h⟩
  · exact Or.inl h18

/-- Where the point stands. -/
theorem pt_cases (T : ByteArray) : (Lib.indexByte T.data.toList 46 = -1 ∧ cutB T 46 = false ∧ cutA T 46 = T) ∨
    ∃ i : Nat, Lib.indexByte T.data.toList 46 = i ∧ i < T.size ∧ cutB T 46 = true ∧ cutA T 46 = T.extract 0 i ∧ cutZ T 46 = T.extract (i + 1) T.size ∧ allB T dec = false := by
  by_cases h : Lib.indexByte T.data.toList 46 < 0
  · left
    refine ⟨?_, by simp [cutB, h], by simp [cutA, h]⟩
    have : ∀ l : List UInt8, -1 ≤ Lib.indexByte l 46 := by
      intro l
      induction l with
      | nil => decide
      | cons b l ih => unfold Lib.indexByte; split; · omega
                       · split <;> omega
    have := this T.data.toList; omega
  · right
    obtain ⟨i, hk⟩ := Int.eq_ofNat_of_zero_le (show 0 ≤ Lib.indexByte T.data.toList 46 by omega)
    have hlt : i < T.size := by
      rcases indexByte_lt T.data.toList 46 with h | h
      · rw [hk] at h; rw [Lib.size_eq]; omega
      · rw [h] at hk; simp [Lib.indexByte] at hk
    refine ⟨i, hk, hlt, by simp [cutB, h], by unfold cutA; rw [if_neg h, hk]; simp, by unfold cutZ; rw [if_neg h, hk]; simp, ?_⟩
    cases ha : allB T dec
    · rfl
    · exfalso
      have hm := allB_mem ha
      have := ixB_none T.data.toList 46 (fun x hx he => by have := hm x hx; rw [he] at this; exact absurd this.1 (by decide))
      omega
end Go.Proofs.YtdpdpgnpkmfooaaGreatDoor
