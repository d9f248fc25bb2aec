/- What is printed is read as it was. -/
import Derived.Test.YtbhmgmbgplkkeaaDoorM3
namespace Go.Proofs.YtbhmgmbgplkkeaaDoor
open Go.RowKit
set_option linter.unusedSimpArgs false
set_option linter.unusedVariables false

theorem dg_tab : ∀ i : Fin 10, isDg (UInt8.ofNat (48 + i.val)) = true ∧ (UInt8.ofNat (48 + i.val)).toNat = 48 + i.val ∧ (i.val ≠ 0 → UInt8.ofNat (48 + i.val) ≠ 48) := by decide +kernel
theorem numGo_append : ∀ (a b : List UInt8) (n m : Nat), numGo n a = some m → numGo n (a ++ b) = numGo m b
  | [], b, n, m, h => by simp [numGo] at h; subst h; rfl
  | c :: a, b, n, m, h => by
    rw [List.cons_append]
    have h : (if isDg c = true then numGo (n * 10 + (c.toNat - 48)) a else none) = some m := h
    show (if isDg c = true then numGo (n * 10 + (c.toNat - 48)) (a ++ b) else none) = numGo m b
    by_cases hd : isDg c = true
    · rw [if_pos hd] at h ⊢
      exact numGo_append a b _ m h
    · rw [if_neg hd] at h; cases h
theorem dec_small {u : Nat} (h : u < 10) : Lib.decDigits u = [UInt8.ofNat (48 + u)] := by rw [Lib.decDigits, dif_pos h]
theorem dec_big {u : Nat} (h : ¬ u < 10) : Lib.decDigits u = Lib.decDigits (u / 10) ++ [UInt8.ofNat (48 + u % 10)] := by rw [Lib.decDigits, dif_neg h]
theorem numGo_one (n u : Nat) (h : u < 10) : numGo n [UInt8.ofNat (48 + u)] = some (n * 10 + u) := by
  obtain ⟨h1, h2, _⟩ := dg_tab ⟨u, h⟩
  dsimp only at h1 h2
  simp only [numGo]
  rw [if_pos h1, h2]
  congr 1; omega
theorem numGo_dec (u : Nat) : numGo 0 (Lib.decDigits u) = some u := by
  induction u using Nat.strongRecOn with
  | ind u ih =>
    by_cases h : u < 10
    · rw [dec_small h, numGo_one 0 u h]; congr 1; omega
    · rw [dec_big h, numGo_append _ _ 0 _ (ih (u / 10) (by omega)), numGo_one _ _ (by omega)]
      congr 1; omega
theorem dec_ne (u : Nat) : Lib.decDigits u ≠ [] := by
  by_cases h : u < 10
  · rw [dec_small h]; simp
  · rw [dec_big h]; simp
theorem dec_head (u : Nat) : 0 < u → (Lib.decDigits u).head? ≠ some 48 := by
  induction u using Nat.strongRecOn with
  | ind u ih =>
    intro h0
    by_cases h : u < 10
    · rw [dec_small h]
      have := (dg_tab ⟨u, h⟩).2.2 (by dsimp only; omega)
      intro e
      exact this (by injection e)
    · rw [dec_big h, List.head?_append]
      have := ih (u / 10) (by omega) (by omega)
      cases hc : (Lib.decDigits (u / 10)).head? with
      | none => exact absurd (List.head?_eq_none_iff.1 hc) (dec_ne _)
      | some c => rw [hc] at this; exact this
theorem nDigits_le : ∀ (k u : Nat), u < 10 ^ (k + 1) → Lib.nDigits u ≤ k + 1
  | 0, u, h => by rw [Lib.nDigits_small (by simpa using h)]; omega
  | k + 1, u, h => by
    by_cases hu : u < 10
    · rw [Lib.nDigits_small hu]; omega
    · rw [Lib.nDigits_big hu]
      have := nDigits_le k (u / 10) (by rw [Nat.pow_succ] at h; omega)
      omega
theorem numP_dec (u : Nat) (h : u ≤ 999999999) : numP (Lib.decDigits u) = some u := by
  unfold numP
  rw [if_neg, numGo_dec]
  rintro (e | e | ⟨e, e2⟩)
  · exact dec_ne u e
  · rw [Lib.decDigits_length] at e
    have := nDigits_le 8 u (by omega)
    omega
  · rw [Lib.decDigits_length] at e
    refine dec_head u ?_ e2
    rcases Nat.eq_zero_or_pos u with rfl | h0
    · rw [Lib.nDigits_small (by omega)] at e; omega
    · exact h0
/-- A number told is not shorter than its digits. -/
theorem dec_le {l : List UInt8} {m : Nat} (h : numP l = some m) : (Lib.decDigits m).length ≤ l.length := by
  unfold numP at h
  split at h
  · cases h
  · rename_i hn
    have hl := numGo_lt l 0 m h
    cases l with
    | nil => exact absurd (.inl rfl) hn
    | cons c r =>
      rw [Lib.decDigits_length]
      exact nDigits_le r.length m (by simpa using hl)
theorem dec_mem (u : Nat) (c : UInt8) (h : c ∈ Lib.decDigits u) : isDg c = true := by
  cases hc : isDg c with
  | true => rfl
  | false => have := numGo_mem _ 0 c h hc; rw [numGo_dec] at this; cases this
theorem itoa_nat (n : Nat) : Lib.itoa (n : Int) = Lib.decDigits n := by
  unfold Lib.itoa
  rw [if_neg (by omega)]
  rfl
theorem itoa_pos {n : Int} (h : 0 ≤ n) : ∃ m : Nat, n = m ∧ Lib.itoa n = Lib.decDigits m := ⟨n.toNat, by omega, by rw [← itoa_nat]; congr 1; omega⟩

theorem cutO_some : ∀ (sep l a b : List UInt8), cutO sep l = some (a, b) → l = a ++ (sep ++ b) := by
  intro sep l
  induction l with
  | nil => intro a b h; simp [cutO] at h
  | cons c l ih =>
    intro a b h
    rw [cutO] at h
    split at h
    · rename_i hp
      obtain ⟨t, ht⟩ := List.isPrefixOf_iff_prefix.1 hp
      injection h with h
      obtain ⟨rfl, rfl⟩ := Prod.mk.inj h
      rw [← ht, List.drop_left]
      rfl
    · obtain ⟨p, hp, hq⟩ := Option.map_eq_some_iff.1 h
      obtain ⟨x, y⟩ := p
      obtain ⟨rfl, rfl⟩ := Prod.mk.inj hq
      rw [ih _ _ hp]; rfl

/-- The rows' words. -/
theorem rowK_mem {k : Int} {r : Row} (h : rowK k = some r) : r ∈ rowsL ∧ r.kind = k := by
  unfold rowK at h
  exact ⟨List.mem_of_find?_eq_some h, by simpa using List.find?_some h⟩
theorem rowW_mem {w : List UInt8} {r : Row} (h : rowW w = some r) : r ∈ rowsL ∧ r.word = w := by
  unfold rowW at h
  exact ⟨List.mem_of_find?_eq_some h, by simpa using List.find?_some h⟩
theorem rows_all : ∀ r ∈ rowsL, rowW r.word = some r ∧ rowK r.kind = some r ∧ (32 : UInt8) ∉ r.word ∧ (10 : UInt8) ∉ r.word ∧ 4 ≤ r.word.length ∧ r.word.length ≤ 7 ∧ r.word.take 2 ≠ [115, 111] ∧ (r.num = false → r.most = 0) ∧ r.most ≤ 999999999 ∧ (r.num = true → r.word.length ≤ 4) := by
  intro r hr
  simp only [rowsL, List.mem_cons, List.not_mem_nil, or_false] at hr
  rcases hr with rfl | rfl | rfl | rfl | rfl | rfl <;> exact ⟨by kernel_rfl, by kernel_rfl, by decide, by decide, by decide, by decide, by decide, by decide, by decide, by decide⟩
/-- The parts of a line. -/
theorem fits_row {p : V} (h : fitsP p = true) : ∃ r, rowK p.1 = some r ∧ r ∈ rowsL ∧ r.kind = p.1 ∧ 0 ≤ p.2 ∧ p.2 ≤ r.most ∧ ∀ k, lineT p k = r.word ++ ((if r.num = true then 32 :: Lib.itoa p.2 else []) ++ (if 1 < k then 32 :: 120 :: Lib.itoa (k : Int) else [])) := by
  unfold fitsP at h
  cases hr : rowK p.1 with
  | none => rw [hr] at h; cases h
  | some r =>
    rw [hr] at h
    simp only [Bool.and_eq_true, decide_eq_true_eq] at h
    obtain ⟨h1, h2⟩ := rowK_mem hr
    exact ⟨r, rfl, h1, h2, h.1, h.2, fun k => by unfold lineT; rw [hr]; rfl⟩
theorem numR_fits {r : Row} {n : Int} (hm : r.most ≤ 999999999) (h0 : 0 ≤ n) (h1 : n ≤ r.most) : numR r (Lib.itoa n) = some (r.kind, n) := by
  obtain ⟨m, rfl, e⟩ := itoa_pos h0
  unfold numR
  rw [e, numP_dec m (by omega)]
  show (if r.most < (m : Int) then none else some (r.kind, (m : Int))) = _
  rw [if_neg (by omega)]
theorem not_dec {n : Int} (h : 0 ≤ n) {c : UInt8} (hc : isDg c = false) : c ∉ Lib.itoa n := by
  obtain ⟨m, rfl, e⟩ := itoa_pos h
  intro hm
  rw [e] at hm
  have := dec_mem m c hm
  rw [hc] at this; cases this
theorem xP_is (k : Nat) (h2 : 2 ≤ k) (h : k ≤ 999999999) : xP (120 :: Lib.itoa (k : Int)) = some k := by
  unfold xP
  rw [itoa_nat]
  show (match numP (Lib.decDigits k) with | some n => if n < 2 then none else some n | none => none) = _
  rw [numP_dec k h]
  show (if k < 2 then none else some k) = _
  rw [if_neg (by omega)]
/-- A line told is read. -/
theorem line_told {p : V} (h : fitsP p = true) (k : Nat) (h1 : 1 ≤ k) (hk : k ≤ 999999999) : lineF (lineT p k) = some (p, k) := by
  obtain ⟨r, hr, hmem, hkind, h0, hm, hT⟩ := fits_row h
  obtain ⟨hW, _, h32, _, _, _, _, hz, hmost, _⟩ := rows_all r hmem
  obtain ⟨p1, p2⟩ := p
  dsimp only at hkind h0 hm hT
  rw [line_same, hT]
  unfold lineD
  by_cases hn : r.num = true
  · rw [if_pos hn, List.cons_append, cut1_hit _ _ _ h32]
    simp only [hW, hn, if_true]
    by_cases h2 : 1 < k
    · rw [if_pos h2, cut1_hit _ _ _ (not_dec h0 dg32)]
      simp only [numR_fits hmost h0 hm, xP_is k h2 hk, hkind]
      rfl
    · rw [if_neg h2, List.append_nil, (cut1_none _ _).2 (not_dec h0 dg32)]
      simp only [numR_fits hmost h0 hm, hkind]
      obtain rfl : k = 1 := by omega
      rfl
  · have hn' : r.num = false := by simpa using hn
    have : p2 = 0 := by have := hz hn'; omega
    subst this
    rw [if_neg hn, List.nil_append]
    by_cases h2 : 1 < k
    · rw [if_pos h2, cut1_hit _ _ _ h32]
      simp only [hW, hn', xP_is k h2 hk, hkind]
      rfl
    · rw [if_neg h2, List.append_nil, (cut1_none _ _).2 h32]
      simp only [hW, hn', hkind]
      obtain rfl : k = 1 := by omega
      rfl
theorem no10 : isDg 10 = false := by decide
theorem line_10 {p : V} (h : fitsP p = true) (k : Nat) : (10 : UInt8) ∉ lineT p k := by
  obtain ⟨r, hr, hmem, hkind, h0, hm, hT⟩ := fits_row h
  obtain ⟨_, _, _, h10, _⟩ := rows_all r hmem
  rw [hT]
  intro hm
  have hk := not_dec (n := (k : Int)) (by omega) no10
  have hd := not_dec h0 no10
  rcases List.mem_append.1 hm with hm | hm
  · exact h10 hm
  · rcases List.mem_append.1 hm with hm | hm
    · split at hm
      · rcases List.mem_cons.1 hm with e | hm
        · cases e
        · exact hd hm
      · cases hm
    · split at hm
      · rcases List.mem_cons.1 hm with e | hm
        · cases e
        · rcases List.mem_cons.1 hm with e | hm
          · cases e
          · exact hk hm
      · cases hm
theorem line_src {p : V} (h : fitsP p = true) (k : Nat) : lineT p k ≠ srW := by
  obtain ⟨r, hr, hmem, hkind, h0, hm, hT⟩ := fits_row h
  obtain ⟨_, _, _, _, h4, _, h2, _⟩ := rows_all r hmem
  rw [hT]
  intro e
  have := congrArg (List.take 2) e
  rw [List.take_append_of_le_length (by omega)] at this
  exact h2 this
end Go.Proofs.YtbhmgmbgplkkeaaDoor
