/- There is room behind a renewal. -/
import Derived.Test.YthefmfjlinpepaaX1
namespace Go.Proofs.Ythefmfjlinpepaa
open Go.RowKit Go.Shelf
set_option linter.unusedSimpArgs false
set_option linter.unusedVariables false

/-- How many nodes have a key. -/
def occ (a n : Nat) (sl : Sl) : Nat := ((List.range n).filter fun m => (sl ((a + 2 * m : Nat) : Int)).1 != 0).length
theorem occ_le (a n : Nat) (sl : Sl) : occ a n sl ≤ n := by
  have := List.length_filter_le (fun m => (sl ((a + 2 * m : Nat) : Int)).1 != 0) (List.range n)
  rw [List.length_range] at this
  exact this
theorem occ_zero (a n : Nat) : occ a n (fun _ => (0, 0)) = 0 := by
  unfold occ
  rw [List.length_eq_zero_iff, List.filter_eq_nil_iff]
  intro m _
  simp

/-- All nodes on a way that leads nowhere have keys. -/
theorem fnd_full {a n : Nat} {sl : Sl} {k : Int × Int} (hn : 0 < n) : ∀ f i, fnd a n sl k f i = (-1, false) → ∀ j, j < f → (sl (wayN a n k (i + j) : Nat)).1 ≠ 0 := by
  intro f
  induction f with
  | zero => intro i _ j hj; omega
  | succ f ih =>
    intro i e j hj
    unfold fnd at e
    split at e
    · simp at e
    · split at e
      · simp at e; omega
      · rename_i h1 h2
        rcases j with _ | j
        · exact h2
        · have := ih (i + 1) e j (by omega)
          rw [show i + (j + 1) = i + 1 + j by omega]
          exact this
theorem way_all (n : Nat) (f0 m : Nat) (hm : m < n) (hf : f0 < n) : ∃ i, i < n ∧ (f0 + i) % n = m := by
  rcases Nat.lt_or_ge m f0 with h | h
  · refine ⟨n + m - f0, by omega, ?_⟩
    rw [show f0 + (n + m - f0) = m + n by omega, Nat.add_mod_right, Nat.mod_eq_of_lt hm]
  · exact ⟨m - f0, by omega, by rw [show f0 + (m - f0) = m by omega, Nat.mod_eq_of_lt hm]⟩
theorem find_full {a n : Nat} {sl : Sl} {k : Int × Int} (hi : inArr a k = false) (h : findR a n sl k = (-1, false)) : occ a n sl = n := by
  rcases Nat.eq_zero_or_pos n with hn | hn
  · subst hn; rfl
  have e : findR a n sl k = fnd a n sl k n 0 := by unfold findR; rw [hi]; rfl
  rw [e] at h
  have hall := fnd_full hn n 0 h
  unfold occ
  have : (List.range n).filter (fun m => (sl ((a + 2 * m : Nat) : Int)).1 != 0) = List.range n := by
    rw [List.filter_eq_self]
    intro m hm
    rw [List.mem_range] at hm
    obtain ⟨i, hi, hw⟩ := way_all n (fst0 n k) m hm (Nat.mod_lt _ hn)
    have := hall i hi
    rw [Nat.zero_add] at this
    unfold wayN at this
    rw [hw] at this
    simpa using this
  rw [this, List.length_range]

theorem put_ok {a n : Nat} {sl : Sl} {k v : Int × Int} (h : inArr a k = true ∨ occ a n sl < n) : (putR a n sl k v).1 = true := by
  rcases findR_shape a n sl k with ⟨hi, he, h1, h2, h3⟩ | ⟨hi, he⟩ | ⟨hi, m, hm, he, ht, hf⟩
  · unfold putR; rw [he, if_pos rfl]
  · have := find_full hi he
    rcases h with h | h
    · rw [hi] at h; cases h
    · omega
  · unfold putR
    split
    · rfl
    · split
      · rfl
      · rw [if_neg (by omega)]
theorem occ_same {a n : Nat} {sl sl' : Sl} (h : ∀ m : Nat, m < n → sl' ((a + 2 * m : Nat) : Int) = sl ((a + 2 * m : Nat) : Int)) : occ a n sl' = occ a n sl := by
  unfold occ
  congr 1
  apply List.filter_congr
  intro m hm
  rw [h m (List.mem_range.1 hm)]
theorem occ_put (a n : Nat) (sl : Sl) (k v : Int × Int) : occ a n (putR a n sl k v).2 ≤ occ a n sl + (if inArr a k = true then 0 else 1) := by
  rcases findR_shape a n sl k with ⟨hi, he, h1, h2, h3⟩ | ⟨hi, he⟩ | ⟨hi, m, hm, he, ht, hf⟩
  · have e : (putR a n sl k v).2 = sput sl (k.2 - 1) v := by unfold putR; rw [he, if_pos rfl]
    rw [e, occ_same (sl := sl) (fun m _ => sput_ne (by omega))]
    omega
  · have e : (putR a n sl k v).2 = sl := by
      unfold putR
      rw [he]
      simp only [Bool.false_eq_true, if_false, if_true]
      split <;> rfl
    rw [e]; omega
  · rw [if_neg (by rw [hi]; simp)]
    by_cases h : (findR a n sl k).2 = true
    · have e : (putR a n sl k v).2 = sput sl ((a : Int) + 2 * (m : Int) + 1) v := by unfold putR; rw [if_pos h, he]
      rw [e, occ_same (sl := sl) (fun m _ => sput_ne (by omega))]
      omega
    · by_cases h0 : v.1 = 0
      · have e : (putR a n sl k v).2 = sl := by unfold putR; rw [if_neg h, if_pos h0]
        rw [e]; omega
      · have e : (putR a n sl k v).2 = sput (sput sl ((a : Int) + 2 * (m : Int)) k) ((a : Int) + 2 * (m : Int) + 1) v := by
          unfold putR
          rw [if_neg h, if_neg h0, if_neg (by omega), he, show (a : Int) + 2 * (m : Int) + 1 - 1 = (a : Int) + 2 * (m : Int) by omega]
        rw [e]
        unfold occ
        have := cnt_one (fun j => (sput (sput sl ((a : Int) + 2 * (m : Int)) k) ((a : Int) + 2 * (m : Int) + 1) v ((a + 2 * j : Nat) : Int)).1 != 0) (fun j => (sl ((a + 2 * j : Nat) : Int)).1 != 0) m (fun j hj => by
          rw [sput_ne (by omega), sput_ne (by omega)]) n
        rw [if_pos hm] at this
        exact this

/-- How many of these keys have no array slot. -/
def outs (a : Nat) (L : List Ent) : Nat := (L.filter fun e => !inArr a e.1).length
theorem outs_cons (a : Nat) (e : Ent) (L : List Ent) : outs a (e :: L) = (if inArr a e.1 = true then 0 else 1) + outs a L := by
  unfold outs
  rw [List.filter_cons]
  cases h : inArr a e.1 <;> simp [h] <;> omega
/-- All puts have room. -/
theorem putAll_occ (a n : Nat) : ∀ (L : List Ent) (sl : Sl), occ a n (putAll a n sl L) ≤ occ a n sl + outs a L
  | [], sl => by simp [putAll]
  | e :: L, sl => by
    have h1 := occ_put a n sl e.1 e.2
    have h2 := putAll_occ a n L (putR a n sl e.1 e.2).2
    have h3 : putAll a n sl (e :: L) = putAll a n (putR a n sl e.1 e.2).2 L := rfl
    rw [h3, outs_cons]; omega

theorem bitLen_lt (x : Nat) (hx : x < 4096) : x < 2 ^ Lib.bitLen x := by
  induction x using Nat.strongRecOn with
  | ind x ih =>
    by_cases h0 : x = 0
    · subst h0; exact Nat.pow_pos (by decide)
    · rw [Lib.bitLen_half x h0 (by omega)]
      have := ih (x / 2) (by omega) (by omega)
      rw [Nat.pow_add, Nat.pow_one]; omega
theorem pow_pos (q : Nat) : 0 < 2 ^ q := Nat.pow_pos (by decide)
/-- Which keys an array of that size has. -/
theorem inArr_pow {q : Nat} (hq : q ≤ 12) (k : Int × Int) : inArr (2 ^ q) k = (powB k && decide (lenK k < q + 1)) := by
  have hpow : 2 ^ q ≤ 4096 := by
    have : 2 ^ q ≤ 2 ^ 12 := Nat.pow_le_pow_right (by decide) hq
    simpa using this
  unfold inArr powB
  cases h1 : k.1 == 2
  · simp
  · cases h2 : decide (1 ≤ k.2)
    · simp
    · have h2' : 1 ≤ k.2 := by simpa using h2
      simp only [Bool.true_and]
      by_cases h3 : k.2 ≤ ((2 ^ q : Nat) : Int)
      · have e1 : decide (k.2 ≤ ((2 ^ q : Nat) : Int)) = true := decide_eq_true h3
        have e2 : decide (k.2 ≤ 4096) = true := decide_eq_true (by omega)
        have e3 : decide (lenK k < q + 1) = true := by
          apply decide_eq_true
          have : Lib.bitLen (k.2 - 1).toNat ≤ q := Lib.bitLen_le _ q (by omega) (by omega)
          unfold lenK; omega
        rw [e1, e2, e3]; rfl
      · have e1 : decide (k.2 ≤ ((2 ^ q : Nat) : Int)) = false := decide_eq_false h3
        rw [e1]
        by_cases h4 : k.2 ≤ 4096
        · have e2 : decide (k.2 ≤ 4096) = true := decide_eq_true h4
          have e3 : decide (lenK k < q + 1) = false := by
            apply decide_eq_false
            intro h5
            have h6 := bitLen_lt (k.2 - 1).toNat (by omega)
            unfold lenK at h5
            have h7 : 2 ^ Lib.bitLen (k.2 - 1).toNat ≤ 2 ^ q := Nat.pow_le_pow_right (by decide) (by omega)
            omega
          rw [e2, e3]; rfl
        · have e2 : decide (k.2 ≤ 4096) = false := decide_eq_false h4
          rw [e2]; rfl

/-- Keys with at most p powers. -/
def upto (L : List Ent) (p : Nat) : Nat := (L.filter fun e => powB e.1 && decide (lenK e.1 < p)).length
theorem upto_succ (p : Nat) : ∀ M : List Ent, upto M (p + 1) = upto M p + cnt M p
  | [] => rfl
  | x :: M => by
    have ih := upto_succ p M
    unfold upto cnt at ih ⊢
    simp only [List.filter_cons]
    cases hx : powB x.1
    · simpa using ih
    · rcases Nat.lt_trichotomy (lenK x.1) p with h | h | h
      · have h1 : lenK x.1 < p + 1 := by omega
        have h2 : (lenK x.1 == p) = false := by simp; omega
        simp [h, h1, h2]; omega
      · have h1 : lenK x.1 < p + 1 := by omega
        have h2 : (lenK x.1 == p) = true := by simp [h]
        have h3 : ¬ lenK x.1 < p := by omega
        simp [h1, h2, h3]; omega
      · have h1 : ¬ lenK x.1 < p + 1 := by omega
        have h2 : (lenK x.1 == p) = false := by simp; omega
        have h3 : ¬ lenK x.1 < p := by omega
        simp [h1, h2, h3]; omega
theorem upto_zero (L : List Ent) : upto L 0 = 0 := by unfold upto; simp
/-- What sizes reckons. -/
theorem szS_is (L : List Ent) : ∀ p, (szS (cnt L) p).2.2 = upto L p ∧ (((szS (cnt L) p).1 = 0 ∧ (szS (cnt L) p).2.1 = 0) ∨ ∃ q, q < p ∧ (szS (cnt L) p).1 = 2 ^ q ∧ (szS (cnt L) p).2.1 = upto L (q + 1) ∧ 2 ^ q < 2 * (szS (cnt L) p).2.1)
  | 0 => ⟨by rw [upto_zero]; rfl, .inl ⟨rfl, rfl⟩⟩
  | p + 1 => by
    obtain ⟨h1, h2⟩ := szS_is L p
    have e : szS (cnt L) (p + 1) = if 2 ^ p < 2 * ((szS (cnt L) p).2.2 + cnt L p) then (2 ^ p, (szS (cnt L) p).2.2 + cnt L p, (szS (cnt L) p).2.2 + cnt L p) else ((szS (cnt L) p).1, (szS (cnt L) p).2.1, (szS (cnt L) p).2.2 + cnt L p) := by rw [szS]
    rw [e, upto_succ, ← h1]
    split
    · rename_i hlt
      exact ⟨rfl, .inr ⟨p, by omega, rfl, by rw [upto_succ, ← h1], hlt⟩⟩
    · refine ⟨rfl, ?_⟩
      rcases h2 with h2 | ⟨q, hq, h2⟩
      · exact .inl h2
      · exact .inr ⟨q, by omega, h2⟩
theorem filter_not (L : List Ent) (p : Ent → Bool) : (L.filter p).length + (L.filter fun e => !p e).length = L.length := by
  induction L with
  | nil => rfl
  | cons x L ih =>
    rw [List.filter_cons, List.filter_cons]
    cases h : p x <;> simp [h] <;> omega
theorem inArr_zero (k : Int × Int) : inArr 0 k = false := by
  unfold inArr
  cases k.1 == 2
  · rfl
  · by_cases h : 1 ≤ k.2
    · have : ¬ k.2 ≤ ((0 : Nat) : Int) := by omega
      rw [decide_eq_false this, Bool.and_false, Bool.and_false]
    · simp [h]
/-- The nodes are as many as the keys that need one. -/
theorem sz_outs (L : List Ent) : outs (szA L) L = L.length - (szS (cnt L) 13).2.1 := by
  obtain ⟨_, h⟩ := szS_is L 13
  unfold szA outs
  rcases h with ⟨h1, h2⟩ | ⟨q, hq, h1, h2, h3⟩
  · rw [h1, h2]
    have : (L.filter fun e => !inArr 0 e.1) = L := by
      rw [List.filter_eq_self]
      intro e _
      rw [inArr_zero]; rfl
    rw [this]; rfl
  · rw [h1, h2]
    have e1 : (fun e : Ent => !inArr (2 ^ q) e.1) = fun e => !(powB e.1 && decide (lenK e.1 < q + 1)) := by
      funext e; rw [inArr_pow (by omega)]
    rw [e1]
    have := filter_not L (fun e => powB e.1 && decide (lenK e.1 < q + 1))
    unfold upto
    omega
theorem sz_room (L : List Ent) (hl : L.length ≤ 256) : outs (szA L) L ≤ szN L ∧ (szN L ≠ 0 → szN L < 2 * outs (szA L) L) := by
  rw [sz_outs]
  unfold szN
  have h := pw2_facts (L.length - (szS (cnt L) 13).2.1) (by omega)
  refine ⟨h.1, fun hne => h.2.2.2 (fun e => hne ?_)⟩
  rw [e]; rfl

/-- Behind a renewal there is room for the new key. -/
theorem renew_room (a n : Nat) (sl : Sl) (k v : Int × Int) (hl : (ents a n sl 0).length ≤ 200) :
    (putR (szA (renL a n sl k)) (szN (renL a n sl k)) (putAll (szA (renL a n sl k)) (szN (renL a n sl k)) (fun _ => (0, 0)) (ents a n sl 0)) k v).1 = true := by
  apply put_ok
  cases hi : inArr (szA (renL a n sl k)) k
  · right
    have h1 := (sz_room (renL a n sl k) (by unfold renL; simp; omega)).1
    have h2 := putAll_occ (szA (renL a n sl k)) (szN (renL a n sl k)) (ents a n sl 0) (fun _ => (0, 0))
    rw [occ_zero] at h2
    have h3 : outs (szA (renL a n sl k)) (renL a n sl k) = outs (szA (renL a n sl k)) (ents a n sl 0) + 1 := by
      conv => lhs; arg 2; unfold renL
      unfold outs
      rw [List.filter_append, List.length_append]
      simp [hi]
    omega
  · exact .inl rfl

/-- Sizes do not ask for too much. -/
theorem sz_small (L : List Ent) (hl : L.length ≤ 256) : szA L + 2 * szN L ≤ 4 * L.length := by
  obtain ⟨_, h⟩ := szS_is L 13
  have hN := sz_room L hl
  have ho := sz_outs L
  have hlen := szS_len L 13
  have hA : szA L = (szS (cnt L) 13).1 := rfl
  rcases h with ⟨h1, h2⟩ | ⟨q, hq, h1, h2, h3⟩
  · rcases Nat.eq_zero_or_pos (szN L) with h0 | h0
    · omega
    · have := hN.2 (by omega); omega
  · rcases Nat.eq_zero_or_pos (szN L) with h0 | h0
    · omega
    · have := hN.2 (by omega); omega
end Go.Proofs.Ythefmfjlinpepaa
