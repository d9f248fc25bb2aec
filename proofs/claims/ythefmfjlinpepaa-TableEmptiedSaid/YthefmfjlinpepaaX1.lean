/- What is given is got. -/
import Derived.Test.YthefmfjlinpepaaU3
namespace Go.Proofs.Ythefmfjlinpepaa
open Go.RowKit Go.Shelf
set_option linter.unusedSimpArgs false
set_option linter.unusedVariables false

/-- The value of a key as it is taken. -/
def gv (a n : Nat) (sl : Sl) (k : Int × Int) : Int × Int := if (findR a n sl k).2 = true then sl (findR a n sl k).1 else (0, 0)
theorem getR_gv (a n : Nat) (sl : Sl) (t x : Int) : getR a n sl t x = if keyB t x = true then gv a n sl (kyP (t, x)) else (0, 0) := rfl

theorem fnd_keys {a n : Nat} {sl sl' : Sl} {k : Int × Int} (hn : 0 < n) (h : ∀ m : Nat, m < n → sl' ((a + 2 * m : Nat) : Int) = sl ((a + 2 * m : Nat) : Int)) : ∀ f i, fnd a n sl' k f i = fnd a n sl k f i := by
  intro f
  induction f with
  | zero => intro i; rfl
  | succ f ih =>
    intro i
    obtain ⟨m, hm, hw⟩ := wayN_shape a n k i hn
    unfold fnd
    rw [hw, h m hm, ih]
/-- Where a key is hangs on keys alone. -/
theorem findR_keys {a n : Nat} {sl sl' : Sl} (k : Int × Int) (h : ∀ m : Nat, m < n → sl' ((a + 2 * m : Nat) : Int) = sl ((a + 2 * m : Nat) : Int)) : findR a n sl' k = findR a n sl k := by
  unfold findR
  split
  · rfl
  · rcases Nat.eq_zero_or_pos n with hn | hn
    · subst hn; rfl
    · exact fnd_keys hn h n 0
/-- A free node is filled. -/
theorem fnd_fill {a n : Nat} {sl sl' : Sl} {k : Int × Int} (hn : 0 < n) {m : Nat} (hm : m < n) (h : ∀ m' : Nat, m' < n → m' ≠ m → sl' ((a + 2 * m' : Nat) : Int) = sl ((a + 2 * m' : Nat) : Int)) (hk : sl' ((a + 2 * m : Nat) : Int) = k) :
    ∀ f i, fnd a n sl k f i = ((a : Int) + 2 * (m : Int) + 1, false) → fnd a n sl' k f i = ((a : Int) + 2 * (m : Int) + 1, true) := by
  intro f
  induction f with
  | zero => intro i e; simp [fnd] at e; omega
  | succ f ih =>
    intro i e
    obtain ⟨m', hm', hw⟩ := wayN_shape a n k i hn
    unfold fnd at e ⊢
    rw [hw] at e ⊢
    by_cases hmm : m' = m
    · subst hmm
      rw [hk, if_pos rfl]
      simp
    · rw [h m' hm' hmm]
      split at e
      · simp at e
      · split at e
        · simp at e; omega
        · rename_i h1 h2
          rw [if_neg h1, if_neg h2]
          exact ih _ e

theorem put_get {a n : Nat} {sl : Sl} {k v : Int × Int} (hp : (putR a n sl k v).1 = true) (hk : k.1 ≠ 0) (hv : v.1 = 0 → v = (0, 0)) : gv a n (putR a n sl k v).2 k = v := by
  rcases findR_shape a n sl k with ⟨hi, he, h1, h2, h3⟩ | ⟨hi, he⟩ | ⟨hi, m, hm, he, ht, hf⟩
  · have e : (putR a n sl k v).2 = sput sl (k.2 - 1) v := by unfold putR; rw [he, if_pos rfl]
    rw [e]
    have e2 : findR a n (sput sl (k.2 - 1) v) k = (k.2 - 1, true) := by
      rw [findR_keys (sl := sl) k (fun m _ => sput_ne (by omega)), he]
    unfold gv
    rw [e2, if_pos rfl]
    exact sput_same
  · unfold putR at hp ⊢
    rw [he] at hp ⊢
    simp only [Bool.false_eq_true, if_false, if_true] at hp ⊢
    by_cases h0 : v.1 = 0
    · rw [if_pos h0]
      unfold gv
      rw [he, hv h0]
      simp
    · rw [if_neg h0] at hp; cases hp
  · by_cases h : (findR a n sl k).2 = true
    · have e : (putR a n sl k v).2 = sput sl ((a : Int) + 2 * (m : Int) + 1) v := by unfold putR; rw [if_pos h, he]
      rw [e]
      have e2 : findR a n (sput sl ((a : Int) + 2 * (m : Int) + 1) v) k = findR a n sl k := findR_keys k (fun m _ => sput_ne (by omega))
      unfold gv
      rw [e2, if_pos h, he]
      exact sput_same
    · by_cases h0 : v.1 = 0
      · have e : (putR a n sl k v).2 = sl := by unfold putR; rw [if_neg h, if_pos h0]
        rw [e]
        unfold gv
        rw [if_neg h, hv h0]
      · have e : (putR a n sl k v).2 = sput (sput sl ((a : Int) + 2 * (m : Int)) k) ((a : Int) + 2 * (m : Int) + 1) v := by
          unfold putR
          rw [if_neg h, if_neg h0, if_neg (by omega), he, show (a : Int) + 2 * (m : Int) + 1 - 1 = (a : Int) + 2 * (m : Int) by omega]
        rw [e]
        have hn : 0 < n := by omega
        have e3 : findR a n sl k = fnd a n sl k n 0 := by unfold findR; rw [hi]; rfl
        have e4 : fnd a n sl k n 0 = ((a : Int) + 2 * (m : Int) + 1, false) := by
          rw [e3] at he h
          exact Prod.ext he (by simpa using h)
        have e5 := fnd_fill (sl' := sput (sput sl ((a : Int) + 2 * (m : Int)) k) ((a : Int) + 2 * (m : Int) + 1) v) hn hm (fun m' _ hne => by rw [sput_ne (by omega), sput_ne (by omega)]) (by
          rw [sput_ne (by omega), show ((a + 2 * m : Nat) : Int) = (a : Int) + 2 * (m : Int) by omega]; exact sput_same) n 0 e4
        have e6 : findR a n (sput (sput sl ((a : Int) + 2 * (m : Int)) k) ((a : Int) + 2 * (m : Int) + 1) v) k = ((a : Int) + 2 * (m : Int) + 1, true) := by
          unfold findR; rw [hi]; exact e5
        unfold gv
        rw [e6, if_pos rfl]
        exact sput_same

theorem kyP_ne {k : Int × Int} (h : keyB k.1 k.2 = true) : (kyP k).1 ≠ 0 := by
  unfold kyP kyT
  simp only
  split
  · decide
  · intro h0
    rw [h0] at h
    simp [keyB] at h

/-- Behind a Set that is not refused the key has the value. -/
theorem set_get {most : Int} {a n : Nat} {sl : Sl} {k v : Int × Int} (h : (setR most a n sl k v).1 = 0) (hv : v.1 = 0 → v = (0, 0)) :
    keyB k.1 k.2 = true ∧ gv (setR most a n sl k v).2.1 (setR most a n sl k v).2.2.1 (setR most a n sl k v).2.2.2 (kyP k) = v := by
  unfold setR at h ⊢
  by_cases h1 : (!keyB k.1 k.2 || v.1 == 11) = true
  · rw [if_pos h1] at h; simp at h
  · have hkb : keyB k.1 k.2 = true := by
      cases hq : keyB k.1 k.2
      · rw [hq] at h1; simp at h1
      · rfl
    refine ⟨hkb, ?_⟩
    rw [if_neg h1] at h ⊢
    by_cases h2 : (putR a n sl (kyP k) v).1 = true
    · rw [if_pos h2]
      exact put_get h2 (kyP_ne hkb) hv
    · rw [if_neg h2] at h ⊢
      by_cases h3 : most < (szA (renL a n sl (kyP k)) : Int) + 2 * (szN (renL a n sl (kyP k)) : Int)
      · rw [if_pos h3] at h; simp at h
      · rw [if_neg h3] at h ⊢
        simp only at h ⊢
        split at h
        · rename_i h4
          exact put_get h4 (kyP_ne hkb) hv
        · exact absurd h (by decide)

/-- Next's answer. -/
def nextR (a n : Nat) (sl : Sl) (t x : Int) : Ent × Int := if (behR a n sl t x).2 = true then (fstE (ents a n sl (behR a n sl t x).1.toNat), 0) else (((0, 0), (0, 0)), 13)
theorem Re.nexts {w W : World} {P : Nat} {most : Int} {a n : Nat} {sl : Sl} {b : Nat} (h : Re w W P most a n sl b) (t x : Int) (hx : I64 x) (r : Ent × Int) (hr : nextR a n sl t x = r) :
    Calls Try.prog 20 #[MI P, AV t x] W fun e w' => e = .returned (.tuple #[iV r.1.1, iV r.1.2, .int .i64 r.2]) ∧ Kept No W w' := by
  obtain ⟨nn, hnn, ht⟩ := h.tb
  subst hr
  unfold nextR
  cases hb : (behR a n sl t x).2
  · rw [if_neg (by simp)]
    exact Next_none ht t x hx hb
  · rw [if_pos rfl]
    exact Next_some ht h.is t x hx hb
theorem behR_ky {a n : Nat} {sl : Sl} {t x t' x' : Int} (h : keyB t x = true) (h' : keyB t' x' = true) (e : kyP (t, x) = kyP (t', x')) (ht : t ≠ 0) (ht' : t' ≠ 0) : behR a n sl t x = behR a n sl t' x' := by
  unfold behR
  have e1 : (kyT t x, kyN t x) = (kyT t' x', kyN t' x') := e
  have h1 : (t == 0) = false := by simpa using ht
  have h2 : (t' == 0) = false := by simpa using ht'
  rw [h1, h2, h, h', e1]
theorem flt_i64 (x : Nat) : I64 (flt x) := by
  unfold flt
  split
  · constructor <;> decide
  · unfold bi
    unfold wrap64; constructor <;> omega
end Go.Proofs.Ythefmfjlinpepaa
