/- Joined: U3 X1 Y1 Y2 Y3 X2 M1 VR K1 N3 Z1. -/
import Derived.Test.YthefmfjlinpepaaU2
import Derived.Test.YthefmfjlinpepaaC1
import Derived.Test.YthefmfjlinpepaaRE
import Derived.Test.YthefmfjlinpepaaN2
/- The length: it is there, and no more than keys are. TableLen: the walk. -/
namespace Go.Proofs.Ythefmfjlinpepaa
open Go.RowKit Go.Shelf
set_option linter.unusedSimpArgs false
set_option linter.unusedVariables false
attribute [local go_sem] Oper.semAt_some

theorem nodup_le {α : Type} [DecidableEq α] : ∀ (xs l : List α), xs.Nodup → (∀ x ∈ xs, x ∈ l) → xs.length ≤ l.length
  | [], _, _, _ => by simp
  | x :: xs, l, hn, hm => by
    rw [List.nodup_cons] at hn
    have hx := hm x List.mem_cons_self
    have ih := nodup_le xs (l.erase x) hn.2 (fun y hy => by
      have hne : y ≠ x := by intro e; subst e; exact hn.1 hy
      exact (List.mem_erase_of_ne hne).2 (hm y (List.mem_cons_of_mem _ hy)))
    rw [List.length_erase_of_mem hx] at ih
    have : 0 < l.length := List.length_pos_of_mem hx
    rw [List.length_cons]; omega

theorem kyT2 (x : Int) : kyT 2 x = 2 := by unfold kyT; split <;> rfl
theorem kyN2 (x : Int) : kyN 2 x = x := by unfold kyN whN; simp [isNum]
theorem keyB2 (x : Int) : keyB 2 x = true := by simp [keyB]
theorem getR2 (a n : Nat) (sl : Sl) (x : Int) : getR a n sl 2 x = if (findR a n sl (2, x)).2 = true then sl (findR a n sl (2, x)).1 else (0, 0) := by
  unfold getR; rw [keyB2, kyT2, kyN2]; rfl

/-- A key that has a value is one of the entries. -/
theorem found_ent {a n : Nat} {sl : Sl} {k : Int × Int} (hf : (findR a n sl k).2 = true) (hv : (sl (findR a n sl k).1).1 ≠ 0) (hk : keyB k.1 k.2 = true) :
    ∃ j, j < a + n ∧ okJ a sl j = true ∧ keyAt a sl (plA a 0 j : Nat) = k ∧ ((plA a 0 j : Nat) : Int) = (findR a n sl k).1 := by
  rcases findR_shape a n sl k with ⟨hi, he, h1, h2, h3⟩ | ⟨hi, he⟩ | ⟨hi, m, hm, he, ht, _⟩
  · have hp : plA a 0 (k.2 - 1).toNat = (k.2 - 1).toNat := by rw [plA0, if_pos (by omega)]
    have e1 : ((plA a 0 (k.2 - 1).toNat : Nat) : Int) = (findR a n sl k).1 := by rw [hp, he]; show _ = k.2 - 1; omega
    have e2 : keyAt a sl (plA a 0 (k.2 - 1).toNat : Nat) = k := by
      unfold keyAt
      rw [hp, if_pos (by omega)]
      have : ((k.2 - 1).toNat : Int) + 1 = k.2 := by omega
      rw [this, ← h3]
    refine ⟨(k.2 - 1).toNat, by omega, ?_, e2, e1⟩
    unfold okJ okE
    rw [e2, hk, e1]
    simp [hv]
  · rw [he] at hf; cases hf
  · have hp : plA a 0 (a + m) = a + 2 * m + 1 := by rw [plA0, if_neg (by omega)]; omega
    have e1 : ((plA a 0 (a + m) : Nat) : Int) = (findR a n sl k).1 := by rw [hp, he]; omega
    have e2 : keyAt a sl (plA a 0 (a + m) : Nat) = k := by
      unfold keyAt
      rw [hp, if_neg (by omega)]
      have : ((a + 2 * m + 1 : Nat) : Int) - 1 = ((a + 2 * m : Nat) : Int) := by omega
      rw [this]; exact ht hf
    refine ⟨a + m, by omega, ?_, e2, e1⟩
    unfold okJ okE
    rw [e2, hk, e1]
    simp [hv]
/-- Keys of entries. -/
def keysOf (a n : Nat) (sl : Sl) : List (Int × Int) := ((List.range (a + n)).filter (okJ a sl)).map fun j => keyAt a sl (plA a 0 j : Nat)
theorem found_mem {a n : Nat} {sl : Sl} {k : Int × Int} (hf : (findR a n sl k).2 = true) (hv : (sl (findR a n sl k).1).1 ≠ 0) (hk : keyB k.1 k.2 = true) : k ∈ keysOf a n sl := by
  obtain ⟨j, hj, ho, he, _⟩ := found_ent hf hv hk
  unfold keysOf
  rw [List.mem_map]
  exact ⟨j, List.mem_filter.2 ⟨List.mem_range.2 hj, ho⟩, he⟩
theorem len_bound {a n : Nat} {sl : Sl} {m : Nat} (h : ∀ j : Nat, j < m → (getR a n sl 2 ((j : Int) + 1)).1 ≠ 0) : m ≤ (ents a n sl 0).length := by
  have h1 := nodup_le ((List.range m).map fun j : Nat => ((2, (j : Int) + 1) : Int × Int)) (keysOf a n sl) ?_ ?_
  · rw [List.length_map, List.length_range] at h1
    rw [ents_len]
    unfold keysOf at h1
    rw [List.length_map] at h1
    exact h1
  · rw [List.Nodup, List.pairwise_map]
    refine List.Pairwise.imp ?_ (List.nodup_range (n := m))
    intro x y hxy e
    simp only [Prod.mk.injEq, true_and] at e
    omega
  · intro x hx
    obtain ⟨j, hj, rfl⟩ := List.mem_map.1 hx
    have h2 := h j (List.mem_range.1 hj)
    rw [getR2] at h2
    by_cases hf : (findR a n sl (2, (j : Int) + 1)).2 = true
    · rw [if_pos hf] at h2
      exact found_mem hf h2 (keyB2 _)
    · rw [if_neg hf] at h2; exact absurd rfl h2
theorem len_there (a n : Nat) (sl : Sl) : ∃ m, m ≤ (ents a n sl 0).length ∧ (getR a n sl 2 ((m : Int) + 1)).1 = 0 ∧ ∀ j : Nat, j < m → (getR a n sl 2 ((j : Int) + 1)).1 ≠ 0 := by
  have key : ∀ c : Nat, (∀ j : Nat, j < c → (getR a n sl 2 ((j : Int) + 1)).1 ≠ 0) ∨ ∃ m, m < c ∧ (getR a n sl 2 ((m : Int) + 1)).1 = 0 ∧ ∀ j : Nat, j < m → (getR a n sl 2 ((j : Int) + 1)).1 ≠ 0 := by
    intro c
    induction c with
    | zero => exact .inl (fun j hj => absurd hj (by omega))
    | succ c ih =>
      rcases ih with h | ⟨m, hm, h⟩
      · by_cases hz : (getR a n sl 2 ((c : Int) + 1)).1 = 0
        · exact .inr ⟨c, by omega, hz, h⟩
        · left
          intro j hj
          rcases Nat.lt_or_ge j c with h1 | h1
          · exact h j h1
          · obtain rfl : j = c := by omega
            exact hz
      · exact .inr ⟨m, by omega, h⟩
  rcases key ((ents a n sl 0).length + 1) with h | ⟨m, hm, h⟩
  · have := len_bound h; omega
  · exact ⟨m, by omega, h⟩

theorem fd33 (x y : Int) (w : World) : (Instr.field 33 (.agg #[.int .i64 x, .int .i64 y]) 0).run Try.prog w = .ok (.int .i64 x) w := by kernel_rfl

set_option maxRecDepth 20000 in
set_option maxHeartbeats 4000000 in
theorem TableLen_any (v : Value) (L : List Ac) (w : World) (hL : Acts w v L) :
    Calls Try.prog 7 #[v] w fun e w' => e = .returned (.bool true) ∧ Kept No w w' := by
  have HM : Hid (Calls Try.prog 16 #[v] w fun e w' => e = .returned (MP w.heap.size) ∧ ReS w w' w.heap.size 400 (playR 400 (L.take 80)) 40000) := made_any v L w hL
  have hlen := playR_len 400 L 80
  obtain ⟨ao, cap, rfl, -, -⟩ := hL
  obtain ⟨m, hm, h0, h1⟩ := len_there (playR 400 (L.take 80)).1 (playR 400 (L.take 80)).2.1 (playR 400 (L.take 80)).2.2
  have hm8 : m ≤ 80 := by omega
  generalize playR 400 (L.take 80) = s at HM hm h0 h1 hlen
  obtain ⟨a, n, sl⟩ := s
  have HM' : Hid (Calls Try.prog 16 #[.slice ao L.length cap] w fun e w' => e = .returned (MP w.heap.size) ∧ Re w w' w.heap.size 400 a n sl 40000) := HM.out
  have H0 : Hid ((getR a n sl 2 ((m : Int) + 1)).1 = 0) := h0
  have H1 : Hid (∀ j : Nat, j < m → (getR a n sl 2 ((j : Int) + 1)).1 ≠ 0) := h1
  clear HM hm h0 h1 hlen
  have hfd := fd33
  go_enter Try.func7, Try.ntmps7
  go_wp2_with fail
  refine HM'.out.mono ?_
  rintro e w1 ⟨rfl, h1⟩
  have R1 : Hid (Re w w1 w.heap.size 400 a n sl 40000) := h1
  clear h1 HM'
  go_wp2_with fail
  refine (R1.out.len m (by omega) H0.out H1.out).mono ?_
  rintro e w2 ⟨rfl, hk2⟩
  have R2 : Hid (Re w w2 w.heap.size 400 a n sl 40000) := R1.out.no hk2
  clear hk2 R1
  have hm9 : ¬ (80 : Int) < (m : Int) := by omega
  go_wp2_with fail
  refine (Int_any _ _).mono ?_
  rintro e w3 ⟨rfl, hb3⟩
  have R3 : Hid (Re w w3 w.heap.size 400 a n sl 40000) := R2.out.no (Kept.of_below hb3)
  clear hb3 R2
  obtain ⟨g, hg⟩ : ∃ g, getR a n sl 2 ((m : Int) + 1) = g := ⟨_, rfl⟩
  obtain ⟨g1, g2⟩ := g
  have e0 : g1 = 0 := by have := H0.out; rw [hg] at this; exact this
  subst e0
  have HG := R3.out.get 2 ((m : Int) + 1) (by constructor <;> omega) (0, g2) hg
  have HG' : Hid _ := HG
  clear hg HG
  go_wp2_with fail
  refine Calls.mono HG'.out ?_
  rintro e w4 ⟨rfl, hk4⟩
  have R4 : Hid (Re w w4 w.heap.size 400 a n sl 40000) := R3.out.no hk4
  clear hk4 R3 HG'
  go_wp2_with fail
  go_loopw [5] (fun i wr => ∃ j : Nat, 1 ≤ j ∧ j ≤ m + 1 ∧ i = .int .i64 j ∧ Hid (Re w wr w.heap.size 400 a n sl 40000)) (fun i _ => m + 1 - (intOf i).toNat)
  case atStart => exact ⟨1, by omega, by omega, rfl, R4.out⟩
  case round =>
    obtain ⟨j, hj1, hj2, rfl, R5⟩ := hrel
    by_cases hlt : j ≤ m
    · have k2 : (j : Int) ≤ (m : Int) := by omega
      go_wp2_with fail
      refine (Int_any _ _).mono ?_
      rintro e w5 ⟨rfl, hb5⟩
      have R6 : Hid (Re w w5 w.heap.size 400 a n sl 40000) := R5.out.no (Kept.of_below hb5)
      clear hb5 R5
      obtain ⟨g, hg⟩ : ∃ g, getR a n sl 2 (j : Int) = g := ⟨_, rfl⟩
      obtain ⟨x1, x2⟩ := g
      have hne : (x1 == 0) = false := by
        have := H1.out (j - 1) (by omega)
        rw [show ((j - 1 : Nat) : Int) + 1 = (j : Int) by omega, hg] at this
        simpa using this
      have HG := R6.out.get 2 (j : Int) (by constructor <;> omega) (x1, x2) hg
      have HG' : Hid _ := HG
      clear hg HG
      go_wp2_with fail
      refine Calls.mono HG'.out ?_
      rintro e w6 ⟨rfl, hk6⟩
      have R7 : Hid (Re w w6 w.heap.size 400 a n sl 40000) := R6.out.no hk6
      clear hk6 R6 HG'
      go_wp2
      go_roundw
      case rel => exact ⟨j + 1, by omega, by omega, by go_num, R7.out⟩
      case measure => simp [intOf]; omega
    · have k2 : ¬ (j : Int) ≤ (m : Int) := by omega
      go_wp2_with fail
      refine (alive_any _).mono ?_
      rintro e w5 ⟨rfl, hk5⟩
      have HE : Hid (Kept No w w5) := R5.out.kp.trans hk5
      clear hk5
      go_wp2
      go_ret
      exact ⟨rfl, HE.out⟩
end Go.Proofs.Ythefmfjlinpepaa

/- What is given is got. -/
namespace Go.Proofs.Ythefmfjlinpepaa
open Go.RowKit Go.Shelf
set_option linter.unusedSimpArgs false
set_option linter.unusedVariables false

/-- The value of a key as it is taken. -/
def gv (a n : Nat) (sl : Sl) (k : Int × Int) : Int × Int := if (findR a n sl k).2 = true then sl (findR a n sl k).1 else (0, 0)
theorem getR_gv (a n : Nat) (sl : Sl) (t x : Int) : getR a n sl t x = if keyB t x = true then gv a n sl (kyP (t, x)) else (0, 0) := rfl

theorem fnd_keys {a n : Nat} {sl sl' : Sl} {k : Int × Int} (hn : 0 < n) (h : ∀ m : Nat, m < n → sl' ((a + 2 * m : Nat) : Int) = sl ((a + 2 * m : Nat) : Int)) : ∀ f i, fnd a n sl' k f i = fnd a n sl k f i := by
  intro f
  induction f with
  | zero => intro i; rfl
  | succ f ih =>
    intro i
    obtain ⟨m, hm, hw⟩ := wayN_shape a n k i hn
    unfold fnd
    rw [hw, h m hm, ih]
/-- Where a key is hangs on keys alone. -/
theorem findR_keys {a n : Nat} {sl sl' : Sl} (k : Int × Int) (h : ∀ m : Nat, m < n → sl' ((a + 2 * m : Nat) : Int) = sl ((a + 2 * m : Nat) : Int)) : findR a n sl' k = findR a n sl k := by
  unfold findR
  split
  · rfl
  · rcases Nat.eq_zero_or_pos n with hn | hn
    · subst hn; rfl
    · exact fnd_keys hn h n 0
/-- A free node is filled. -/
theorem fnd_fill {a n : Nat} {sl sl' : Sl} {k : Int × Int} (hn : 0 < n) {m : Nat} (hm : m < n) (h : ∀ m' : Nat, m' < n → m' ≠ m → sl' ((a + 2 * m' : Nat) : Int) = sl ((a + 2 * m' : Nat) : Int)) (hk : sl' ((a + 2 * m : Nat) : Int) = k) :
    ∀ f i, fnd a n sl k f i = ((a : Int) + 2 * (m : Int) + 1, false) → fnd a n sl' k f i = ((a : Int) + 2 * (m : Int) + 1, true) := by
  intro f
  induction f with
  | zero => intro i e; simp [fnd] at e; omega
  | succ f ih =>
    intro i e
    obtain ⟨m', hm', hw⟩ := wayN_shape a n k i hn
    unfold fnd at e ⊢
    rw [hw] at e ⊢
    by_cases hmm : m' = m
    · subst hmm
      rw [hk, if_pos rfl]
      simp
    · rw [h m' hm' hmm]
      split at e
      · simp at e
      · split at e
        · simp at e; omega
        · rename_i h1 h2
          rw [if_neg h1, if_neg h2]
          exact ih _ e

theorem put_get {a n : Nat} {sl : Sl} {k v : Int × Int} (hp : (putR a n sl k v).1 = true) (hk : k.1 ≠ 0) (hv : v.1 = 0 → v = (0, 0)) : gv a n (putR a n sl k v).2 k = v := by
  rcases findR_shape a n sl k with ⟨hi, he, h1, h2, h3⟩ | ⟨hi, he⟩ | ⟨hi, m, hm, he, ht, hf⟩
  · have e : (putR a n sl k v).2 = sput sl (k.2 - 1) v := by unfold putR; rw [he, if_pos rfl]
    rw [e]
    have e2 : findR a n (sput sl (k.2 - 1) v) k = (k.2 - 1, true) := by
      rw [findR_keys (sl := sl) k (fun m _ => sput_ne (by omega)), he]
    unfold gv
    rw [e2, if_pos rfl]
    exact sput_same
  · unfold putR at hp ⊢
    rw [he] at hp ⊢
    simp only [Bool.false_eq_true, if_false, if_true] at hp ⊢
    by_cases h0 : v.1 = 0
    · rw [if_pos h0]
      unfold gv
      rw [he, hv h0]
      simp
    · rw [if_neg h0] at hp; cases hp
  · by_cases h : (findR a n sl k).2 = true
    · have e : (putR a n sl k v).2 = sput sl ((a : Int) + 2 * (m : Int) + 1) v := by unfold putR; rw [if_pos h, he]
      rw [e]
      have e2 : findR a n (sput sl ((a : Int) + 2 * (m : Int) + 1) v) k = findR a n sl k := findR_keys k (fun m _ => sput_ne (by omega))
      unfold gv
      rw [e2, if_pos h, he]
      exact sput_same
    · by_cases h0 : v.1 = 0
      · have e : (putR a n sl k v).2 = sl := by unfold putR; rw [if_neg h, if_pos h0]
        rw [e]
        unfold gv
        rw [if_neg h, hv h0]
      · have e : (putR a n sl k v).2 = sput (sput sl ((a : Int) + 2 * (m : Int)) k) ((a : Int) + 2 * (m : Int) + 1) v := by
          unfold putR
          rw [if_neg h, if_neg h0, if_neg (by omega), he, show (a : Int) + 2 * (m : Int) + 1 - 1 = (a : Int) + 2 * (m : Int) by omega]
        rw [e]
        have hn : 0 < n := by omega
        have e3 : findR a n sl k = fnd a n sl k n 0 := by unfold findR; rw [hi]; rfl
        have e4 : fnd a n sl k n 0 = ((a : Int) + 2 * (m : Int) + 1, false) := by
          rw [e3] at he h
          exact Prod.ext he (by simpa using h)
        have e5 := fnd_fill (sl' := sput (sput sl ((a : Int) + 2 * (m : Int)) k) ((a : Int) + 2 * (m : Int) + 1) v) hn hm (fun m' _ hne => by rw [sput_ne (by omega), sput_ne (by omega)]) (by
          rw [sput_ne (by omega), show ((a + 2 * m : Nat) : Int) = (a : Int) + 2 * (m : Int) by omega]; exact sput_same) n 0 e4
        have e6 : findR a n (sput (sput sl ((a : Int) + 2 * (m : Int)) k) ((a : Int) + 2 * (m : Int) + 1) v) k = ((a : Int) + 2 * (m : Int) + 1, true) := by
          unfold findR; rw [hi]; exact e5
        unfold gv
        rw [e6, if_pos rfl]
        exact sput_same

theorem kyP_ne {k : Int × Int} (h : keyB k.1 k.2 = true) : (kyP k).1 ≠ 0 := by
  unfold kyP kyT
  simp only
  split
  · decide
  · intro h0
    rw [h0] at h
    simp [keyB] at h

/-- Behind a Set that is not refused the key has the value. -/
theorem set_get {most : Int} {a n : Nat} {sl : Sl} {k v : Int × Int} (h : (setR most a n sl k v).1 = 0) (hv : v.1 = 0 → v = (0, 0)) :
    keyB k.1 k.2 = true ∧ gv (setR most a n sl k v).2.1 (setR most a n sl k v).2.2.1 (setR most a n sl k v).2.2.2 (kyP k) = v := by
  unfold setR at h ⊢
  by_cases h1 : (!keyB k.1 k.2 || v.1 == 11) = true
  · rw [if_pos h1] at h; simp at h
  · have hkb : keyB k.1 k.2 = true := by
      cases hq : keyB k.1 k.2
      · rw [hq] at h1; simp at h1
      · rfl
    refine ⟨hkb, ?_⟩
    rw [if_neg h1] at h ⊢
    by_cases h2 : (putR a n sl (kyP k) v).1 = true
    · rw [if_pos h2]
      exact put_get h2 (kyP_ne hkb) hv
    · rw [if_neg h2] at h ⊢
      by_cases h3 : most < (szA (renL a n sl (kyP k)) : Int) + 2 * (szN (renL a n sl (kyP k)) : Int)
      · rw [if_pos h3] at h; simp at h
      · rw [if_neg h3] at h ⊢
        simp only at h ⊢
        split at h
        · rename_i h4
          exact put_get h4 (kyP_ne hkb) hv
        · exact absurd h (by decide)

/-- Next's answer. -/
def nextR (a n : Nat) (sl : Sl) (t x : Int) : Ent × Int := if (behR a n sl t x).2 = true then (fstE (ents a n sl (behR a n sl t x).1.toNat), 0) else (((0, 0), (0, 0)), 13)
theorem Re.nexts {w W : World} {P : Nat} {most : Int} {a n : Nat} {sl : Sl} {b : Nat} (h : Re w W P most a n sl b) (t x : Int) (hx : I64 x) (r : Ent × Int) (hr : nextR a n sl t x = r) :
    Calls Try.prog 20 #[MI P, AV t x] W fun e w' => e = .returned (.tuple #[iV r.1.1, iV r.1.2, .int .i64 r.2]) ∧ Kept No W w' := by
  obtain ⟨nn, hnn, ht⟩ := h.tb
  subst hr
  unfold nextR
  cases hb : (behR a n sl t x).2
  · rw [if_neg (by simp)]
    exact Next_none ht t x hx hb
  · rw [if_pos rfl]
    exact Next_some ht h.is t x hx hb
theorem behR_ky {a n : Nat} {sl : Sl} {t x t' x' : Int} (h : keyB t x = true) (h' : keyB t' x' = true) (e : kyP (t, x) = kyP (t', x')) (ht : t ≠ 0) (ht' : t' ≠ 0) : behR a n sl t x = behR a n sl t' x' := by
  unfold behR
  have e1 : (kyT t x, kyN t x) = (kyT t' x', kyN t' x') := e
  have h1 : (t == 0) = false := by simpa using ht
  have h2 : (t' == 0) = false := by simpa using ht'
  rw [h1, h2, h, h', e1]
theorem flt_i64 (x : Nat) : I64 (flt x) := by
  unfold flt
  split
  · constructor <;> decide
  · unfold bi
    unfold wrap64; constructor <;> omega
end Go.Proofs.Ythefmfjlinpepaa

/- There is room behind a renewal. -/
namespace Go.Proofs.Ythefmfjlinpepaa
open Go.RowKit Go.Shelf
set_option linter.unusedSimpArgs false
set_option linter.unusedVariables false

/-- How many nodes have a key. -/
def occ (a n : Nat) (sl : Sl) : Nat := ((List.range n).filter fun m => (sl ((a + 2 * m : Nat) : Int)).1 != 0).length
theorem occ_le (a n : Nat) (sl : Sl) : occ a n sl ≤ n := by
  have := List.length_filter_le (fun m => (sl ((a + 2 * m : Nat) : Int)).1 != 0) (List.range n)
  rw [List.length_range] at this
  exact this
theorem occ_zero (a n : Nat) : occ a n (fun _ => (0, 0)) = 0 := by
  unfold occ
  rw [List.length_eq_zero_iff, List.filter_eq_nil_iff]
  intro m _
  simp

/-- All nodes on a way that leads nowhere have keys. -/
theorem fnd_full {a n : Nat} {sl : Sl} {k : Int × Int} (hn : 0 < n) : ∀ f i, fnd a n sl k f i = (-1, false) → ∀ j, j < f → (sl (wayN a n k (i + j) : Nat)).1 ≠ 0 := by
  intro f
  induction f with
  | zero => intro i _ j hj; omega
  | succ f ih =>
    intro i e j hj
    unfold fnd at e
    split at e
    · simp at e
    · split at e
      · simp at e; omega
      · rename_i h1 h2
        rcases j with _ | j
        · exact h2
        · have := ih (i + 1) e j (by omega)
          rw [show i + (j + 1) = i + 1 + j by omega]
          exact this
theorem way_all (n : Nat) (f0 m : Nat) (hm : m < n) (hf : f0 < n) : ∃ i, i < n ∧ (f0 + i) % n = m := by
  rcases Nat.lt_or_ge m f0 with h | h
  · refine ⟨n + m - f0, by omega, ?_⟩
    rw [show f0 + (n + m - f0) = m + n by omega, Nat.add_mod_right, Nat.mod_eq_of_lt hm]
  · exact ⟨m - f0, by omega, by rw [show f0 + (m - f0) = m by omega, Nat.mod_eq_of_lt hm]⟩
theorem find_full {a n : Nat} {sl : Sl} {k : Int × Int} (hi : inArr a k = false) (h : findR a n sl k = (-1, false)) : occ a n sl = n := by
  rcases Nat.eq_zero_or_pos n with hn | hn
  · subst hn; rfl
  have e : findR a n sl k = fnd a n sl k n 0 := by unfold findR; rw [hi]; rfl
  rw [e] at h
  have hall := fnd_full hn n 0 h
  unfold occ
  have : (List.range n).filter (fun m => (sl ((a + 2 * m : Nat) : Int)).1 != 0) = List.range n := by
    rw [List.filter_eq_self]
    intro m hm
    rw [List.mem_range] at hm
    obtain ⟨i, hi, hw⟩ := way_all n (fst0 n k) m hm (Nat.mod_lt _ hn)
    have := hall i hi
    rw [Nat.zero_add] at this
    unfold wayN at this
    rw [hw] at this
    simpa using this
  rw [this, List.length_range]

theorem put_ok {a n : Nat} {sl : Sl} {k v : Int × Int} (h : inArr a k = true ∨ occ a n sl < n) : (putR a n sl k v).1 = true := by
  rcases findR_shape a n sl k with ⟨hi, he, h1, h2, h3⟩ | ⟨hi, he⟩ | ⟨hi, m, hm, he, ht, hf⟩
  · unfold putR; rw [he, if_pos rfl]
  · have := find_full hi he
    rcases h with h | h
    · rw [hi] at h; cases h
    · omega
  · unfold putR
    split
    · rfl
    · split
      · rfl
      · rw [if_neg (by omega)]
theorem occ_same {a n : Nat} {sl sl' : Sl} (h : ∀ m : Nat, m < n → sl' ((a + 2 * m : Nat) : Int) = sl ((a + 2 * m : Nat) : Int)) : occ a n sl' = occ a n sl := by
  unfold occ
  congr 1
  apply List.filter_congr
  intro m hm
  rw [h m (List.mem_range.1 hm)]
theorem occ_put (a n : Nat) (sl : Sl) (k v : Int × Int) : occ a n (putR a n sl k v).2 ≤ occ a n sl + (if inArr a k = true then 0 else 1) := by
  rcases findR_shape a n sl k with ⟨hi, he, h1, h2, h3⟩ | ⟨hi, he⟩ | ⟨hi, m, hm, he, ht, hf⟩
  · have e : (putR a n sl k v).2 = sput sl (k.2 - 1) v := by unfold putR; rw [he, if_pos rfl]
    rw [e, occ_same (sl := sl) (fun m _ => sput_ne (by omega))]
    omega
  · have e : (putR a n sl k v).2 = sl := by
      unfold putR
      rw [he]
      simp only [Bool.false_eq_true, if_false, if_true]
      split <;> rfl
    rw [e]; omega
  · rw [if_neg (by rw [hi]; simp)]
    by_cases h : (findR a n sl k).2 = true
    · have e : (putR a n sl k v).2 = sput sl ((a : Int) + 2 * (m : Int) + 1) v := by unfold putR; rw [if_pos h, he]
      rw [e, occ_same (sl := sl) (fun m _ => sput_ne (by omega))]
      omega
    · by_cases h0 : v.1 = 0
      · have e : (putR a n sl k v).2 = sl := by unfold putR; rw [if_neg h, if_pos h0]
        rw [e]; omega
      · have e : (putR a n sl k v).2 = sput (sput sl ((a : Int) + 2 * (m : Int)) k) ((a : Int) + 2 * (m : Int) + 1) v := by
          unfold putR
          rw [if_neg h, if_neg h0, if_neg (by omega), he, show (a : Int) + 2 * (m : Int) + 1 - 1 = (a : Int) + 2 * (m : Int) by omega]
        rw [e]
        unfold occ
        have := cnt_one (fun j => (sput (sput sl ((a : Int) + 2 * (m : Int)) k) ((a : Int) + 2 * (m : Int) + 1) v ((a + 2 * j : Nat) : Int)).1 != 0) (fun j => (sl ((a + 2 * j : Nat) : Int)).1 != 0) m (fun j hj => by
          rw [sput_ne (by omega), sput_ne (by omega)]) n
        rw [if_pos hm] at this
        exact this

/-- How many of these keys have no array slot. -/
def outs (a : Nat) (L : List Ent) : Nat := (L.filter fun e => !inArr a e.1).length
theorem outs_cons (a : Nat) (e : Ent) (L : List Ent) : outs a (e :: L) = (if inArr a e.1 = true then 0 else 1) + outs a L := by
  unfold outs
  rw [List.filter_cons]
  cases h : inArr a e.1 <;> simp [h] <;> omega
/-- All puts have room. -/
theorem putAll_occ (a n : Nat) : ∀ (L : List Ent) (sl : Sl), occ a n (putAll a n sl L) ≤ occ a n sl + outs a L
  | [], sl => by simp [putAll]
  | e :: L, sl => by
    have h1 := occ_put a n sl e.1 e.2
    have h2 := putAll_occ a n L (putR a n sl e.1 e.2).2
    have h3 : putAll a n sl (e :: L) = putAll a n (putR a n sl e.1 e.2).2 L := rfl
    rw [h3, outs_cons]; omega

theorem bitLen_lt (x : Nat) (hx : x < 4096) : x < 2 ^ Lib.bitLen x := by
  induction x using Nat.strongRecOn with
  | ind x ih =>
    by_cases h0 : x = 0
    · subst h0; exact Nat.pow_pos (by decide)
    · rw [Lib.bitLen_half x h0 (by omega)]
      have := ih (x / 2) (by omega) (by omega)
      rw [Nat.pow_add, Nat.pow_one]; omega
theorem pow_pos (q : Nat) : 0 < 2 ^ q := Nat.pow_pos (by decide)
/-- Which keys an array of that size has. -/
theorem inArr_pow {q : Nat} (hq : q ≤ 12) (k : Int × Int) : inArr (2 ^ q) k = (powB k && decide (lenK k < q + 1)) := by
  have hpow : 2 ^ q ≤ 4096 := by
    have : 2 ^ q ≤ 2 ^ 12 := Nat.pow_le_pow_right (by decide) hq
    simpa using this
  unfold inArr powB
  cases h1 : k.1 == 2
  · simp
  · cases h2 : decide (1 ≤ k.2)
    · simp
    · have h2' : 1 ≤ k.2 := by simpa using h2
      simp only [Bool.true_and]
      by_cases h3 : k.2 ≤ ((2 ^ q : Nat) : Int)
      · have e1 : decide (k.2 ≤ ((2 ^ q : Nat) : Int)) = true := decide_eq_true h3
        have e2 : decide (k.2 ≤ 4096) = true := decide_eq_true (by omega)
        have e3 : decide (lenK k < q + 1) = true := by
          apply decide_eq_true
          have : Lib.bitLen (k.2 - 1).toNat ≤ q := Lib.bitLen_le _ q (by omega) (by omega)
          unfold lenK; omega
        rw [e1, e2, e3]; rfl
      · have e1 : decide (k.2 ≤ ((2 ^ q : Nat) : Int)) = false := decide_eq_false h3
        rw [e1]
        by_cases h4 : k.2 ≤ 4096
        · have e2 : decide (k.2 ≤ 4096) = true := decide_eq_true h4
          have e3 : decide (lenK k < q + 1) = false := by
            apply decide_eq_false
            intro h5
            have h6 := bitLen_lt (k.2 - 1).toNat (by omega)
            unfold lenK at h5
            have h7 : 2 ^ Lib.bitLen (k.2 - 1).toNat ≤ 2 ^ q := Nat.pow_le_pow_right (by decide) (by omega)
            omega
          rw [e2, e3]; rfl
        · have e2 : decide (k.2 ≤ 4096) = false := decide_eq_false h4
          rw [e2]; rfl

/-- Keys with at most p powers. -/
def upto (L : List Ent) (p : Nat) : Nat := (L.filter fun e => powB e.1 && decide (lenK e.1 < p)).length
theorem upto_succ (p : Nat) : ∀ M : List Ent, upto M (p + 1) = upto M p + cnt M p
  | [] => rfl
  | x :: M => by
    have ih := upto_succ p M
    unfold upto cnt at ih ⊢
    simp only [List.filter_cons]
    cases hx : powB x.1
    · simpa using ih
    · rcases Nat.lt_trichotomy (lenK x.1) p with h | h | h
      · have h1 : lenK x.1 < p + 1 := by omega
        have h2 : (lenK x.1 == p) = false := by simp; omega
        simp [h, h1, h2]; omega
      · have h1 : lenK x.1 < p + 1 := by omega
        have h2 : (lenK x.1 == p) = true := by simp [h]
        have h3 : ¬ lenK x.1 < p := by omega
        simp [h1, h2, h3]; omega
      · have h1 : ¬ lenK x.1 < p + 1 := by omega
        have h2 : (lenK x.1 == p) = false := by simp; omega
        have h3 : ¬ lenK x.1 < p := by omega
        simp [h1, h2, h3]; omega
theorem upto_zero (L : List Ent) : upto L 0 = 0 := by unfold upto; simp
/-- What sizes reckons. -/
theorem szS_is (L : List Ent) : ∀ p, (szS (cnt L) p).2.2 = upto L p ∧ (((szS (cnt L) p).1 = 0 ∧ (szS (cnt L) p).2.1 = 0) ∨ ∃ q, q < p ∧ (szS (cnt L) p).1 = 2 ^ q ∧ (szS (cnt L) p).2.1 = upto L (q + 1) ∧ 2 ^ q < 2 * (szS (cnt L) p).2.1)
  | 0 => ⟨by rw [upto_zero]; rfl, .inl ⟨rfl, rfl⟩⟩
  | p + 1 => by
    obtain ⟨h1, h2⟩ := szS_is L p
    have e : szS (cnt L) (p + 1) = if 2 ^ p < 2 * ((szS (cnt L) p).2.2 + cnt L p) then (2 ^ p, (szS (cnt L) p).2.2 + cnt L p, (szS (cnt L) p).2.2 + cnt L p) else ((szS (cnt L) p).1, (szS (cnt L) p).2.1, (szS (cnt L) p).2.2 + cnt L p) := by rw [szS]
    rw [e, upto_succ, ← h1]
    split
    · rename_i hlt
      exact ⟨rfl, .inr ⟨p, by omega, rfl, by rw [upto_succ, ← h1], hlt⟩⟩
    · refine ⟨rfl, ?_⟩
      rcases h2 with h2 | ⟨q, hq, h2⟩
      · exact .inl h2
      · exact .inr ⟨q, by omega, h2⟩
theorem filter_not (L : List Ent) (p : Ent → Bool) : (L.filter p).length + (L.filter fun e => !p e).length = L.length := by
  induction L with
  | nil => rfl
  | cons x L ih =>
    rw [List.filter_cons, List.filter_cons]
    cases h : p x <;> simp [h] <;> omega
theorem inArr_zero (k : Int × Int) : inArr 0 k = false := by
  unfold inArr
  cases k.1 == 2
  · rfl
  · by_cases h : 1 ≤ k.2
    · have : ¬ k.2 ≤ ((0 : Nat) : Int) := by omega
      rw [decide_eq_false this, Bool.and_false, Bool.and_false]
    · simp [h]
/-- The nodes are as many as the keys that need one. -/
theorem sz_outs (L : List Ent) : outs (szA L) L = L.length - (szS (cnt L) 13).2.1 := by
  obtain ⟨_, h⟩ := szS_is L 13
  unfold szA outs
  rcases h with ⟨h1, h2⟩ | ⟨q, hq, h1, h2, h3⟩
  · rw [h1, h2]
    have : (L.filter fun e => !inArr 0 e.1) = L := by
      rw [List.filter_eq_self]
      intro e _
      rw [inArr_zero]; rfl
    rw [this]; rfl
  · rw [h1, h2]
    have e1 : (fun e : Ent => !inArr (2 ^ q) e.1) = fun e => !(powB e.1 && decide (lenK e.1 < q + 1)) := by
      funext e; rw [inArr_pow (by omega)]
    rw [e1]
    have := filter_not L (fun e => powB e.1 && decide (lenK e.1 < q + 1))
    unfold upto
    omega
theorem sz_room (L : List Ent) (hl : L.length ≤ 256) : outs (szA L) L ≤ szN L ∧ (szN L ≠ 0 → szN L < 2 * outs (szA L) L) := by
  rw [sz_outs]
  unfold szN
  have h := pw2_facts (L.length - (szS (cnt L) 13).2.1) (by omega)
  refine ⟨h.1, fun hne => h.2.2.2 (fun e => hne ?_)⟩
  rw [e]; rfl

/-- Behind a renewal there is room for the new key. -/
theorem renew_room (a n : Nat) (sl : Sl) (k v : Int × Int) (hl : (ents a n sl 0).length ≤ 200) :
    (putR (szA (renL a n sl k)) (szN (renL a n sl k)) (putAll (szA (renL a n sl k)) (szN (renL a n sl k)) (fun _ => (0, 0)) (ents a n sl 0)) k v).1 = true := by
  apply put_ok
  cases hi : inArr (szA (renL a n sl k)) k
  · right
    have h1 := (sz_room (renL a n sl k) (by unfold renL; simp; omega)).1
    have h2 := putAll_occ (szA (renL a n sl k)) (szN (renL a n sl k)) (ents a n sl 0) (fun _ => (0, 0))
    rw [occ_zero] at h2
    have h3 : outs (szA (renL a n sl k)) (renL a n sl k) = outs (szA (renL a n sl k)) (ents a n sl 0) + 1 := by
      conv => lhs; arg 2; unfold renL
      unfold outs
      rw [List.filter_append, List.length_append]
      simp [hi]
    omega
  · exact .inl rfl

/-- Sizes do not ask for too much. -/
theorem sz_small (L : List Ent) (hl : L.length ≤ 256) : szA L + 2 * szN L ≤ 4 * L.length := by
  obtain ⟨_, h⟩ := szS_is L 13
  have hN := sz_room L hl
  have ho := sz_outs L
  have hlen := szS_len L 13
  have hA : szA L = (szS (cnt L) 13).1 := rfl
  rcases h with ⟨h1, h2⟩ | ⟨q, hq, h1, h2, h3⟩
  · rcases Nat.eq_zero_or_pos (szN L) with h0 | h0
    · omega
    · have := hN.2 (by omega); omega
  · rcases Nat.eq_zero_or_pos (szN L) with h0 | h0
    · omega
    · have := hN.2 (by omega); omega
end Go.Proofs.Ythefmfjlinpepaa

/- A table is a map: what is kept. -/
namespace Go.Proofs.Ythefmfjlinpepaa
open Go.RowKit Go.Shelf
set_option linter.unusedSimpArgs false
set_option linter.unusedVariables false

/-- A key as it is taken. -/
structure Nk (k : Int × Int) : Prop where
  b : keyB k.1 k.2 = true
  p : kyP k = k
theorem Nk.ne {k : Int × Int} (h : Nk k) : k.1 ≠ 0 := by
  intro h0
  have := h.b
  rw [h0] at this
  simp [keyB] at this
theorem Nk2 (x : Int) : Nk (2, x) := ⟨keyB2 x, by unfold kyP; simp only [kyT2, kyN2]⟩
theorem kyP_nk {k : Int × Int} (h : keyB k.1 k.2 = true) : Nk (kyP k) := by
  by_cases hw : whE k.1 k.2 = 0
  · have : kyP k = (2, whN k.1 k.2) := by unfold kyP kyT kyN; rw [if_pos hw, if_pos hw]
    rw [this]; exact Nk2 _
  · have : kyP k = k := by unfold kyP kyT kyN; rw [if_neg hw, if_neg hw]
    rw [this]; exact ⟨h, this⟩

/-- Each key in a node is found there. -/
structure Wf (a n : Nat) (sl : Sl) : Prop where
  nd : ∀ m : Nat, m < n → (sl ((a + 2 * m : Nat) : Int)).1 ≠ 0 → findR a n sl (sl ((a + 2 * m : Nat) : Int)) = ((a : Int) + 2 * (m : Int) + 1, true)
  ky : ∀ m : Nat, m < n → (sl ((a + 2 * m : Nat) : Int)).1 ≠ 0 → Nk (sl ((a + 2 * m : Nat) : Int))

theorem Wf.zero (a n : Nat) : Wf a n (fun _ => (0, 0)) := ⟨fun m _ h => absurd rfl h, fun m _ h => absurd rfl h⟩

/-- What put comes to. -/
theorem put_cases (a n : Nat) (sl : Sl) (k v : Int × Int) :
    ((findR a n sl k).2 = true ∧ putR a n sl k v = (true, sput sl (findR a n sl k).1 v) ∧ ((inArr a k = true ∧ (findR a n sl k).1 = k.2 - 1 ∧ 1 ≤ k.2 ∧ k.2 ≤ (a : Int) ∧ k.1 = 2) ∨ (inArr a k = false ∧ ∃ m : Nat, m < n ∧ (findR a n sl k).1 = (a : Int) + 2 * (m : Int) + 1 ∧ sl ((a + 2 * m : Nat) : Int) = k))) ∨
    ((findR a n sl k).2 = false ∧ (putR a n sl k v).2 = sl) ∨
    ((findR a n sl k).2 = false ∧ inArr a k = false ∧ v.1 ≠ 0 ∧ ∃ m : Nat, m < n ∧ findR a n sl k = ((a : Int) + 2 * (m : Int) + 1, false) ∧ (sl ((a + 2 * m : Nat) : Int)).1 = 0 ∧ putR a n sl k v = (true, sput (sput sl ((a : Int) + 2 * (m : Int)) k) ((a : Int) + 2 * (m : Int) + 1) v)) := by
  rcases findR_shape a n sl k with ⟨hi, he, h1, h2, h3⟩ | ⟨hi, he⟩ | ⟨hi, m, hm, he, ht, hf⟩
  · left
    have h : (findR a n sl k).2 = true := by rw [he]
    refine ⟨h, by unfold putR; rw [if_pos h], .inl ⟨hi, by rw [he], h1, h2, h3⟩⟩
  · right; left
    refine ⟨by rw [he], ?_⟩
    unfold putR
    rw [he]
    simp only [Bool.false_eq_true, if_false, if_true]
    split <;> rfl
  · by_cases h : (findR a n sl k).2 = true
    · left
      exact ⟨h, by unfold putR; rw [if_pos h], .inr ⟨hi, m, hm, he, ht h⟩⟩
    · have h' : (findR a n sl k).2 = false := by simpa using h
      by_cases h0 : v.1 = 0
      · right; left
        exact ⟨h', by unfold putR; rw [if_neg h, if_pos h0]⟩
      · right; right
        refine ⟨h', hi, h0, m, hm, Prod.ext he h', hf h', ?_⟩
        unfold putR
        rw [if_neg h, if_neg h0, if_neg (by omega), he, show (a : Int) + 2 * (m : Int) + 1 - 1 = (a : Int) + 2 * (m : Int) by omega]

/-- A key that is found stays where it is when a free node is filled. -/
theorem fnd_stay {a n : Nat} {sl sl' : Sl} {k : Int × Int} (hn : 0 < n) {m : Nat} (h : ∀ m' : Nat, m' < n → m' ≠ m → sl' ((a + 2 * m' : Nat) : Int) = sl ((a + 2 * m' : Nat) : Int)) (h0 : (sl ((a + 2 * m : Nat) : Int)).1 = 0) (hk : k.1 ≠ 0) :
    ∀ f i q, fnd a n sl k f i = (q, true) → fnd a n sl' k f i = (q, true) := by
  intro f
  induction f with
  | zero => intro i q e; simp [fnd] at e
  | succ f ih =>
    intro i q e
    obtain ⟨m', hm', hw⟩ := wayN_shape a n k i hn
    unfold fnd at e ⊢
    rw [hw] at e ⊢
    by_cases hmm : m' = m
    · subst hmm
      rw [if_neg (by intro e2; rw [e2] at h0; exact hk h0), if_pos h0] at e
      simp at e
    · rw [h m' hm' hmm]
      split at e
      · rename_i h1; rw [if_pos h1]; exact e
      · rename_i h1
        rw [if_neg h1]
        split at e
        · simp at e
        · rename_i h2; rw [if_neg h2]; exact ih _ _ e

theorem wf_put {a n : Nat} {sl : Sl} {k v : Int × Int} (hw : Wf a n sl) (hk : Nk k) : Wf a n (putR a n sl k v).2 := by
  rcases put_cases a n sl k v with ⟨hf, hp, hc⟩ | ⟨hf, hp⟩ | ⟨hf, hi, hv, m, hm, he, h0, hp⟩
  · rw [hp]
    have hs : ∀ m : Nat, m < n → sput sl (findR a n sl k).1 v ((a + 2 * m : Nat) : Int) = sl ((a + 2 * m : Nat) : Int) := by
      intro m hm
      apply sput_ne
      rcases hc with ⟨_, h1, h2, h3, _⟩ | ⟨_, m', hm', h1, _⟩
      · rw [h1]; omega
      · rw [h1]; omega
    refine ⟨fun m hm h => ?_, fun m hm h => ?_⟩
    · simp only at h ⊢
      rw [hs m hm] at h ⊢
      rw [findR_keys _ hs]; exact hw.nd m hm h
    · simp only at h ⊢
      rw [hs m hm] at h ⊢
      exact hw.ky m hm h
  · rw [hp]; exact hw
  · rw [hp]
    have hn : 0 < n := by omega
    have hs : ∀ m' : Nat, m' < n → m' ≠ m → sput (sput sl ((a : Int) + 2 * (m : Int)) k) ((a : Int) + 2 * (m : Int) + 1) v ((a + 2 * m' : Nat) : Int) = sl ((a + 2 * m' : Nat) : Int) := fun m' _ hne => by rw [sput_ne (by omega), sput_ne (by omega)]
    have hsm : sput (sput sl ((a : Int) + 2 * (m : Int)) k) ((a : Int) + 2 * (m : Int) + 1) v ((a + 2 * m : Nat) : Int) = k := by
      rw [sput_ne (by omega), show ((a + 2 * m : Nat) : Int) = (a : Int) + 2 * (m : Int) by omega]; exact sput_same
    refine ⟨fun m' hm' h => ?_, fun m' hm' h => ?_⟩
    · simp only at h ⊢
      by_cases hmm : m' = m
      · subst hmm
        rw [hsm]
        have e4 : fnd a n sl k n 0 = ((a : Int) + 2 * (m' : Int) + 1, false) := by
          have : findR a n sl k = fnd a n sl k n 0 := by unfold findR; rw [hi]; rfl
          rw [← this]; exact he
        unfold findR
        rw [hi]
        exact fnd_fill hn hm hs hsm n 0 e4
      · rw [hs m' hm' hmm] at h ⊢
        have h1 := hw.nd m' hm' h
        have hne : (sl ((a + 2 * m' : Nat) : Int)).1 ≠ 0 := h
        generalize sl ((a + 2 * m' : Nat) : Int) = k' at h1 hne ⊢
        have hia : inArr a k' = false := by
          cases hq : inArr a k'
          · rfl
          · have e5 : findR a n sl k' = (k'.2 - 1, true) := by unfold findR; rw [hq]; rfl
            simp only [inArr, Bool.and_eq_true, decide_eq_true_eq, beq_iff_eq] at hq
            rw [e5] at h1
            have := congrArg Prod.fst h1
            simp only at this
            omega
        unfold findR at h1 ⊢
        rw [hia] at h1 ⊢
        exact fnd_stay hn hs h0 hne n 0 _ h1
    · simp only at h ⊢
      by_cases hmm : m' = m
      · subst hmm; rw [hsm]; exact hk
      · rw [hs m' hm' hmm] at h ⊢; exact hw.ky m' hm' h

/-- A key that is not found is in no node. -/
theorem Wf.none {a n : Nat} {sl : Sl} (hw : Wf a n sl) {k : Int × Int} (hk : k.1 ≠ 0) (hf : (findR a n sl k).2 = false) (m : Nat) (hm : m < n) : sl ((a + 2 * m : Nat) : Int) ≠ k := by
  intro e
  have := hw.nd m hm (by rw [e]; exact hk)
  rw [e] at this
  rw [this] at hf
  cases hf
theorem find_true {a n : Nat} {sl : Sl} {k : Int × Int} (hf : (findR a n sl k).2 = true) : (inArr a k = true ∧ (findR a n sl k).1 = k.2 - 1 ∧ 1 ≤ k.2 ∧ k.2 ≤ (a : Int) ∧ k.1 = 2) ∨ (inArr a k = false ∧ ∃ m : Nat, m < n ∧ (findR a n sl k).1 = (a : Int) + 2 * (m : Int) + 1 ∧ sl ((a + 2 * m : Nat) : Int) = k) := by
  rcases findR_shape a n sl k with ⟨hi, he, h1, h2, h3⟩ | ⟨hi, he⟩ | ⟨hi, m, hm, he, ht, _⟩
  · exact .inl ⟨hi, by rw [he], h1, h2, h3⟩
  · rw [he] at hf; cases hf
  · exact .inr ⟨hi, m, hm, he, ht hf⟩
/-- Unlike keys are at unlike places. -/
theorem find_apart {a n : Nat} {sl : Sl} {k k' : Int × Int} (hf : (findR a n sl k).2 = true) (hf' : (findR a n sl k').2 = true) (hne : k' ≠ k) : (findR a n sl k').1 ≠ (findR a n sl k).1 := by
  intro e
  apply hne
  rcases find_true hf with ⟨_, h1, h2, h3, h4⟩ | ⟨_, m, hm, h1, h2⟩
  · rcases find_true hf' with ⟨_, g1, g2, g3, g4⟩ | ⟨_, m', hm', g1, g2⟩
    · exact Prod.ext (by omega) (by omega)
    · omega
  · rcases find_true hf' with ⟨_, g1, g2, g3, g4⟩ | ⟨_, m', hm', g1, g2⟩
    · omega
    · have : m' = m := by omega
      subst this
      rw [← g2, h2]

theorem gv_other {a n : Nat} {sl : Sl} {k v k' : Int × Int} (hw : Wf a n sl) (hk' : k'.1 ≠ 0) (hne : k' ≠ k) : gv a n (putR a n sl k v).2 k' = gv a n sl k' := by
  rcases put_cases a n sl k v with ⟨hf, hp, hc⟩ | ⟨hf, hp⟩ | ⟨hf, hi, hv, m, hm, he, h0, hp⟩
  · rw [hp]
    have hs : ∀ m : Nat, m < n → sput sl (findR a n sl k).1 v ((a + 2 * m : Nat) : Int) = sl ((a + 2 * m : Nat) : Int) := by
      intro m hm
      apply sput_ne
      rcases hc with ⟨_, h1, h2, h3, _⟩ | ⟨_, m', hm', h1, _⟩
      · rw [h1]; omega
      · rw [h1]; omega
    unfold gv
    simp only
    rw [findR_keys k' hs]
    by_cases hf' : (findR a n sl k').2 = true
    · rw [if_pos hf', if_pos hf', sput_ne (find_apart hf hf' hne)]
    · rw [if_neg hf', if_neg hf']
  · rw [hp]
  · rw [hp]
    have hn : 0 < n := by omega
    have hs : ∀ m' : Nat, m' < n → m' ≠ m → sput (sput sl ((a : Int) + 2 * (m : Int)) k) ((a : Int) + 2 * (m : Int) + 1) v ((a + 2 * m' : Nat) : Int) = sl ((a + 2 * m' : Nat) : Int) := fun m' _ hne => by rw [sput_ne (by omega), sput_ne (by omega)]
    have hsm : sput (sput sl ((a : Int) + 2 * (m : Int)) k) ((a : Int) + 2 * (m : Int) + 1) v ((a + 2 * m : Nat) : Int) = k := by
      rw [sput_ne (by omega), show ((a + 2 * m : Nat) : Int) = (a : Int) + 2 * (m : Int) by omega]; exact sput_same
    unfold gv
    simp only
    by_cases hf' : (findR a n sl k').2 = true
    · have e : findR a n (sput (sput sl ((a : Int) + 2 * (m : Int)) k) ((a : Int) + 2 * (m : Int) + 1) v) k' = findR a n sl k' := by
        cases hq : inArr a k'
        · have h1 : findR a n sl k' = ((findR a n sl k').1, true) := Prod.ext rfl hf'
          have h2 : fnd a n sl k' n 0 = ((findR a n sl k').1, true) := by
            have : findR a n sl k' = fnd a n sl k' n 0 := by unfold findR; rw [hq]; rfl
            rw [← this]; exact h1
          have h3 := fnd_stay hn hs h0 hk' n 0 _ h2
          rw [h1]
          conv => lhs; unfold findR
          rw [hq]; exact h3
        · unfold findR; rw [hq]; rfl
      rw [e, if_pos hf', if_pos hf']
      rcases find_true hf' with ⟨_, g1, g2, g3, g4⟩ | ⟨_, m', hm', g1, g2⟩
      · rw [sput_ne (by omega), sput_ne (by omega)]
      · have : m' ≠ m := by
          intro e2; subst e2
          rw [g2] at h0; exact hk' h0
        rw [sput_ne (by omega), sput_ne (by omega)]
    · have hf2 : (findR a n sl k').2 = false := by simpa using hf'
      have hno := hw.none hk' hf2
      have : (findR a n (sput (sput sl ((a : Int) + 2 * (m : Int)) k) ((a : Int) + 2 * (m : Int) + 1) v) k').2 = false := by
        cases hq : (findR a n (sput (sput sl ((a : Int) + 2 * (m : Int)) k) ((a : Int) + 2 * (m : Int) + 1) v) k').2
        · rfl
        · rcases find_true hq with ⟨g0, _⟩ | ⟨_, m', hm', g1, g2⟩
          · have : findR a n sl k' = (k'.2 - 1, true) := by unfold findR; rw [g0]; rfl
            rw [this] at hf2; cases hf2
          · exfalso
            by_cases hmm : m' = m
            · subst hmm; rw [hsm] at g2; exact hne g2.symm
            · rw [hs m' hm' hmm] at g2; exact hno m' hm' g2
      rw [this, if_neg hf', if_neg (by simp)]

/-- The entries, place by place. -/
theorem ents_map (a n : Nat) (sl : Sl) : ents a n sl 0 = ((List.range (a + n)).filter (okJ a sl)).map fun j => (keyAt a sl (plA a 0 j : Nat), sl (plA a 0 j : Nat)) := by
  have e : plN a n 0 = a + n := by unfold plN; have : (0 - a) / 2 = 0 := by omega
                                   rw [this]; omega
  unfold ents entsTo
  rw [e]
  generalize List.range (a + n) = l
  induction l with
  | nil => rfl
  | cons x l ih =>
    rw [List.filterMap_cons, List.filter_cons]
    have : okJ a sl x = okE a sl (plA a 0 x : Nat) := rfl
    rw [this]
    cases okE a sl (plA a 0 x : Nat)
    · simpa using ih
    · simpa using ih
theorem ok_find {a n : Nat} {sl : Sl} (hw : Wf a n sl) {j : Nat} (hj : j < a + n) (h : okJ a sl j = true) : findR a n sl (keyAt a sl (plA a 0 j : Nat)) = (((plA a 0 j : Nat) : Int), true) ∧ Nk (keyAt a sl (plA a 0 j : Nat)) ∧ (sl (plA a 0 j : Nat)).1 ≠ 0 := by
  unfold okJ okE at h
  rw [Bool.and_eq_true] at h
  obtain ⟨h1, h2⟩ := h
  have h2' : (sl (plA a 0 j : Nat)).1 ≠ 0 := by simpa using h2
  refine ⟨?_, ?_, h2'⟩
  · unfold keyAt
    rw [plA0]
    by_cases hja : j < a
    · rw [if_pos hja, if_pos (by omega)]
      have hi : inArr a (2, (j : Int) + 1) = true := by unfold inArr; simp; omega
      unfold findR
      rw [hi]
      simp
    · rw [if_neg hja, if_neg (by omega)]
      have e : ((a + 2 * (j - a) + 1 : Nat) : Int) - 1 = ((a + 2 * (j - a) : Nat) : Int) := by omega
      rw [e]
      have hk : (sl ((a + 2 * (j - a) : Nat) : Int)).1 ≠ 0 := by
        intro h0
        unfold keyAt at h1
        rw [plA0, if_neg hja, if_neg (by omega), e, h0] at h1
        simp [keyB] at h1
      rw [hw.nd (j - a) (by omega) hk]
      simp
  · unfold keyAt
    rw [plA0]
    by_cases hja : j < a
    · rw [if_pos hja, if_pos (by omega)]
      exact Nk2 _
    · rw [if_neg hja, if_neg (by omega)]
      have e : ((a + 2 * (j - a) + 1 : Nat) : Int) - 1 = ((a + 2 * (j - a) : Nat) : Int) := by omega
      rw [e]
      refine hw.ky (j - a) (by omega) ?_
      intro h0
      unfold keyAt at h1
      rw [plA0, if_neg hja, if_neg (by omega), e, h0] at h1
      simp [keyB] at h1
theorem plA_inj {a i j : Nat} (h : plA a 0 i = plA a 0 j) : i = j := by
  rw [plA0, plA0] at h
  split at h <;> split at h <;> omega
theorem ents_nodup {a n : Nat} {sl : Sl} (hw : Wf a n sl) : ((ents a n sl 0).map Prod.fst).Nodup := by
  rw [ents_map, List.map_map, List.Nodup, List.pairwise_map]
  refine List.Pairwise.imp_of_mem ?_ (List.Pairwise.filter _ (List.nodup_range (n := a + n)))
  intro i j hi hj hne e
  rw [List.mem_filter, List.mem_range] at hi hj
  have h1 := (ok_find hw hi.1 hi.2).1
  have h2 := (ok_find hw hj.1 hj.2).1
  simp only [Function.comp_apply] at e
  rw [e, h2] at h1
  have := congrArg Prod.fst h1
  simp only at this
  exact hne (plA_inj (a := a) (by omega))
theorem ents_gv {a n : Nat} {sl : Sl} (hw : Wf a n sl) {e : Ent} (he : e ∈ ents a n sl 0) : Nk e.1 ∧ e.2.1 ≠ 0 ∧ gv a n sl e.1 = e.2 := by
  rw [ents_map, List.mem_map] at he
  obtain ⟨j, hj, rfl⟩ := he
  rw [List.mem_filter, List.mem_range] at hj
  obtain ⟨h1, h2, h3⟩ := ok_find hw hj.1 hj.2
  refine ⟨h2, h3, ?_⟩
  unfold gv
  rw [h1, if_pos rfl]
theorem gv_ents {a n : Nat} {sl : Sl} {k : Int × Int} (hk : keyB k.1 k.2 = true) (h : (gv a n sl k).1 ≠ 0) : (k, gv a n sl k) ∈ ents a n sl 0 := by
  unfold gv at h ⊢
  by_cases hf : (findR a n sl k).2 = true
  · rw [if_pos hf] at h ⊢
    obtain ⟨j, hj, ho, he, hp⟩ := found_ent hf h hk
    rw [ents_map, List.mem_map]
    exact ⟨j, List.mem_filter.2 ⟨List.mem_range.2 hj, ho⟩, by rw [he, hp]⟩
  · rw [if_neg hf] at h; exact absurd rfl h

/-- All keys of a list are given their values. -/
theorem putAll_gv (a n : Nat) : ∀ (L : List Ent) (sl : Sl), Wf a n sl → (∀ e ∈ L, Nk e.1 ∧ e.2.1 ≠ 0) → (L.map Prod.fst).Nodup → occ a n sl + outs a L ≤ n →
    Wf a n (putAll a n sl L) ∧ (∀ e ∈ L, gv a n (putAll a n sl L) e.1 = e.2) ∧ ∀ k', k'.1 ≠ 0 → k' ∉ L.map Prod.fst → gv a n (putAll a n sl L) k' = gv a n sl k'
  | [], sl, hw, _, _, _ => ⟨hw, fun _ h => absurd h (by simp), fun _ _ _ => rfl⟩
  | e :: L, sl, hw, hk, hnd, ho => by
    rw [outs_cons] at ho
    have he := hk e List.mem_cons_self
    rw [List.map_cons, List.nodup_cons] at hnd
    have h1 := occ_put a n sl e.1 e.2
    have hok : (putR a n sl e.1 e.2).1 = true := by
      apply put_ok
      cases hi : inArr a e.1
      · right; rw [hi] at ho; simp at ho; omega
      · exact .inl rfl
    obtain ⟨g1, g2, g3⟩ := putAll_gv a n L (putR a n sl e.1 e.2).2 (wf_put hw he.1) (fun x hx => hk x (List.mem_cons_of_mem _ hx)) hnd.2 (by omega)
    have h3 : putAll a n sl (e :: L) = putAll a n (putR a n sl e.1 e.2).2 L := rfl
    rw [h3]
    refine ⟨g1, fun x hx => ?_, fun k' hk' hno => ?_⟩
    · rcases List.mem_cons.1 hx with rfl | hx
      · rw [g3 _ he.1.ne hnd.1]
        exact put_get hok he.1.ne (fun h0 => absurd h0 he.2)
      · exact g2 x hx
    · rw [List.map_cons, List.mem_cons] at hno
      rw [g3 k' hk' (fun h => hno (.inr h))]
      exact gv_other hw hk' (fun h => hno (.inl h))
end Go.Proofs.Ythefmfjlinpepaa

/- Set, Get: a table is a map. -/
namespace Go.Proofs.Ythefmfjlinpepaa
open Go.RowKit Go.Shelf
set_option linter.unusedSimpArgs false
set_option linter.unusedVariables false

/-- What a renewal keeps. -/
theorem renew_gv {a n : Nat} {sl : Sl} (hw : Wf a n sl) (hl : (ents a n sl 0).length ≤ 200) (k : Int × Int) :
    Wf (szA (renL a n sl k)) (szN (renL a n sl k)) (putAll (szA (renL a n sl k)) (szN (renL a n sl k)) (fun _ => (0, 0)) (ents a n sl 0)) ∧
    (∀ e ∈ ents a n sl 0, gv (szA (renL a n sl k)) (szN (renL a n sl k)) (putAll (szA (renL a n sl k)) (szN (renL a n sl k)) (fun _ => (0, 0)) (ents a n sl 0)) e.1 = e.2) ∧
    ∀ k', k'.1 ≠ 0 → k' ∉ (ents a n sl 0).map Prod.fst → gv (szA (renL a n sl k)) (szN (renL a n sl k)) (putAll (szA (renL a n sl k)) (szN (renL a n sl k)) (fun _ => (0, 0)) (ents a n sl 0)) k' = (0, 0) := by
  have h1 := (sz_room (renL a n sl k) (by unfold renL; simp; omega)).1
  have h2 : outs (szA (renL a n sl k)) (ents a n sl 0) ≤ outs (szA (renL a n sl k)) (renL a n sl k) := by
    conv => rhs; arg 2; unfold renL
    unfold outs
    rw [List.filter_append, List.length_append]
    omega
  obtain ⟨g1, g2, g3⟩ := putAll_gv (szA (renL a n sl k)) (szN (renL a n sl k)) (ents a n sl 0) (fun _ => (0, 0)) (Wf.zero _ _) (fun e he => ⟨(ents_gv hw he).1, (ents_gv hw he).2.1⟩) (ents_nodup hw) (by rw [occ_zero]; omega)
  refine ⟨g1, g2, fun k' hk' hno => ?_⟩
  rw [g3 k' hk' hno]
  unfold gv
  split <;> rfl

/-- Slots of a nil type have nothing. -/
def PlS (sl : Sl) : Prop := ∀ i, (sl i).1 = 0 → sl i = (0, 0)
theorem pl_put {a n : Nat} {sl : Sl} (h : PlS sl) {k v : Int × Int} (hk : k.1 ≠ 0) (hv : v.1 = 0 → v = (0, 0)) : PlS (putR a n sl k v).2 := by
  have hs : ∀ (s : Sl) (p : Int) (x : Int × Int), PlS s → (x.1 = 0 → x = (0, 0)) → PlS (sput s p x) := by
    intro s p x h1 h2 i hi
    unfold sput at hi ⊢
    split
    · rename_i e; rw [if_pos e] at hi; exact h2 hi
    · rename_i e; rw [if_neg e] at hi; exact h1 i hi
  unfold putR
  split
  · exact hs _ _ _ h hv
  · split
    · exact h
    · split
      · exact h
      · exact hs _ _ _ (hs _ _ _ h (fun h0 => absurd h0 hk)) hv
theorem pl_putAll {a n : Nat} : ∀ (L : List Ent) {sl : Sl}, PlS sl → (∀ e ∈ L, e.1.1 ≠ 0 ∧ e.2.1 ≠ 0) → PlS (putAll a n sl L)
  | [], _, h, _ => h
  | e :: L, sl, h, hL => by
    have he := hL e List.mem_cons_self
    exact pl_putAll L (pl_put h he.1 (fun h0 => absurd h0 he.2)) (fun x hx => hL x (List.mem_cons_of_mem _ hx))
theorem gv_pl {a n : Nat} {sl : Sl} (h : PlS sl) {k : Int × Int} (h0 : (gv a n sl k).1 = 0) : gv a n sl k = (0, 0) := by
  unfold gv at h0 ⊢
  split
  · rename_i e; rw [if_pos e] at h0; exact h _ h0
  · rfl

/-- What Set keeps of a table. -/
theorem set_wf {most : Int} {a n : Nat} {sl : Sl} {k v : Int × Int} (hw : Wf a n sl) (hl : (ents a n sl 0).length ≤ 200) : Wf (setR most a n sl k v).2.1 (setR most a n sl k v).2.2.1 (setR most a n sl k v).2.2.2 := by
  unfold setR
  by_cases h1 : (!keyB k.1 k.2 || v.1 == 11) = true
  · rw [if_pos h1]; exact hw
  · rw [if_neg h1]
    have hkb : keyB k.1 k.2 = true := by
      cases hq : keyB k.1 k.2
      · rw [hq] at h1; simp at h1
      · rfl
    have hnk := kyP_nk hkb
    split
    · exact wf_put hw hnk
    · split
      · exact hw
      · exact wf_put (renew_gv hw hl (kyP k)).1 hnk
/-- Set says no only of keys and values that may not be, where there is much room. -/
theorem set_ok {most : Int} {a n : Nat} {sl : Sl} {k v : Int × Int} (hl : (ents a n sl 0).length + 1 ≤ 100) (hm : 400 ≤ most) (hk : keyB k.1 k.2 = true) (hv : v.1 ≠ 11) : (setR most a n sl k v).1 = 0 := by
  unfold setR
  have hv' : (v.1 == 11) = false := by simpa using hv
  rw [hk, hv', if_neg (by simp)]
  split
  · rfl
  · have h1 := sz_small (renL a n sl (kyP k)) (by unfold renL; simp; omega)
    have h2 : (renL a n sl (kyP k)).length = (ents a n sl 0).length + 1 := by unfold renL; simp
    rw [if_neg (by omega)]
    simp only
    rw [renew_room a n sl (kyP k) v (by omega), if_pos rfl]
/-- Other keys than the one that is set have what they had, but for what is nil. -/
theorem set_other {most : Int} {a n : Nat} {sl : Sl} {k v k' : Int × Int} (hw : Wf a n sl) (hl : (ents a n sl 0).length ≤ 200) (hk' : Nk k') (hne : keyB k.1 k.2 = true → k' ≠ kyP k) :
    gv (setR most a n sl k v).2.1 (setR most a n sl k v).2.2.1 (setR most a n sl k v).2.2.2 k' = gv a n sl k' ∨ ((gv (setR most a n sl k v).2.1 (setR most a n sl k v).2.2.1 (setR most a n sl k v).2.2.2 k') = (0, 0) ∧ (gv a n sl k').1 = 0) := by
  unfold setR
  by_cases h1 : (!keyB k.1 k.2 || v.1 == 11) = true
  · rw [if_pos h1]; exact .inl rfl
  · rw [if_neg h1]
    have hkb : keyB k.1 k.2 = true := by
      cases hq : keyB k.1 k.2
      · rw [hq] at h1; simp at h1
      · rfl
    have hnk := kyP_nk hkb
    have hne' := hne hkb
    split
    · exact .inl (gv_other hw hk'.ne hne')
    · split
      · exact .inl rfl
      · obtain ⟨g1, g2, g3⟩ := renew_gv hw hl (kyP k)
        simp only
        rw [gv_other g1 hk'.ne hne']
        by_cases h0 : (gv a n sl k').1 = 0
        · right
          refine ⟨g3 k' hk'.ne (fun hm => ?_), h0⟩
          obtain ⟨e, he, rfl⟩ := List.mem_map.1 hm
          obtain ⟨_, h2, h3⟩ := ents_gv hw he
          rw [h3] at h0; exact h2 h0
        · left
          exact g2 _ (gv_ents hk'.b h0)
theorem set_pl {most : Int} {a n : Nat} {sl : Sl} {k v : Int × Int} (hw : Wf a n sl) (h : PlS sl) (hv : v.1 = 0 → v = (0, 0)) : PlS (setR most a n sl k v).2.2.2 := by
  unfold setR
  by_cases h1 : (!keyB k.1 k.2 || v.1 == 11) = true
  · rw [if_pos h1]; exact h
  · rw [if_neg h1]
    have hkb : keyB k.1 k.2 = true := by
      cases hq : keyB k.1 k.2
      · rw [hq] at h1; simp at h1
      · rfl
    have hnk := (kyP_nk hkb).ne
    split
    · exact pl_put h hnk hv
    · split
      · exact h
      · exact pl_put (pl_putAll _ (fun _ _ => rfl) (fun e he => ⟨(ents_gv hw he).1.ne, (ents_gv hw he).2.1⟩)) hnk hv
end Go.Proofs.Ythefmfjlinpepaa

/- TableWhole: the walk. -/
namespace Go.Proofs.Ythefmfjlinpepaa
open Go.RowKit Go.Shelf
set_option linter.unusedSimpArgs false
set_option linter.unusedVariables false
attribute [local go_sem] Oper.semAt_some

/-- Is nil zero? -/
def plB (v1 v2 : Int) : Bool := v1 != 0 || v2 == 0
set_option maxHeartbeats 1000000 in
theorem plain_any (v1 v2 : Int) (w : World) : Calls Try.prog 18 #[AV v1 v2] w fun e w' => e = .returned (.bool (plB v1 v2)) ∧ Below w.heap.size w w' := by
  unfold plB
  cases h : (v1 != 0)
  · have h' : (v1 == 0) = true := by simpa using h
    rw [Bool.false_or]
    go_enter Try.func18, Try.ntmps18
    go_wp2
    go_ret
    exact ⟨rfl, (Below.refl _ _).alloc (Nat.le_refl _) _⟩
  · have h' : (v1 == 0) = false := by simpa using h
    rw [Bool.true_or]
    go_enter Try.func18, Try.ntmps18
    go_wp2
    go_ret
    exact ⟨rfl, (Below.refl _ _).alloc (Nat.le_refl _) _⟩

/-- The table, the value's box, the float's box. -/
structure WB (w W0 : World) (P : Nat) (a n : Nat) (sl : Sl) (b : Nat) (v1 v2 : Int) (Bf : Nat) (fb : Int) (W : World) : Prop where
  re : Re W0 W P 400 a n sl b
  bv : W.heap[w.heap.size]? = some (.cells #[.int .i64 v1, .int .i64 v2] 33 (0, 0))
  bf : W.heap[Bf]? = some (.cells #[.int .i64 3, .int .i64 fb] 33 (0, 0))
theorem WB.no {w W0 : World} {P : Nat} {a n : Nat} {sl : Sl} {b : Nat} {v1 v2 : Int} {Bf : Nat} {fb : Int} {W W' : World} (h : WB w W0 P a n sl b v1 v2 Bf fb W) (hk : Kept No W W') : WB w W0 P a n sl b v1 v2 Bf fb W' := ⟨h.re.no hk, hk.heap h.bv id, hk.heap h.bf id⟩
theorem WB.cells {w W0 : World} {P : Nat} {a n : Nat} {sl : Sl} {b : Nat} {v1 v2 : Int} {Bf : Nat} {fb : Int} {W : World} (h : WB w W0 P a n sl b v1 v2 Bf fb W) : W.cell? ⟨w.heap.size, 0, none⟩ = some (.int .i64 v1) ∧ W.cell? ⟨w.heap.size, 1, none⟩ = some (.int .i64 v2) ∧ W.cell? ⟨Bf, 0, none⟩ = some (.int .i64 3) ∧ W.cell? ⟨Bf, 1, none⟩ = some (.int .i64 fb) := by
  refine ⟨?_, ?_, ?_, ?_⟩
  · rw [cell_of h.bv]; rfl
  · rw [cell_of h.bv]; rfl
  · rw [cell_of h.bf]; rfl
  · rw [cell_of h.bf]; rfl

set_option maxRecDepth 100000 in
set_option maxHeartbeats 8000000 in
theorem TableWhole_any (v : Value) (L : List Ac) (x : Int) (v1 v2 : Int) (w : World) (hL : Acts w v L) (hx : I64 x) (_ : I64 v1) (hv2 : I64 v2) :
    Calls Try.prog 10 #[v, .int .i64 x, AV v1 v2] w fun e w' => e = .returned (.bool true) ∧ Kept No w w' := by
  obtain ⟨W0, HW0⟩ : ∃ W0, Hid (W0 = w.alloc (.cells #[.int .i64 v1, .int .i64 v2] 33)) := ⟨_, show _ = _ from rfl⟩
  have HK0 : Hid (Kept No w W0) := by show Kept _ _ _; rw [HW0.out]; exact (Kept.refl _ _).alloc _
  have HB0 : Hid (W0.heap[w.heap.size]? = some (.cells #[.int .i64 v1, .int .i64 v2] 33 (0, 0))) := by show _ = _; rw [HW0.out]; exact heap_new1 w _
  have HM : Hid (Calls Try.prog 16 #[v] W0 fun e w' => e = .returned (MP W0.heap.size) ∧ ReS W0 w' W0.heap.size 400 (playR 400 (L.take 80)) 40000) := made_any v L W0 (hL.kept HK0.out)
  have hlen := playR_len 400 L 80
  obtain ⟨ao, cap, rfl, -, -⟩ := hL
  generalize playR 400 (L.take 80) = s at HM hlen
  obtain ⟨a, n, sl⟩ := s
  have HM' : Hid (Calls Try.prog 16 #[.slice ao L.length cap] W0 fun e w' => e = .returned (MP W0.heap.size) ∧ Re W0 w' W0.heap.size 400 a n sl 40000) := HM.out
  have HLn : Hid ((ents a n sl 0).length ≤ 200) := by show _ ≤ _; simp only at hlen; omega
  have HX : Hid (I64 x) := hx
  have HV2 : Hid (I64 v2) := hv2
  clear HM hlen hx hv2
  go_enter Try.func10, Try.ntmps10
  go_wp2_with fail
  rw [← HW0.out]
  refine HM'.out.mono ?_
  rintro e w1 ⟨rfl, h1⟩
  have R1 : Hid (Re W0 w1 W0.heap.size 400 a n sl 40000 ∧ w1.heap[w.heap.size]? = some (.cells #[.int .i64 v1, .int .i64 v2] 33 (0, 0))) := ⟨h1, h1.kp.heap HB0.out id⟩
  clear h1 HM' HW0 HB0
  go_wp2_with fail
  refine (Float_any _ _).mono ?_
  rintro e w2 ⟨rfl, hb2⟩
  have HFb : Hid (I64 (flt (floatOfInt FloatKind.f64 x))) := flt_i64 _
  generalize flt (floatOfInt FloatKind.f64 x) = fb at HFb ⊢
  generalize floatOfInt FloatKind.f64 x = fx
  have hk2 := Kept.of_below hb2
  have R2 : Hid (WB w W0 W0.heap.size a n sl 40000 v1 v2 w2.heap.size fb (w2.alloc (.cells #[.int .i64 3, .int .i64 fb] 33))) := ⟨(R1.out.1.no hk2).no ((Kept.refl _ _).alloc _), heap_old (hk2.heap R1.out.2 id) _, heap_new1 _ _⟩
  clear hb2 hk2 R1
  go_wp2_with fail
  generalize w2.alloc _ = w3 at R2 ⊢
  generalize w2.heap.size = Bf at R2 ⊢
  have HWh := Whole_any 3 fb w3 HFb.out.1 HFb.out.2
  have HKy : Hid (whE 3 fb = 0 → whN 3 fb = x → kyP (3, fb) = (2, x)) := by
    intro h1 h2
    unfold kyP kyT kyN
    simp only [h1, if_true, h2]
  generalize whN 3 fb = kk at HWh HKy
  generalize whE 3 fb = ee at HWh HKy
  have HWh' : Hid _ := HWh
  clear HWh
  refine Calls.mono HWh'.out ?_
  rintro e w4 ⟨rfl, hb4⟩
  have R4 : Hid (WB w W0 W0.heap.size a n sl 40000 v1 v2 Bf fb w4) := R2.out.no (Kept.of_below hb4)
  clear hb4 R2 HWh'
  obtain ⟨c0, c1, c2, c3⟩ := R4.out.cells
  go_wp2_with fail
  refine (no_any ee _).mono ?_
  rintro e w' ⟨rfl, rfl⟩
  by_cases hE : ee = 0
  case neg =>
    have hE1 : (ee == 0) = false := by simpa using hE
    have hE2 : (ee != 0) = true := by simpa using hE
    clear hE
    go_wp2_with fail
    refine (alive_any _).mono ?_
    rintro e wE ⟨rfl, hkE⟩
    have HE : Hid (Kept No w wE) := HK0.out.trans (R4.out.re.kp.trans hkE)
    clear hkE
    go_wp2
    go_ret
    exact ⟨rfl, HE.out⟩
  subst hE
  by_cases hK : kk = x
  case neg =>
    have hE1 : (kk == x) = false := by simpa using hK
    have hE2 : (kk != x) = true := by simpa using hK
    clear hK
    go_wp2_with fail
    refine (alive_any _).mono ?_
    rintro e wE ⟨rfl, hkE⟩
    have HE : Hid (Kept No w wE) := HK0.out.trans (R4.out.re.kp.trans hkE)
    clear hkE
    go_wp2
    go_ret
    exact ⟨rfl, HE.out⟩
  subst hK
  have hKy := HKy.out rfl rfl
  have HKy' : Hid (kyP (3, fb) = (2, kk)) := hKy
  clear HKy hKy
  have hkk : (kk != kk) = false := by simp
  by_cases hD : v1 = 11
  case pos =>
    have hE1 : (v1 == 11) = true := by simpa using hD
    go_wp2_with fail
    refine (alive_any _).mono ?_
    rintro e wE ⟨rfl, hkE⟩
    have HE : Hid (Kept No w wE) := HK0.out.trans (R4.out.re.kp.trans hkE)
    clear hkE
    go_wp2
    go_ret
    exact ⟨rfl, HE.out⟩
  have hD1 : (v1 == 11) = false := by simpa using hD
  clear hD
  go_wp2_with fail
  refine (plain_any v1 v2 _).mono ?_
  rintro e w5 ⟨rfl, hb5⟩
  have R5 : Hid (WB w W0 W0.heap.size a n sl 40000 v1 v2 Bf fb w5) := R4.out.no (Kept.of_below hb5)
  clear hb5 R4 c0 c1 c2 c3
  obtain ⟨c0, c1, c2, c3⟩ := R5.out.cells
  cases hpl : plB v1 v2
  case false =>
    go_wp2_with fail
    refine (alive_any _).mono ?_
    rintro e wE ⟨rfl, hkE⟩
    have HE : Hid (Kept No w wE) := HK0.out.trans (R5.out.re.kp.trans hkE)
    clear hkE
    go_wp2
    go_ret
    exact ⟨rfl, HE.out⟩
  have HPl : Hid (v1 = 0 → (v1, v2) = (0, 0)) := by
    intro h0
    unfold plB at hpl
    rw [h0] at hpl ⊢
    simp at hpl
    rw [hpl]
  clear hpl
  obtain ⟨r, hr⟩ : ∃ r, setR 400 a n sl (3, fb) (v1, v2) = r := ⟨_, rfl⟩
  obtain ⟨er, a', n', sl'⟩ := r
  have HSG : Hid (er = 0 → keyB 3 fb = true ∧ gv a' n' sl' (2, kk) = (v1, v2)) := by
    intro h0
    have h1 := set_get (most := 400) (a := a) (n := n) (sl := sl) (k := (3, fb)) (v := (v1, v2)) (by rw [hr]; exact h0) HPl.out
    rw [hr, HKy'.out] at h1
    exact h1
  have HS := R5.out.re.set' i64_400 (by omega) HLn.out (3, fb) (v1, v2) HFb.out HV2.out hr
  have HS' : Hid _ := HS
  clear hr HS
  go_wp2_with fail
  refine Calls.mono HS'.out ?_
  rintro e w6 ⟨rfl, h6, hfr⟩
  have R6 : Hid (WB w W0 W0.heap.size a' n' sl' 40500 v1 v2 Bf fb w6) := ⟨h6, hfr _ _ _ R5.out.bv (by decide), hfr _ _ _ R5.out.bf (by decide)⟩
  clear h6 hfr R5 HS' c0 c1 c2 c3
  obtain ⟨c0, c1, c2, c3⟩ := R6.out.cells
  go_wp2_with fail
  refine (no_any er _).mono ?_
  rintro e w' ⟨rfl, rfl⟩
  by_cases hE : er = 0
  case neg =>
    have hE1 : (er == 0) = false := by simpa using hE
    have hE2 : (er != 0) = true := by simpa using hE
    clear hE
    go_wp2_with fail
    refine (alive_any _).mono ?_
    rintro e wE ⟨rfl, hkE⟩
    have HE : Hid (Kept No w wE) := HK0.out.trans (R6.out.re.kp.trans hkE)
    clear hkE
    go_wp2
    go_ret
    exact ⟨rfl, HE.out⟩
  subst hE
  obtain ⟨hkb, hgv⟩ := HSG.out rfl
  have HG1 : Hid (getR a' n' sl' 2 kk = (v1, v2)) := by
    show _ = _
    rw [getR_gv, keyB2, if_pos rfl]
    unfold kyP
    simp only [kyT2, kyN2]
    exact hgv
  have HG2 : Hid (getR a' n' sl' 3 fb = (v1, v2)) := by
    show _ = _
    rw [getR_gv, hkb, if_pos rfl, HKy'.out]
    exact hgv
  have HNx : Hid (nextR a' n' sl' 3 fb = nextR a' n' sl' 2 kk) := by
    show _ = _
    unfold nextR
    rw [behR_ky hkb (keyB2 kk) (by rw [HKy'.out]; unfold kyP; simp only [kyT2, kyN2]) (by decide) (by decide)]
  clear hkb hgv HSG HKy'
  go_wp2_with fail
  refine (Int_any _ _).mono ?_
  rintro e w7 ⟨rfl, hb7⟩
  have R7 : Hid (WB w W0 W0.heap.size a' n' sl' 40500 v1 v2 Bf fb w7) := R6.out.no (Kept.of_below hb7)
  clear hb7 R6 c0 c1 c2 c3
  obtain ⟨r, hr⟩ : ∃ r, nextR a' n' sl' 2 kk = r := ⟨_, rfl⟩
  have HR2 : Hid (nextR a' n' sl' 3 fb = r) := by show _ = _; rw [HNx.out, hr]
  have HR1 : Hid (nextR a' n' sl' 2 kk = r) := hr
  clear hr HNx
  obtain ⟨⟨⟨p1, p2⟩, q1, q2⟩, re⟩ := r
  go_wp2_with fail
  refine (R7.out.re.nexts 2 kk HX.out _ HR1.out).mono ?_
  rintro e w8 ⟨rfl, hk8⟩
  have R8 : Hid (WB w W0 W0.heap.size a' n' sl' 40500 v1 v2 Bf fb ((w8.alloc (.cells #[.int .i64 p1, .int .i64 p2] 33)).alloc (.cells #[.int .i64 q1, .int .i64 q2] 33))) := (R7.out.no hk8).no (((Kept.refl _ _).alloc _).alloc _)
  have X8 : Hid (((w8.alloc (.cells #[.int .i64 p1, .int .i64 p2] 33)).alloc (.cells #[.int .i64 q1, .int .i64 q2] 33)).heap[w8.heap.size]? = some (.cells #[.int .i64 p1, .int .i64 p2] 33 (0, 0)) ∧ ((w8.alloc (.cells #[.int .i64 p1, .int .i64 p2] 33)).alloc (.cells #[.int .i64 q1, .int .i64 q2] 33)).heap[w8.heap.size + 1]? = some (.cells #[.int .i64 q1, .int .i64 q2] 33 (0, 0))) := by
    refine ⟨heap_old (heap_new1 _ _) _, ?_⟩
    have := heap_new1 (w8.alloc (.cells #[.int .i64 p1, .int .i64 p2] 33)) (.cells #[.int .i64 q1, .int .i64 q2] 33); rw [World.size_alloc] at this; exact this
  clear hk8 R7
  obtain ⟨c0, c1, c2, c3⟩ := R8.out.cells
  go_wp2_with fail
  generalize (w8.alloc _).alloc _ = w9 at R8 X8 c0 c1 c2 c3 ⊢
  generalize w8.heap.size = Bx at X8 ⊢
  refine (R8.out.re.nexts 3 fb HFb.out _ HR2.out).mono ?_
  rintro e w10 ⟨rfl, hk10⟩
  have R10 : Hid (WB w W0 W0.heap.size a' n' sl' 40500 v1 v2 Bf fb ((w10.alloc (.cells #[.int .i64 p1, .int .i64 p2] 33)).alloc (.cells #[.int .i64 q1, .int .i64 q2] 33))) := (R8.out.no hk10).no (((Kept.refl _ _).alloc _).alloc _)
  have X10 : Hid (((w10.alloc (.cells #[.int .i64 p1, .int .i64 p2] 33)).alloc (.cells #[.int .i64 q1, .int .i64 q2] 33)).heap[w10.heap.size]? = some (.cells #[.int .i64 p1, .int .i64 p2] 33 (0, 0)) ∧ ((w10.alloc (.cells #[.int .i64 p1, .int .i64 p2] 33)).alloc (.cells #[.int .i64 q1, .int .i64 q2] 33)).heap[w10.heap.size + 1]? = some (.cells #[.int .i64 q1, .int .i64 q2] 33 (0, 0)) ∧ ((w10.alloc (.cells #[.int .i64 p1, .int .i64 p2] 33)).alloc (.cells #[.int .i64 q1, .int .i64 q2] 33)).heap[Bx]? = some (.cells #[.int .i64 p1, .int .i64 p2] 33 (0, 0)) ∧ ((w10.alloc (.cells #[.int .i64 p1, .int .i64 p2] 33)).alloc (.cells #[.int .i64 q1, .int .i64 q2] 33)).heap[Bx + 1]? = some (.cells #[.int .i64 q1, .int .i64 q2] 33 (0, 0))) := by
    refine ⟨heap_old (heap_new1 _ _) _, ?_, heap_old (heap_old (hk10.heap X8.out.1 id) _) _, heap_old (heap_old (hk10.heap X8.out.2 id) _) _⟩
    have := heap_new1 (w10.alloc (.cells #[.int .i64 p1, .int .i64 p2] 33)) (.cells #[.int .i64 q1, .int .i64 q2] 33); rw [World.size_alloc] at this; exact this
  clear hk10 R8 X8 c0 c1 c2 c3
  go_wp2
  generalize (w10.alloc _).alloc _ = w11 at R10 X10 ⊢
  generalize w10.heap.size = By at X10 ⊢
  have hRL : Hid (∀ W, Below w11.heap.size w11 W → WB w W0 W0.heap.size a' n' sl' 40500 v1 v2 Bf fb W) := fun W hW => R10.out.no (Kept.of_below hW)
  have HC : Hid (∀ W, Below w11.heap.size w11 W → (W.cell? ⟨Bx, 0, none⟩ = some (.int .i64 p1) ∧ W.cell? ⟨Bx, 1, none⟩ = some (.int .i64 p2) ∧ W.cell? ⟨Bx + 1, 0, none⟩ = some (.int .i64 q1) ∧ W.cell? ⟨Bx + 1, 1, none⟩ = some (.int .i64 q2)) ∧ (W.cell? ⟨By, 0, none⟩ = some (.int .i64 p1) ∧ W.cell? ⟨By, 1, none⟩ = some (.int .i64 p2) ∧ W.cell? ⟨By + 1, 0, none⟩ = some (.int .i64 q1) ∧ W.cell? ⟨By + 1, 1, none⟩ = some (.int .i64 q2))) := fun W hW => by
    have hkw := Kept.of_below hW
    have p0 := hkw.heap X10.out.1 id
    have p1 := hkw.heap X10.out.2.1 id
    have p2 := hkw.heap X10.out.2.2.1 id
    have p3 := hkw.heap X10.out.2.2.2 id
    refine ⟨⟨?_, ?_, ?_, ?_⟩, ?_, ?_, ?_, ?_⟩
    · rw [cell_of p2]; rfl
    · rw [cell_of p2]; rfl
    · rw [cell_of p3]; rfl
    · rw [cell_of p3]; rfl
    · rw [cell_of p0]; rfl
    · rw [cell_of p0]; rfl
    · rw [cell_of p1]; rfl
    · rw [cell_of p1]; rfl
  have HKp : Hid (Kept No w w11) := HK0.out.trans R10.out.re.kp
  clear R10 X10
  refine region_quiet_class (C := fun w' => Below w11.heap.size w11 w') (by kernel_rfl) (by kernel_rfl) (Below.refl _ _).drew ?_
  refine q_op (MP W0.heap.size) (by kernel_rfl) (fun W hW => by simp [go_sem]) ?_
  try simp only [Act.put, List.setIfInBounds_toArray, List.set_cons_zero, List.set_cons_succ]
  refine q_op (MI W0.heap.size) (by kernel_rfl) (fun W hW => by simp [go_sem]) ?_
  try simp only [Act.put, List.setIfInBounds_toArray, List.set_cons_zero, List.set_cons_succ]
  refine q_op (.int .i64 kk) (by kernel_rfl) (fun W hW => by simp [go_sem]) ?_
  try simp only [Act.put, List.setIfInBounds_toArray, List.set_cons_zero, List.set_cons_succ]
  refine q_call 24 #[.int .i64 kk] (AV 2 kk) (by kernel_rfl) (fun W hW => by simp [go_sem]) (fun W hW => (Int_any kk W).mono (fun e w3 ⟨he, hb⟩ => ⟨he, Below.trans hW (hb.mono (Below.size hW))⟩)) ?_
  try simp only [Act.put, List.setIfInBounds_toArray, List.set_cons_zero, List.set_cons_succ]
  refine q_call 19 #[MI W0.heap.size, AV 2 kk] (AV v1 v2) (by kernel_rfl) (fun W hW => by simp [go_sem]) (fun W hW => ((hRL.out W hW).re.get 2 kk HX.out (v1, v2) HG1.out).mono (fun e w3 ⟨he, hb⟩ => ⟨he, Below.trans hW ((hb.below (Nat.le_refl _) (fun _ x => x.elim)).mono (Below.size hW))⟩)) ?_
  try simp only [Act.put, List.setIfInBounds_toArray, List.set_cons_zero, List.set_cons_succ]
  refine q_op (AV v1 v2) (by kernel_rfl) (fun W hW => by obtain ⟨r0, r1, r2, r3⟩ := (hRL.out W hW).cells; simp [go_sem, r0, r1]) ?_
  try simp only [Act.put, List.setIfInBounds_toArray, List.set_cons_zero, List.set_cons_succ]
  refine q_op (.bool true) (by kernel_rfl) (fun W hW => by simp [go_sem, eq33]) ?_
  try simp only [Act.put, List.setIfInBounds_toArray, List.set_cons_zero, List.set_cons_succ]
  refine q_op (.bool true) (by kernel_rfl) (fun W hW => by simp [go_sem]) ?_
  try simp only [Act.put, List.setIfInBounds_toArray, List.set_cons_zero, List.set_cons_succ]
  refine q_op (MP W0.heap.size) (by kernel_rfl) (fun W hW => by simp [go_sem]) ?_
  try simp only [Act.put, List.setIfInBounds_toArray, List.set_cons_zero, List.set_cons_succ]
  refine q_op (MI W0.heap.size) (by kernel_rfl) (fun W hW => by simp [go_sem]) ?_
  try simp only [Act.put, List.setIfInBounds_toArray, List.set_cons_zero, List.set_cons_succ]
  refine q_op (AV 3 fb) (by kernel_rfl) (fun W hW => by obtain ⟨r0, r1, r2, r3⟩ := (hRL.out W hW).cells; simp [go_sem, r2, r3]) ?_
  try simp only [Act.put, List.setIfInBounds_toArray, List.set_cons_zero, List.set_cons_succ]
  refine q_call 19 #[MI W0.heap.size, AV 3 fb] (AV v1 v2) (by kernel_rfl) (fun W hW => by simp [go_sem]) (fun W hW => ((hRL.out W hW).re.get 3 fb HFb.out (v1, v2) HG2.out).mono (fun e w3 ⟨he, hb⟩ => ⟨he, Below.trans hW ((hb.below (Nat.le_refl _) (fun _ x => x.elim)).mono (Below.size hW))⟩)) ?_
  try simp only [Act.put, List.setIfInBounds_toArray, List.set_cons_zero, List.set_cons_succ]
  refine q_op (AV v1 v2) (by kernel_rfl) (fun W hW => by obtain ⟨r0, r1, r2, r3⟩ := (hRL.out W hW).cells; simp [go_sem, r0, r1]) ?_
  try simp only [Act.put, List.setIfInBounds_toArray, List.set_cons_zero, List.set_cons_succ]
  refine q_op (.bool true) (by kernel_rfl) (fun W hW => by simp [go_sem, eq33]) ?_
  try simp only [Act.put, List.setIfInBounds_toArray, List.set_cons_zero, List.set_cons_succ]
  refine q_op (.bool true) (by kernel_rfl) (fun W hW => by simp [go_sem]) ?_
  try simp only [Act.put, List.setIfInBounds_toArray, List.set_cons_zero, List.set_cons_succ]
  refine q_op (.bool true) (by kernel_rfl) (fun W hW => by simp [go_sem]) ?_
  try simp only [Act.put, List.setIfInBounds_toArray, List.set_cons_zero, List.set_cons_succ]
  refine q_op (AV p1 p2) (by kernel_rfl) (fun W hW => by obtain ⟨⟨r0, r1, r2, r3⟩, s0, s1, s2, s3⟩ := HC.out W hW; simp [go_sem, r0, r1]) ?_
  try simp only [Act.put, List.setIfInBounds_toArray, List.set_cons_zero, List.set_cons_succ]
  refine q_op (AV p1 p2) (by kernel_rfl) (fun W hW => by obtain ⟨⟨r0, r1, r2, r3⟩, s0, s1, s2, s3⟩ := HC.out W hW; simp [go_sem, s0, s1]) ?_
  try simp only [Act.put, List.setIfInBounds_toArray, List.set_cons_zero, List.set_cons_succ]
  refine q_op (.bool true) (by kernel_rfl) (fun W hW => by simp [go_sem, eq33]) ?_
  try simp only [Act.put, List.setIfInBounds_toArray, List.set_cons_zero, List.set_cons_succ]
  refine q_op (.bool true) (by kernel_rfl) (fun W hW => by simp [go_sem]) ?_
  try simp only [Act.put, List.setIfInBounds_toArray, List.set_cons_zero, List.set_cons_succ]
  refine q_op (.bool true) (by kernel_rfl) (fun W hW => by simp [go_sem]) ?_
  try simp only [Act.put, List.setIfInBounds_toArray, List.set_cons_zero, List.set_cons_succ]
  refine q_op (AV q1 q2) (by kernel_rfl) (fun W hW => by obtain ⟨⟨r0, r1, r2, r3⟩, s0, s1, s2, s3⟩ := HC.out W hW; simp [go_sem, r2, r3]) ?_
  try simp only [Act.put, List.setIfInBounds_toArray, List.set_cons_zero, List.set_cons_succ]
  refine q_op (AV q1 q2) (by kernel_rfl) (fun W hW => by obtain ⟨⟨r0, r1, r2, r3⟩, s0, s1, s2, s3⟩ := HC.out W hW; simp [go_sem, s2, s3]) ?_
  try simp only [Act.put, List.setIfInBounds_toArray, List.set_cons_zero, List.set_cons_succ]
  refine q_op (.bool true) (by kernel_rfl) (fun W hW => by simp [go_sem, eq33]) ?_
  try simp only [Act.put, List.setIfInBounds_toArray, List.set_cons_zero, List.set_cons_succ]
  refine q_op (.bool true) (by kernel_rfl) (fun W hW => by simp [go_sem]) ?_
  try simp only [Act.put, List.setIfInBounds_toArray, List.set_cons_zero, List.set_cons_succ]
  refine q_op (.bool true) (by kernel_rfl) (fun W hW => by simp [go_sem]) ?_
  try simp only [Act.put, List.setIfInBounds_toArray, List.set_cons_zero, List.set_cons_succ]
  refine q_op (.int .i64 re) (by kernel_rfl) (fun W hW => by simp [go_sem]) ?_
  try simp only [Act.put, List.setIfInBounds_toArray, List.set_cons_zero, List.set_cons_succ]
  refine q_op (.int .i64 re) (by kernel_rfl) (fun W hW => by simp [go_sem]) ?_
  try simp only [Act.put, List.setIfInBounds_toArray, List.set_cons_zero, List.set_cons_succ]
  refine q_op (.bool true) (by kernel_rfl) (fun W hW => by simp [go_sem]) ?_
  try simp only [Act.put, List.setIfInBounds_toArray, List.set_cons_zero, List.set_cons_succ]
  refine q_op (.bool true) (by kernel_rfl) (fun W hW => by simp [go_sem]) ?_
  try simp only [Act.put, List.setIfInBounds_toArray, List.set_cons_zero, List.set_cons_succ]
  refine q_op (.bool true) (by kernel_rfl) (fun W hW => by simp [go_sem]) ?_
  try simp only [Act.put, List.setIfInBounds_toArray, List.set_cons_zero, List.set_cons_succ]
  refine q_call 13 #[] (.bool true) (by kernel_rfl) (fun W hW => by simp [go_sem]) (fun W hW => (alive_any W).mono (fun e w3 ⟨he, hb⟩ => ⟨he, Below.trans hW ((hb.below (Nat.le_refl _) (fun _ x => x.elim)).mono (Below.size hW))⟩)) ?_
  try simp only [Act.put, List.setIfInBounds_toArray, List.set_cons_zero, List.set_cons_succ]
  refine q_op (.bool true) (by kernel_rfl) (fun W hW => by simp [go_sem]) ?_
  try simp only [Act.put, List.setIfInBounds_toArray, List.set_cons_zero, List.set_cons_succ]
  refine q_op (.bool true) (by kernel_rfl) (fun W hW => by simp [go_sem]) ?_
  try simp only [Act.put, List.setIfInBounds_toArray, List.set_cons_zero, List.set_cons_succ]
  refine wpQuiet_nil ?_
  intro W3 H3
  have HE : Hid (Kept No w W3) := HKp.out.trans (Kept.of_below H3)
  clear H3
  go_wp2
  go_ret
  exact ⟨rfl, HE.out⟩
end Go.Proofs.Ythefmfjlinpepaa

/- The document's keys; what a table has behind calls. -/
namespace Go.Proofs.Ythefmfjlinpepaa
open Go.RowKit Go.Shelf
set_option linter.unusedSimpArgs false
set_option linter.unusedVariables false
attribute [local go_sem] Oper.semAt_some

/-- The document's key. -/
def rkV (t n : Int) : Int × Int := if keyB t n = true then kyP (t, n) else (t, n)
theorem nan_can : Fm.nanB (B 9221120237041090561) = true := by decide +kernel
theorem keyB3 (n : Int) : keyB 3 n = (isNum 3 n && !(n == 9221120237041090561)) := by
  unfold keyB
  rw [if_pos rfl]
  unfold isNum
  by_cases h : n = 9221120237041090561
  · subst h; rw [nan_can]; rfl
  · have : (n == 9221120237041090561) = false := by simpa using h
    rw [this]
    cases Fm.nanB (B n) <;> rfl

/-- Two boxes, and what lies in them later. -/
theorem boxes2 {w w1 : World} {t n : Int} (hb : Below ((w.alloc (.cells #[.int .i64 t, .int .i64 n] 33)).alloc (.cells #[.int .i64 0, .int .i64 0] 33)).heap.size ((w.alloc (.cells #[.int .i64 t, .int .i64 n] 33)).alloc (.cells #[.int .i64 0, .int .i64 0] 33)) w1) :
    (w1.cell? ⟨w.heap.size, 0, none⟩ = some (.int .i64 t) ∧ w1.cell? ⟨w.heap.size, 1, none⟩ = some (.int .i64 n)) ∧ (w1.cell? ⟨w.heap.size + 1, 0, none⟩ = some (.int .i64 0) ∧ w1.cell? ⟨w.heap.size + 1, 1, none⟩ = some (.int .i64 0)) ∧ (∀ o, w1.frozen? ⟨w.heap.size + 1, o, none⟩ = false) ∧ Below w.heap.size w w1 := by
  have hk := Kept.of_below hb
  have h0 : w1.heap[w.heap.size]? = some (.cells #[.int .i64 t, .int .i64 n] 33 (0, 0)) := hk.heap (heap_old (heap_new1 _ _) _) id
  have h1 : w1.heap[w.heap.size + 1]? = some (.cells #[.int .i64 0, .int .i64 0] 33 (0, 0)) := by
    refine hk.heap ?_ id
    have := heap_new1 (w.alloc (.cells #[.int .i64 t, .int .i64 n] 33)) (.cells #[.int .i64 0, .int .i64 0] 33); rw [World.size_alloc] at this; exact this
  refine ⟨⟨?_, ?_⟩, ⟨?_, ?_⟩, frozen_of h1, (((Below.refl _ _).alloc (Nat.le_refl _) _).alloc (by simp) _).trans (hb.mono (by simp; omega))⟩
  · rw [cell_of h0]; rfl
  · rw [cell_of h0]; rfl
  · rw [cell_of h1]; rfl
  · rw [cell_of h1]; rfl

set_option maxHeartbeats 2000000 in
theorem RK_no (t n : Int) (w : World) (h : t = 0 ∨ t = 11) : Calls Try.prog 17 #[AV t n] w fun e w' => e = .returned (.tuple #[iV (t, n), .bool false]) ∧ Below w.heap.size w w' := by
  rcases h with rfl | rfl
  all_goals (
    go_enter Try.func17, Try.ntmps17
    go_wp2
    exact bodyPost_ret (v := .tuple #[iV (_, n), .bool false]) (by simp [results, Try.results17, go_sem]) rfl ⟨rfl, ((Below.refl _ _).alloc (Nat.le_refl _) _).alloc (by simp) _⟩)
set_option maxHeartbeats 2000000 in
theorem RK_yes (t n : Int) (w : World) (h0 : (t == 0) = false) (h1 : (t == 11) = false) (h3 : (t == 3) = false) : Calls Try.prog 17 #[AV t n] w fun e w' => e = .returned (.tuple #[iV (kyP (t, n)), .bool true]) ∧ Below w.heap.size w w' := by
  have HRk : Hid (∀ W, Calls Try.prog 41 #[AV t n] W fun e w' => e = .returned (iV (kyP (t, n))) ∧ Below W.heap.size W w') := fun W => RKey_any t n W
  generalize kyP (t, n) = y at HRk ⊢
  obtain ⟨y1, y2⟩ := y
  go_enter Try.func17, Try.ntmps17
  go_wp2_with fail
  refine (HRk.out _).mono ?_
  rintro e w1 ⟨rfl, hb⟩
  obtain ⟨⟨d0, d1⟩, ⟨c0, c1⟩, f1, hb2⟩ := boxes2 hb
  have HB : Hid (Below w.heap.size w w1) := hb2
  clear hb hb2
  go_wp2
  exact bodyPost_ret (v := .tuple #[iV (y1, y2), .bool true]) (by simp [results, Try.results17, go_sem, c0, c1]) rfl ⟨rfl, (HB.out.setCell (by show _ ≤ w.heap.size + 1; omega) _).setCell (by show _ ≤ w.heap.size + 1; omega) _⟩
set_option maxHeartbeats 2000000 in
theorem RK_flt (n : Int) (w : World) : Calls Try.prog 17 #[AV 3 n] w fun e w' => e = .returned (.tuple #[iV (if keyB 3 n = true then kyP (3, n) else (3, n)), .bool (keyB 3 n)]) ∧ Below w.heap.size w w' := by
  rw [keyB3]
  have HI := RIs_any 3 n ((w.alloc (.cells #[.int .i64 3, .int .i64 n] 33)).alloc (.cells #[.int .i64 0, .int .i64 0] 33))
  have HI' : Hid _ := HI
  clear HI
  cases hi : isNum 3 n
  · rw [hi] at HI'
    rw [Bool.false_and, if_neg (by simp)]
    go_enter Try.func17, Try.ntmps17
    go_wp2_with fail
    refine Calls.mono HI'.out ?_
    rintro e w1 ⟨rfl, hb⟩
    obtain ⟨⟨d0, d1⟩, ⟨c0, c1⟩, f1, hb2⟩ := boxes2 hb
    have HB : Hid (Below w.heap.size w w1) := hb2
    clear hb hb2 HI'
    go_wp2
    exact bodyPost_ret (v := .tuple #[iV (3, n), .bool false]) (by simp [results, Try.results17, go_sem, c0, c1]) rfl ⟨rfl, (HB.out.setCell (by show _ ≤ w.heap.size + 1; omega) _).setCell (by show _ ≤ w.heap.size + 1; omega) _⟩
  · rw [hi] at HI'
    rw [Bool.true_and]
    cases hc : (n == 9221120237041090561)
    · rw [Bool.not_false, if_pos rfl]
      have HRk : Hid (∀ W, Calls Try.prog 41 #[AV 3 n] W fun e w' => e = .returned (iV (kyP (3, n))) ∧ Below W.heap.size W w') := fun W => RKey_any 3 n W
      generalize kyP (3, n) = y at HRk ⊢
      obtain ⟨y1, y2⟩ := y
      go_enter Try.func17, Try.ntmps17
      go_wp2_with fail
      refine Calls.mono HI'.out ?_
      rintro e w1 ⟨rfl, hb⟩
      obtain ⟨⟨d0, d1⟩, ⟨c0, c1⟩, f1, hb2⟩ := boxes2 hb
      have HB0 : Hid (Below ((w.alloc (.cells #[.int .i64 3, .int .i64 n] 33)).alloc (.cells #[.int .i64 0, .int .i64 0] 33)).heap.size ((w.alloc (.cells #[.int .i64 3, .int .i64 n] 33)).alloc (.cells #[.int .i64 0, .int .i64 0] 33)) w1) := hb
      clear hb hb2 HI' c0 c1 f1
      go_wp2_with fail
      refine (HRk.out _).mono ?_
      rintro e w2 ⟨rfl, hb⟩
      obtain ⟨⟨d2, d3⟩, ⟨c0, c1⟩, f1, hb2⟩ := boxes2 (HB0.out.trans (hb.mono HB0.out.size))
      have HB : Hid (Below w.heap.size w w2) := hb2
      clear hb hb2 HB0 d0 d1
      go_wp2
      exact bodyPost_ret (v := .tuple #[iV (y1, y2), .bool true]) (by simp [results, Try.results17, go_sem, c0, c1]) rfl ⟨rfl, (HB.out.setCell (by show _ ≤ w.heap.size + 1; omega) _).setCell (by show _ ≤ w.heap.size + 1; omega) _⟩
    · rw [Bool.not_true, if_neg (by simp)]
      go_enter Try.func17, Try.ntmps17
      go_wp2_with fail
      refine Calls.mono HI'.out ?_
      rintro e w1 ⟨rfl, hb⟩
      obtain ⟨⟨d0, d1⟩, ⟨c0, c1⟩, f1, hb2⟩ := boxes2 hb
      have HB : Hid (Below w.heap.size w w1) := hb2
      clear hb hb2 HI'
      go_wp2
      exact bodyPost_ret (v := .tuple #[iV (3, n), .bool false]) (by simp [results, Try.results17, go_sem, c0, c1]) rfl ⟨rfl, (HB.out.setCell (by show _ ≤ w.heap.size + 1; omega) _).setCell (by show _ ≤ w.heap.size + 1; omega) _⟩
theorem RK_any (t n : Int) (w : World) : Calls Try.prog 17 #[AV t n] w fun e w' => e = .returned (.tuple #[iV (rkV t n), .bool (keyB t n)]) ∧ Below w.heap.size w w' := by
  unfold rkV
  by_cases h3 : t = 3
  · subst h3; exact RK_flt n w
  · by_cases h0 : t = 0 ∨ t = 11
    · have e : keyB t n = false := by
        unfold keyB; rw [if_neg h3]
        rcases h0 with rfl | rfl <;> rfl
      rw [e, if_neg (by simp)]
      exact RK_no t n w h0
    · have e : keyB t n = true := by
        unfold keyB; rw [if_neg h3]
        simp only [Bool.and_eq_true, bne_iff_ne]
        exact ⟨fun h => h0 (.inl h), fun h => h0 (.inr h)⟩
      rw [e, if_pos rfl]
      exact RK_yes t n w (by simpa using fun h => h0 (.inl h)) (by simpa using fun h => h0 (.inr h)) (by simpa using h3)

/-- The value that a key was given last. -/
def wantR (own : Int × Int) (L : List Ac) : Int × Int := L.foldl (fun acc x => if x.kind = 1 ∧ keyB x.k.1 x.k.2 = true ∧ kyP x.k = own ∧ x.v.1 ≠ 11 then x.v else acc) (0, 0)
theorem wantR_snoc (own : Int × Int) (L : List Ac) (x : Ac) : wantR own (L ++ [x]) = if x.kind = 1 ∧ keyB x.k.1 x.k.2 = true ∧ kyP x.k = own ∧ x.v.1 ≠ 11 then x.v else wantR own L := by
  unfold wantR; rw [List.foldl_append]; rfl

/-- What a table is behind calls. -/
theorem play_wf (L : List Ac) : ∀ j, j ≤ 80 → Wf (playR 400 (L.take j)).1 (playR 400 (L.take j)).2.1 (playR 400 (L.take j)).2.2
  | 0, _ => by rw [List.take_zero]; exact Wf.zero 0 0
  | j + 1, hj => by
    have ih := play_wf L j (by omega)
    have hl := playR_len 400 L j
    rw [List.take_add_one]
    rcases h : L[j]? with _ | x
    · simp only [Option.toList_none, List.append_nil]; exact ih
    · simp only [Option.toList_some]
      rw [playR_snoc]
      unfold stepR
      split
      · exact set_wf ih (by omega)
      · exact ih
theorem play_gets (L : List Ac) (own : Int × Int) (hown : Nk own) : ∀ j, j ≤ 80 → (∀ x ∈ L.take j, x.kind = 1 → plB x.v.1 x.v.2 = true) → PlS (playR 400 (L.take j)).2.2 ∧ gv (playR 400 (L.take j)).1 (playR 400 (L.take j)).2.1 (playR 400 (L.take j)).2.2 own = wantR own (L.take j)
  | 0, _, _ => by
    rw [List.take_zero]
    refine ⟨fun _ _ => rfl, ?_⟩
    show gv 0 0 (fun _ => (0, 0)) own = (0, 0)
    unfold gv
    split <;> rfl
  | j + 1, hj, hp => by
    have hsub : ∀ x ∈ L.take j, x ∈ L.take (j + 1) := fun x hx => (List.take_subset_take_left L (Nat.le_succ j)) hx
    obtain ⟨ih1, ih2⟩ := play_gets L own hown j (by omega) (fun x hx => hp x (hsub x hx))
    have hw := play_wf L j (by omega)
    have hl := playR_len 400 L j
    rw [List.take_add_one] at hp ⊢
    rcases h : L[j]? with _ | x
    · simp only [Option.toList_none, List.append_nil]; exact ⟨ih1, ih2⟩
    · rw [h] at hp
      simp only [Option.toList_some] at hp ⊢
      rw [playR_snoc, wantR_snoc]
      unfold stepR
      by_cases hk1 : x.kind = 1
      · rw [if_pos hk1]
        have hpl := hp x (by simp) hk1
        have hv : x.v.1 = 0 → x.v = (0, 0) := by
          intro h0
          unfold plB at hpl
          rw [h0] at hpl
          simp at hpl
          exact Prod.ext h0 hpl
        refine ⟨set_pl hw ih1 hv, ?_⟩
        by_cases hkb : keyB x.k.1 x.k.2 = true
        · by_cases h11 : x.v.1 = 11
          · rw [if_neg (fun h => h.2.2.2 h11)]
            have : (setR 400 (playR 400 (L.take j)).1 (playR 400 (L.take j)).2.1 (playR 400 (L.take j)).2.2 x.k x.v) = (13, playR 400 (L.take j)) := by
              unfold setR
              rw [if_pos (by rw [h11]; simp)]
            rw [this]; exact ih2
          · have hok := set_ok (most := 400) (a := (playR 400 (L.take j)).1) (n := (playR 400 (L.take j)).2.1) (sl := (playR 400 (L.take j)).2.2) (k := x.k) (v := x.v) (by omega) (by omega) hkb h11
            by_cases hq : kyP x.k = own
            · rw [if_pos ⟨hk1, hkb, hq, h11⟩, ← hq]
              exact (set_get hok hv).2
            · rw [if_neg (fun h => hq h.2.2.1), ← ih2]
              rcases set_other (most := 400) (k := x.k) (v := x.v) hw (by omega) hown (fun _ e => hq e.symm) with h1 | ⟨h1, h2⟩
              · exact h1
              · rw [h1]; exact (gv_pl ih1 h2).symm
        · rw [if_neg (fun h => hkb h.2.1)]
          have : (setR 400 (playR 400 (L.take j)).1 (playR 400 (L.take j)).2.1 (playR 400 (L.take j)).2.2 x.k x.v) = (13, playR 400 (L.take j)) := by
            unfold setR
            rw [if_pos (by simp [hkb])]
          rw [this]; exact ih2
      · rw [if_neg hk1, if_neg (fun h => hk1 h.1)]
        exact ⟨ih1, ih2⟩
end Go.Proofs.Ythefmfjlinpepaa

/- Rows of values. -/
namespace Go.Proofs.Ythefmfjlinpepaa
open Go.RowKit Go.Shelf
set_option linter.unusedSimpArgs false
set_option linter.unusedVariables false

/-- Values as numbers. -/
def flatV (L : List (Int × Int)) : List Int := L.flatMap fun e => [e.1, e.2]
theorem flatV_len (L : List (Int × Int)) : (flatV L).length = L.length * 2 := by
  induction L with
  | nil => rfl
  | cons p ps ih => simp only [flatV, List.flatMap_cons, List.length_append, List.length_cons] at ih ⊢; simp at ih ⊢; omega
theorem flatV_append (a b : List (Int × Int)) : flatV (a ++ b) = flatV a ++ flatV b := by simp [flatV]
theorem flatV_get : ∀ (L : List (Int × Int)) (j : Nat) (e : Int × Int), L[j]? = some e → (ic (flatV L))[j * 2]? = some (.int .i64 e.1) ∧ (ic (flatV L))[j * 2 + 1]? = some (.int .i64 e.2)
  | [], _, _, h => by simp at h
  | p :: L, 0, e, h => by
    simp at h; subst h
    simp [flatV, ic]
  | p :: L, j + 1, e, h => by
    have ih := flatV_get L j e (by simpa using h)
    have e1 : ic (flatV (p :: L)) = Value.int .i64 p.1 :: Value.int .i64 p.2 :: ic (flatV L) := rfl
    rw [e1, show (j + 1) * 2 = j * 2 + 1 + 1 by omega]
    simpa using ih
theorem info33 : (Try.prog.info? 33).map (fun i => (i.zero, i.size, i.bytes)) = some (some (.agg #[.int .i64 0, .int .i64 0]), 2, 16) := by kernel_rfl

/-- A row of values that a call has made. -/
def VRow (w : World) (base : Nat) (v : Value) (L : List (Int × Int)) : Prop := w.ownsRow base 33 2 v L.length (ic (flatV L))
theorem VRow.nil (w : World) (base : Nat) : VRow w base (.slice none 0 0) [] := World.ownsRow_nil w base 33 2
theorem VRow.turn {w w' : World} {base : Nat} {v : Value} {L : List (Int × Int)} (h : VRow w base v L) (hk : ∀ k, v.ownBlock = some k → w'.heap[k]? = w.heap[k]?) : VRow w' base v L := by
  refine ⟨h.1, h.2.imp id ?_⟩
  rintro ⟨g, cap, cur, e1, e2, e3, r⟩
  refine ⟨g, cap, cur, e1, e2, ?_, r⟩
  rw [hk g (by rw [e1]; rfl)]; exact e3
theorem VRow.no {w w' : World} {base : Nat} {v : Value} {L : List (Int × Int)} (h : VRow w base v L) (hk : Kept No w w') : VRow w' base v L := h.turn (fun k hk' => hk.block k (World.ownsRow.lt h k hk').2 id)
theorem VRow.form {w : World} {base : Nat} {v : Value} {L : List (Int × Int)} (h : VRow w base v L) : ∃ ao c, v = .slice ao L.length c := by
  rcases h.2 with ⟨rfl, h0⟩ | ⟨g, cap, cur, rfl, _⟩
  · exact ⟨_, _, by rw [h0]⟩
  · exact ⟨_, _, rfl⟩
theorem VRow.block {w : World} {base : Nat} {v : Value} {L : List (Int × Int)} (h : VRow w base v L) {k : Nat} (hk : v.ownBlock = some k) : base ≤ k ∧ ∃ c, w.heap[k]? = some (.cells c 33 (0, 0)) := by
  rcases h.2 with ⟨rfl, h0⟩ | ⟨g, cap, cur, rfl, hb, hg, _⟩
  · cases hk
  · simp only [Value.ownBlock, Option.some.injEq] at hk
    subst hk
    exact ⟨hb, cur, hg⟩
theorem VRow.at {w : World} {base : Nat} {v : Value} {L : List (Int × Int)} (h : VRow w base v L) {j : Nat} {e : Int × Int} (he : L[j]? = some e) : ∃ b c, v = .slice (some ⟨b, 0, none⟩) L.length c ∧ w.cell? ⟨b, j * 2, none⟩ = some (.int .i64 e.1) ∧ w.cell? ⟨b, j * 2 + 1, none⟩ = some (.int .i64 e.2) := by
  have hj : j < L.length := (List.getElem?_eq_some_iff.1 he).1
  rcases h.2 with ⟨rfl, h0⟩ | ⟨g, cap, cur, rfl, _⟩
  · omega
  · obtain ⟨g0, g1⟩ := flatV_get L j e he
    exact ⟨g, cap, rfl, (World.ownsRow.cellAt h _ (by omega)).trans g0, (World.ownsRow.cellAt h _ (by omega)).trans g1⟩

/-- A value is appended. -/
theorem app_val {ops : Array Oper} {rest : List Oper} {o : Oper} {a : Act} {Q : Exit → Act → World → Prop} {w : World} (hgd : o.guard = none) (s x : Operand)
    (ho : o.op = .call { callee := .builtin .append, args := #[s, x], argTypes := #[26, 26] }) (base : Nat) (v : Value) (L : List (Int × Int)) (hs : a.eval s = v) (hrow : VRow w base v L)
    (N : Nat) (e : Int × Int) (hx : a.eval x = .slice (some ⟨N, 0, none⟩) 1 1) (hN : w.heap[N]? = some (.cells #[.int .i64 e.1, .int .i64 e.2] 33 (0, 0))) (hlen : L.length + 1 ≤ 1000000) (hbase : base ≤ w.heap.size)
    (h : ∀ v' w', Hid (VRow w' base v' (L ++ [e])) → Hid (w.grownBy w' v.ownBlock) → wpList Try.prog ops Q rest (a.put o.dst v') w') : wpList Try.prog ops Q (o :: rest) a w := by
  obtain ⟨i0, hi, hz0, hz1, hz2⟩ := info_parts info33
  refine wpList_append_own _ hgd s x 26 ho base 33 i0 _ 2 16 Try.underlying26 hi hz0 hz1 hz2 rfl (by decide) v L.length (ic (flatV L)) hs hrow ⟨N, 0, none⟩ 1 1 (ic (flatV [e])) hx rfl ?_ (ic_one _)
      (by unfold maxLen; omega) (by omega) hbase ?_
  · intro j u hu
    have hc := cell_of hN
    rcases j with _ | _ | j
    · simp [ic, flatV] at hu; subst hu; simpa [Addr.add] using hc 0
    · simp [ic, flatV] at hu; subst hu; simpa [Addr.add] using hc 1
    · simp [ic, flatV] at hu
  · intro v' w' h1 h2 h3
    refine h v' w' ?_ h2
    show World.ownsRow _ _ _ _ _ _ _
    rw [List.length_append, flatV_append, ic_append]; exact h1
/-- What an append leaves of a table. -/
theorem Re.grown {w W W' : World} {P : Nat} {most : Int} {a n : Nat} {sl : Sl} {b : Nat} (h : Re w W P most a n sl b) {v : Value} {L : List (Int × Int)} {base : Nat} (hr : VRow W base v L) (hb : w.heap.size ≤ base) {o : Obj} (hg : (W.alloc o).grownBy W' v.ownBlock) : Re w W' P most a n sl b ∧ Kept (fun k => v.ownBlock = some k) W W' := by
  have hk : Kept (fun k => v.ownBlock = some k) W W' := ((Kept.refl _ _).alloc o).grown hg (fun k hk => .inl hk)
  obtain ⟨nn, hnn, ht⟩ := h.tb
  have hn : ∀ k, v.ownBlock = some k → ¬ FP W P k := fun k hk hq => by
    obtain ⟨_, c, hc⟩ := hr.block hk
    rcases ht.kinds k hq with ⟨c', e', f', h1, h2⟩ | ⟨es, c', h1⟩
    · rw [hc] at h1; cases h1; cases h2
    · rw [hc] at h1; cases h1
  refine ⟨⟨⟨nn, hnn, ht.kept hk (fun k hq e => hn k e hq)⟩, fun k hq => h.fp k ?_, h.kp.trans' hk (fun i e => .inr (by have := (hr.block e).1; omega)), h.is⟩, hk⟩
  rcases hq with rfl | ⟨m', a2, n2, e⟩
  · exact .inl rfl
  · rw [hk.block P ht.lt (fun e => hn P e (.inl rfl))] at e
    exact .inr ⟨_, _, _, e⟩
end Go.Proofs.Ythefmfjlinpepaa

/- The order in which keys are met. -/
namespace Go.Proofs.Ythefmfjlinpepaa
open Go.RowKit Go.Shelf
set_option linter.unusedSimpArgs false
set_option linter.unusedVariables false

/-- The place of a key of an array slot, or of a node. -/
theorem plA_tail (a j i : Nat) : plA a (plA a 0 j + 1) i = plA a 0 (j + 1 + i) := by
  rw [plA0, plA0]
  unfold plA
  by_cases hj : j < a
  · rw [if_pos hj]
    have : (j + 1 - a) / 2 = 0 := by omega
    rw [this]
    split <;> split <;> omega
  · rw [if_neg hj]
    have h1 : (a + 2 * (j - a) + 1 + 1 - a) / 2 = j - a + 1 := by omega
    rw [h1, if_neg (by omega), if_neg (by omega)]
    omega
theorem plN_tail (a n j : Nat) (hj : j < a + n) : plN a n (plA a 0 j + 1) = a + n - (j + 1) := by
  rw [plA0]
  unfold plN
  by_cases hj : j < a
  · rw [if_pos hj]
    have : (j + 1 - a) / 2 = 0 := by omega
    rw [this]; omega
  · rw [if_neg hj]
    have h1 : (a + 2 * (j - a) + 1 + 1 - a) / 2 = j - a + 1 := by omega
    rw [h1]; omega
theorem plN0 (a n : Nat) : plN a n 0 = a + n := by
  unfold plN
  have : (0 - a) / 2 = 0 := by omega
  rw [this]; omega
/-- Entries are those up to a place, and those behind it. -/
theorem ents_split (a n : Nat) (sl : Sl) (j : Nat) (hj : j < a + n) : ents a n sl 0 = entsTo a sl 0 (j + 1) ++ ents a n sl (plA a 0 j + 1) := by
  unfold ents
  rw [plN_tail a n j hj, plN0]
  unfold entsTo
  conv => lhs; rw [show a + n = (j + 1) + (a + n - (j + 1)) by omega, List.range_add, List.filterMap_append, List.filterMap_map]
  congr 1
  congr 1
  funext i
  simp only [Function.comp_apply]
  rw [plA_tail]
theorem ents_part (a n : Nat) (sl : Sl) (j : Nat) (hj : j < a + n) (ho : okJ a sl j = true) : ents a n sl 0 = entsTo a sl 0 j ++ (keyAt a sl (plA a 0 j : Nat), sl (plA a 0 j : Nat)) :: ents a n sl (plA a 0 j + 1) := by
  rw [ents_split a n sl j hj, entsTo_succ]
  have : okE a sl (plA a 0 j : Nat) = true := ho
  rw [if_pos this, List.append_assoc]
  rfl
theorem nodup_at {α : Type} : ∀ (l : List α) (i j : Nat) (x : α), l.Nodup → l[i]? = some x → l[j]? = some x → i = j
  | [], _, _, _, _, h, _ => by simp at h
  | y :: l, 0, 0, _, _, _, _ => rfl
  | y :: l, 0, j + 1, x, hn, h1, h2 => by
    simp at h1 h2
    rw [List.nodup_cons] at hn
    subst h1
    exact absurd (List.mem_of_getElem? h2) hn.1
  | y :: l, i + 1, 0, x, hn, h1, h2 => by
    simp at h1 h2
    rw [List.nodup_cons] at hn
    subst h2
    exact absurd (List.mem_of_getElem? h1) hn.1
  | y :: l, i + 1, j + 1, x, hn, h1, h2 => by
    simp at h1 h2
    rw [List.nodup_cons] at hn
    rw [nodup_at l i j x hn.2 h1 h2]
/-- The i-th entry: where it is, and what lies behind it. -/
theorem ent_at {a n : Nat} {sl : Sl} (hw : Wf a n sl) {i : Nat} {e : Ent} (he : (ents a n sl 0)[i]? = some e) :
    ∃ j, j < a + n ∧ okJ a sl j = true ∧ e = (keyAt a sl (plA a 0 j : Nat), sl (plA a 0 j : Nat)) ∧ findR a n sl e.1 = (((plA a 0 j : Nat) : Int), true) ∧ (entsTo a sl 0 j).length = i ∧ ents a n sl (plA a 0 j + 1) = (ents a n sl 0).drop (i + 1) := by
  have hm := List.mem_of_getElem? he
  rw [ents_map, List.mem_map] at hm
  obtain ⟨j, hj, rfl⟩ := hm
  rw [List.mem_filter, List.mem_range] at hj
  have hp := ents_part a n sl j hj.1 hj.2
  have hi : (entsTo a sl 0 j).length = i := by
    refine nodup_at ((ents a n sl 0).map Prod.fst) _ _ (keyAt a sl (plA a 0 j : Nat)) (ents_nodup hw) ?_ ?_
    · rw [hp]; simp
    · rw [List.getElem?_map, he]; rfl
  refine ⟨j, hj.1, hj.2, rfl, (ok_find hw hj.1 hj.2).1, hi, ?_⟩
  conv => rhs; rw [hp, ← hi]
  rw [List.drop_append]
  simp
/-- Behind a key comes the next one. -/
theorem next_at {a n : Nat} {sl : Sl} (hw : Wf a n sl) {i : Nat} {e : Ent} (he : (ents a n sl 0)[i]? = some e) : nextR a n sl e.1.1 e.1.2 = (fstE ((ents a n sl 0).drop (i + 1)), 0) := by
  obtain ⟨j, hj, ho, _, hf, _, ht⟩ := ent_at hw he
  have hg := ents_gv hw (List.mem_of_getElem? he)
  have hk : (kyT e.1.1 e.1.2, kyN e.1.1 e.1.2) = e.1 := hg.1.p
  have hb : behR a n sl e.1.1 e.1.2 = (((plA a 0 j : Nat) : Int) + 1, true) := by
    unfold behR
    have h0 : (e.1.1 == 0) = false := by simpa using hg.1.ne
    rw [h0, if_neg (by simp), hg.1.b, if_pos rfl, hk, hf]
  unfold nextR
  rw [hb, if_pos rfl, ← ht]
  congr 3
theorem next_nil (a n : Nat) (sl : Sl) (x : Int) : nextR a n sl 0 x = (fstE (ents a n sl 0), 0) := by
  unfold nextR
  have hb : behR a n sl 0 x = (0, true) := rfl
  rw [hb, if_pos rfl]
  rfl
theorem drop_at {α : Type} (l : List α) (i : Nat) (x : α) (h : l[i]? = some x) : l.drop i = x :: l.drop (i + 1) := by
  obtain ⟨hi, e⟩ := List.getElem?_eq_some_iff.1 h
  rw [List.drop_eq_getElem_cons hi, e]
end Go.Proofs.Ythefmfjlinpepaa

/- Kill. -/
namespace Go.Proofs.Ythefmfjlinpepaa
open Go.RowKit Go.Shelf
set_option linter.unusedSimpArgs false
set_option linter.unusedVariables false
attribute [local go_sem] Oper.semAt_some

/-- The slots behind Kill. -/
def killR (a n : Nat) (sl : Sl) (i : Int) : Sl :=
  if vpB a n i = true then (if (decide (4 ≤ (keyAt a (sput sl i (0, 0)) i).1) && decide ((keyAt a (sput sl i (0, 0)) i).1 ≤ 9)) = true then sput (sput sl i (0, 0)) (i - 1) (11, (keyAt a (sput sl i (0, 0)) i).2) else sput sl i (0, 0)) else sl

theorem vpB_rng {a n : Nat} {i : Int} (h : vpB a n i = true) : 0 ≤ i ∧ i < (a : Int) + 2 * (n : Int) ∧ ((a : Int) ≤ i → (a : Int) + 1 ≤ i) := by
  simp only [vpB, Bool.and_eq_true, Bool.or_eq_true, decide_eq_true_eq] at h
  omega

set_option maxRecDepth 20000 in
set_option maxHeartbeats 2000000 in
theorem Kill_any {w : World} {P : Nat} {most : Int} {a n nn : Nat} {sl : Sl} (h : Tb w P most a n nn sl) (hn : nn ≤ 999990) (i : Int) (hi : I64 i) :
    Calls Try.prog 30 #[MI P, .int .i64 i] w fun e w' => e = .returned (.tuple #[]) ∧ (∃ nn', nn' ≤ nn + 2 ∧ Tb w' P most a n nn' (killR a n sl i)) ∧ Own w P w' := by
  have hmS := mSetSlot P
  obtain ⟨q1, q2⟩ := h.bd
  have hlt := h.lt
  have HT : Hid (Tb w P most a n nn sl) := h
  have HV : Hid (Calls Try.prog 58 #[MI P, .int .i64 i] w fun e w' => e = .returned (.bool (vpB a n i)) ∧ w = w') := isValuePlace_any h i hi
  clear h hi
  cases hv : vpB a n i
  · have HG : Hid (killR a n sl i = sl) := by show _ = _; unfold killR; rw [hv]; rfl
    rw [hv] at HV
    clear hv
    go_enter Try.func30, Try.ntmps30
    go_wp2_with (go_at_call 58; refine HV.out.mono ?_; rintro e w' ⟨rfl, rfl⟩)
    refine bodyPost_ret (results_none rfl _ _ _) rfl ?_
    exact ⟨rfl, ⟨nn, by omega, by rw [HG.out]; exact HT.out⟩, Own.of_no (Kept.refl _ _) hlt⟩
  · obtain ⟨r1, r2, r3⟩ := vpB_rng hv
    obtain ⟨s1, hs1⟩ : ∃ s1, s1 = sput sl i (0, 0) := ⟨_, rfl⟩
    obtain ⟨kk, hkk⟩ : ∃ kk, keyAt a s1 i = kk := ⟨_, rfl⟩
    have HG : Hid (killR a n sl i = if (decide (4 ≤ kk.1) && decide (kk.1 ≤ 9)) = true then sput s1 (i - 1) (11, kk.2) else s1) := by
      show _ = _; unfold killR; rw [hv, ← hs1, hkk]; rfl
    have HR : Hid ((decide (4 ≤ kk.1) && decide (kk.1 ≤ 9)) = true → 0 ≤ i - 1) := by
      intro ho
      rcases Int.lt_or_le i (a : Int) with h1 | h1
      · rw [← hkk, keyAt, if_pos h1] at ho; simp at ho
      · have := r3 h1; omega
    have HS1 : Hid (Calls Try.prog 31 #[MP P, .int .i64 i, AV 0 0] w fun e w' => e = .returned (.tuple #[]) ∧ Tb w' P most a n (nn + 1) s1 ∧ Own w P w') := by
      show Calls _ _ _ _ _; rw [hs1]; exact SetSlot_in HT.out i 0 0 ⟨r1, r2⟩ (by omega)
    have HKk : Hid (keyAt a s1 i = kk) := hkk
    rw [hv] at HV
    clear hv hs1 hkk r3
    obtain ⟨k1, k2⟩ := kk
    simp only at HG HR
    go_enter Try.func30, Try.ntmps30
    go_wp2_with (go_at_call 58; refine HV.out.mono ?_; rintro e w' ⟨rfl, rfl⟩)
    refine HS1.out.mono ?_
    rintro e w1 ⟨rfl, ht1, ho1⟩
    have HT1 : Hid (Tb w1 P most a n (nn + 1) s1 ∧ Own w P w1 ∧ P < w1.heap.size) := ⟨ht1, ho1, ht1.lt⟩
    have HKo : Hid (Calls Try.prog 59 #[MI P, .int .i64 i] w1 fun e w' => e = .returned (iV (k1, k2)) ∧ Below w1.heap.size w1 w') := by
      have := keyOf_any ht1 i r1 (by omega); rw [HKk.out] at this; exact this
    clear ht1 ho1 HS1 HV
    go_wp2_with fail
    refine HKo.out.mono ?_
    rintro e w2 ⟨rfl, hb2⟩
    have HK2 : Hid (Kept No w1 w2) := Kept.of_below hb2
    clear hb2 HKo
    go_wp2_with fail
    refine (isObject_any k1 k2 _).mono ?_
    rintro e w3 ⟨rfl, hb3⟩
    have HK3 : Hid (Kept No w1 w3) := (HK2.out.alloc _).trans (Kept.of_below hb3)
    have b3 : w3.heap[w2.heap.size]? = some (.cells #[.int .i64 k1, .int .i64 k2] 33 (0, 0)) := (Kept.of_below hb3).heap (heap_new1 w2 _) id
    have c1 : w3.cell? ⟨w2.heap.size, 1, none⟩ = some (.int .i64 k2) := by rw [cell_of b3]; rfl
    clear hb3 b3
    cases ho : (decide (4 ≤ k1) && decide (k1 ≤ 9))
    · rw [ho] at HG
      clear ho
      go_wp2_with fail
      go_end0
      refine ⟨rfl, ⟨nn + 1, by omega, ?_⟩, HT1.out.2.1.trans (Own.of_no HK3.out HT1.out.2.2)⟩
      rw [HG.out]
      exact HT1.out.1.no HK3.out
    · have r0 := HR.out ho
      rw [ho] at HG
      clear ho
      have HS2 : Hid (Calls Try.prog 31 #[MP P, .int .i64 (i - 1), AV 11 k2] w3 fun e w' => e = .returned (.tuple #[]) ∧ Tb w' P most a n (nn + 1 + 1) (sput s1 (i - 1) (11, k2)) ∧ Own w3 P w') := SetSlot_in (HT1.out.1.no HK3.out) (i - 1) 11 k2 ⟨r0, by omega⟩ (by omega)
      go_wp2_with fail
      refine HS2.out.mono ?_
      rintro e w4 ⟨rfl, ht4, ho4⟩
      have HE : Hid ((∃ nn', nn' ≤ nn + 2 ∧ Tb w4 P most a n nn' (killR a n sl i)) ∧ Own w P w4) := by
        refine ⟨⟨nn + 1 + 1, by omega, ?_⟩, (HT1.out.2.1.trans (Own.of_no HK3.out HT1.out.2.2)).trans ho4⟩
        rw [HG.out]; exact ht4
      clear ht4 ho4 HS2
      go_wp2_with fail
      go_end0
      exact ⟨rfl, HE.out⟩
end Go.Proofs.Ythefmfjlinpepaa

/- Sizes behind a renewal. -/
namespace Go.Proofs.Ythefmfjlinpepaa
open Go.RowKit Go.Shelf
set_option linter.unusedSimpArgs false
set_option linter.unusedVariables false

/-- Array slots that have a value, among the first q. -/
def cA (sl : Sl) (q : Nat) : Nat := ((List.range q).filter fun j : Nat => (sl (j : Int)).1 != 0).length
/-- Nodes that have a value, among the first q. -/
def cN (a : Nat) (sl : Sl) (q : Nat) : Nat := ((List.range q).filter fun m : Nat => (sl ((a : Int) + 2 * (m : Int) + 1)).1 != 0).length
theorem cA_succ (sl : Sl) (q : Nat) : cA sl (q + 1) = cA sl q + (if (sl (q : Int)).1 = 0 then 0 else 1) := by
  unfold cA
  rw [List.range_succ, List.filter_append, List.length_append]
  congr 1
  by_cases h : (sl (q : Int)).1 = 0
  · simp [h]
  · simp [h]
theorem cN_succ (a : Nat) (sl : Sl) (q : Nat) : cN a sl (q + 1) = cN a sl q + (if (sl ((a : Int) + 2 * (q : Int) + 1)).1 = 0 then 0 else 1) := by
  unfold cN
  rw [List.range_succ, List.filter_append, List.length_append]
  congr 1
  by_cases h : (sl ((a : Int) + 2 * (q : Int) + 1)).1 = 0
  · simp [h]
  · simp [h]
theorem cA_le (sl : Sl) (q : Nat) : cA sl q ≤ q := by
  have := List.length_filter_le (fun j : Nat => (sl (j : Int)).1 != 0) (List.range q)
  rw [List.length_range] at this; exact this
theorem cN_le (a : Nat) (sl : Sl) (q : Nat) : cN a sl q ≤ q := by
  have := List.length_filter_le (fun m : Nat => (sl ((a : Int) + 2 * (m : Int) + 1)).1 != 0) (List.range q)
  rw [List.length_range] at this; exact this

theorem nodup_map_on {α β : Type} [DecidableEq β] (f : α → β) (l : List α) (hn : l.Nodup) (hi : ∀ x ∈ l, ∀ y ∈ l, x ≠ y → f x ≠ f y) : (l.map f).Nodup := by
  rw [List.Nodup, List.pairwise_map]
  exact List.Pairwise.imp_of_mem (fun hx hy hne => hi _ hx _ hy hne) hn

/-- Each key of a list that is given values has its own place. -/
theorem all_in (a n : Nat) (sl : Sl) (L : List Ent) (hnd : (L.map Prod.fst).Nodup) (hg : ∀ e ∈ L, gv a n sl e.1 = e.2 ∧ e.2.1 ≠ 0) :
    (L.filter fun e => inArr a e.1).length ≤ cA sl a ∧ outs a L ≤ cN a sl n := by
  have hfound : ∀ e ∈ L, (findR a n sl e.1).2 = true ∧ sl (findR a n sl e.1).1 = e.2 := by
    intro e he
    obtain ⟨h1, h2⟩ := hg e he
    unfold gv at h1
    by_cases hf : (findR a n sl e.1).2 = true
    · rw [if_pos hf] at h1; exact ⟨hf, h1⟩
    · rw [if_neg hf] at h1; rw [← h1] at h2; exact absurd rfl h2
  have hndL : L.Nodup := by
    have := hnd
    rw [List.Nodup, List.pairwise_map] at this
    exact this.imp (fun h e => h (by rw [e]))
  have hkeys : ∀ x ∈ L, ∀ y ∈ L, x ≠ y → x.1 ≠ y.1 := by
    intro x hx y hy hne e
    have h1 := (hfound x hx).2
    have h2 := (hfound y hy).2
    rw [e] at h1
    exact hne (Prod.ext e (h1.symm.trans h2))
  have hap : ∀ x ∈ L, ∀ y ∈ L, x ≠ y → (findR a n sl x.1).1 ≠ (findR a n sl y.1).1 := fun x hx y hy hne =>
    find_apart (hfound y hy).1 (hfound x hx).1 (hkeys x hx y hy hne)
  constructor
  · have h := nodup_le ((L.filter fun e => inArr a e.1).map fun e => (e.1.2 - 1).toNat) ((List.range a).filter fun j : Nat => (sl (j : Int)).1 != 0) ?_ ?_
    · rw [List.length_map] at h; exact h
    · refine nodup_map_on _ _ (List.Pairwise.filter _ hndL) ?_
      intro x hx y hy hne e
      rw [List.mem_filter] at hx hy
      rcases find_true (hfound x hx.1).1 with ⟨_, g1, g2, g3, _⟩ | ⟨g0, _⟩
      · rcases find_true (hfound y hy.1).1 with ⟨_, f1, f2, f3, _⟩ | ⟨f0, _⟩
        · exact hap x hx.1 y hy.1 hne (by omega)
        · rw [f0] at hy; exact absurd hy.2 (by simp)
      · rw [g0] at hx; exact absurd hx.2 (by simp)
    · intro j hj
      obtain ⟨e, he, rfl⟩ := List.mem_map.1 hj
      rw [List.mem_filter] at he
      rcases find_true (hfound e he.1).1 with ⟨_, g1, g2, g3, _⟩ | ⟨g0, _⟩
      · rw [List.mem_filter, List.mem_range]
        refine ⟨by omega, ?_⟩
        have h1 := (hfound e he.1).2
        rw [g1] at h1
        have e2 : (((e.1.2 - 1).toNat : Nat) : Int) = e.1.2 - 1 := by omega
        rw [e2, h1]
        simpa using (hg e he.1).2
      · rw [g0] at he; exact absurd he.2 (by simp)
  · unfold outs
    have h := nodup_le ((L.filter fun e => !inArr a e.1).map fun e => (((findR a n sl e.1).1 - (a : Int) - 1) / 2).toNat) ((List.range n).filter fun m : Nat => (sl ((a : Int) + 2 * (m : Int) + 1)).1 != 0) ?_ ?_
    · rw [List.length_map] at h; exact h
    · refine nodup_map_on _ _ (List.Pairwise.filter _ hndL) ?_
      intro x hx y hy hne e
      rw [List.mem_filter] at hx hy
      rcases find_true (hfound x hx.1).1 with ⟨g0, _⟩ | ⟨_, m, hm, g1, _⟩
      · rw [g0] at hx; exact absurd hx.2 (by simp)
      · rcases find_true (hfound y hy.1).1 with ⟨f0, _⟩ | ⟨_, m', hm', f1, _⟩
        · rw [f0] at hy; exact absurd hy.2 (by simp)
        · exact hap x hx.1 y hy.1 hne (by rw [g1, f1] at e ⊢; omega)
    · intro j hj
      obtain ⟨e, he, rfl⟩ := List.mem_map.1 hj
      rw [List.mem_filter] at he
      rcases find_true (hfound e he.1).1 with ⟨g0, _⟩ | ⟨_, m, hm, g1, _⟩
      · rw [g0] at he; exact absurd he.2 (by simp)
      · have e2 : (((findR a n sl e.1).1 - (a : Int) - 1) / 2).toNat = m := by rw [g1]; omega
        rw [e2, List.mem_filter, List.mem_range]
        refine ⟨hm, ?_⟩
        have h1 := (hfound e he.1).2
        rw [g1] at h1
        rw [h1]
        simpa using (hg e he.1).2

theorem filter_app (a : Nat) (L : List Ent) (k x y : Int × Int) : ((L ++ [(k, x)]).filter fun e => inArr a e.1).length = ((L ++ [(k, y)]).filter fun e => inArr a e.1).length ∧ outs a (L ++ [(k, x)]) = outs a (L ++ [(k, y)]) := by
  unfold outs
  rw [List.filter_append, List.filter_append, List.length_append, List.length_append, List.filter_append, List.filter_append, List.length_append, List.length_append]
  cases h : inArr a k <;> simp [h]

/-- Behind a renewal no part is spare by half. -/
theorem renew_sizes {a n : Nat} {sl : Sl} {k v : Int × Int} (hw : Wf a n sl) (hl : (ents a n sl 0).length ≤ 200) (hk : Nk k) (hp : (putR a n sl k v).1 = false) :
    (szA (renL a n sl k) = 0 ∨ szA (renL a n sl k) < 2 * cA (putR (szA (renL a n sl k)) (szN (renL a n sl k)) (putAll (szA (renL a n sl k)) (szN (renL a n sl k)) (fun _ => (0, 0)) (ents a n sl 0)) k v).2 (szA (renL a n sl k))) ∧
    (szN (renL a n sl k) = 0 ∨ szN (renL a n sl k) < 2 * cN (szA (renL a n sl k)) (putR (szA (renL a n sl k)) (szN (renL a n sl k)) (putAll (szA (renL a n sl k)) (szN (renL a n sl k)) (fun _ => (0, 0)) (ents a n sl 0)) k v).2 (szN (renL a n sl k))) := by
  have hnf : (findR a n sl k).2 = false ∧ v.1 ≠ 0 := by
    unfold putR at hp
    by_cases h1 : (findR a n sl k).2 = true
    · rw [if_pos h1] at hp; cases hp
    · rw [if_neg h1] at hp
      by_cases h2 : v.1 = 0
      · rw [if_pos h2] at hp; cases hp
      · exact ⟨by simpa using h1, h2⟩
  obtain ⟨hnf, hv⟩ := hnf
  have hnm : k ∉ (ents a n sl 0).map Prod.fst := by
    intro hm
    obtain ⟨e, he, e1⟩ := List.mem_map.1 hm
    obtain ⟨_, h2, h3⟩ := ents_gv hw he
    rw [e1] at h3
    unfold gv at h3
    rw [if_neg (by rw [hnf]; simp)] at h3
    rw [← h3] at h2; exact h2 rfl
  have hroom := sz_room (renL a n sl k) (by unfold renL; simp; omega)
  have hout := sz_outs (renL a n sl k)
  obtain ⟨_, hS⟩ := szS_is (renL a n sl k) 13
  have hfa := filter_app (szA (renL a n sl k)) (ents a n sl 0) k (0, 0) v
  have hren : renL a n sl k = ents a n sl 0 ++ [(k, (0, 0))] := rfl
  have hnd : ((ents a n sl 0 ++ [(k, v)]).map Prod.fst).Nodup := by
    rw [List.map_append, List.nodup_append]
    refine ⟨ents_nodup hw, by simp, ?_⟩
    intro x hx y hy e
    simp at hy
    subst hy
    subst e
    exact hnm hx
  have hks : ∀ e ∈ ents a n sl 0 ++ [(k, v)], Nk e.1 ∧ e.2.1 ≠ 0 := by
    intro e he
    rw [List.mem_append] at he
    rcases he with he | he
    · exact ⟨(ents_gv hw he).1, (ents_gv hw he).2.1⟩
    · simp at he; subst he; exact ⟨hk, hv⟩
  have hall := putAll_gv (szA (renL a n sl k)) (szN (renL a n sl k)) (ents a n sl 0 ++ [(k, v)]) (fun _ => (0, 0)) (Wf.zero _ _) hks hnd (by rw [occ_zero, ← hfa.2, ← hren]; omega)
  rw [putAll_snoc] at hall
  simp only at hall
  have hin := all_in (szA (renL a n sl k)) (szN (renL a n sl k)) _ (ents a n sl 0 ++ [(k, v)]) hnd (fun e he => ⟨hall.2.1 e he, (hks e he).2⟩)
  rw [← hfa.1, ← hfa.2, ← hren] at hin
  refine ⟨?_, ?_⟩
  · rcases hS with ⟨h1, _⟩ | ⟨q, hq, h1, h2, h3⟩
    · exact .inl h1
    · right
      have hA : szA (renL a n sl k) = 2 ^ q := h1
      have e1 : ((renL a n sl k).filter fun e => inArr (szA (renL a n sl k)) e.1).length = upto (renL a n sl k) (q + 1) := by
        unfold upto
        congr 1
        apply List.filter_congr
        intro e _
        rw [hA, inArr_pow (by omega)]
      rw [e1, ← h2] at hin
      omega
  · rcases Nat.eq_zero_or_pos (szN (renL a n sl k)) with h0 | h0
    · exact .inl h0
    · right
      have := hroom.2 (by omega)
      omega

/-- Powers of two. -/
def PW (a n : Nat) : Prop := bits .and .i64 (a : Int) ((a : Int) - 1) = 0 ∧ bits .and .i64 (n : Int) ((n : Int) - 1) = 0
theorem pw_zero : bits .and .i64 ((0 : Nat) : Int) (((0 : Nat) : Int) - 1) = 0 := by decide +kernel
theorem pw_pow : ∀ q, q ≤ 12 → bits .and .i64 ((2 ^ q : Nat) : Int) (((2 ^ q : Nat) : Int) - 1) = 0 := by decide +kernel
theorem sz_pw (L : List Ent) (hl : L.length ≤ 256) : PW (szA L) (szN L) := by
  refine ⟨?_, (pw2_facts (L.length - (szS (cnt L) 13).2.1) (by omega)).2.2.1⟩
  obtain ⟨_, hS⟩ := szS_is L 13
  have hA : szA L = (szS (cnt L) 13).1 := rfl
  rcases hS with ⟨h1, _⟩ | ⟨q, hq, h1, _⟩
  · rw [hA, h1]; exact pw_zero
  · rw [hA, h1]; exact pw_pow q (by omega)
/-- What Set comes to. -/
theorem setR_cases (most : Int) (a n : Nat) (sl : Sl) (k v : Int × Int) : (setR most a n sl k v).2 = (a, n, sl) ∨ (keyB k.1 k.2 = true ∧ (setR most a n sl k v).2 = (a, n, (putR a n sl (kyP k) v).2)) ∨
    (keyB k.1 k.2 = true ∧ (putR a n sl (kyP k) v).1 = false ∧ (szA (renL a n sl (kyP k)) : Int) + 2 * (szN (renL a n sl (kyP k)) : Int) ≤ most ∧ (setR most a n sl k v).2 = (szA (renL a n sl (kyP k)), szN (renL a n sl (kyP k)), (putR (szA (renL a n sl (kyP k))) (szN (renL a n sl (kyP k))) (putAll (szA (renL a n sl (kyP k))) (szN (renL a n sl (kyP k))) (fun _ => (0, 0)) (ents a n sl 0)) (kyP k) v).2)) := by
  by_cases h1 : (!keyB k.1 k.2 || v.1 == 11) = true
  · left; unfold setR; rw [if_pos h1]
  · have hkb : keyB k.1 k.2 = true := by
      cases hq : keyB k.1 k.2
      · rw [hq] at h1; simp at h1
      · rfl
    by_cases h2 : (putR a n sl (kyP k) v).1 = true
    · right; left
      exact ⟨hkb, by unfold setR; rw [if_neg h1, if_pos h2]⟩
    · by_cases h3 : most < (szA (renL a n sl (kyP k)) : Int) + 2 * (szN (renL a n sl (kyP k)) : Int)
      · left; unfold setR; rw [if_neg h1, if_neg h2, if_pos h3]
      · right; right
        exact ⟨hkb, by simpa using h2, by omega, by unfold setR; rw [if_neg h1, if_neg h2, if_neg h3]⟩
/-- What TableSizes asks behind a Set. -/
theorem set_sizes {most : Int} {a n : Nat} {sl : Sl} {k v : Int × Int} (hw : Wf a n sl) (hl : (ents a n sl 0).length ≤ 200) (hpw : PW a n) {a' n' : Nat} {sl' : Sl} (he : (setR most a n sl k v).2 = (a', n', sl')) :
    PW a' n' ∧ ((a' = a ∧ n' = n) ∨ ((a' = 0 ∨ a' < 2 * cA sl' a') ∧ (n' = 0 ∨ n' < 2 * cN a' sl' n'))) := by
  rcases setR_cases most a n sl k v with h | ⟨hkb, h⟩ | ⟨hkb, h2, _, h⟩
  · rw [h] at he; cases he; exact ⟨hpw, .inl ⟨rfl, rfl⟩⟩
  · rw [h] at he; cases he; exact ⟨hpw, .inl ⟨rfl, rfl⟩⟩
  · have hr := renew_sizes hw hl (kyP_nk hkb) h2
    have hp := sz_pw (renL a n sl (kyP k)) (by unfold renL; simp; omega)
    rw [h] at he
    generalize (putR (szA (renL a n sl (kyP k))) (szN (renL a n sl (kyP k))) (putAll (szA (renL a n sl (kyP k))) (szN (renL a n sl (kyP k))) (fun _ => (0, 0)) (ents a n sl 0)) (kyP k) v).2 = q at he hr
    generalize szA (renL a n sl (kyP k)) = q1 at he hr hp
    generalize szN (renL a n sl (kyP k)) = q2 at he hr hp
    cases he
    exact ⟨hp, .inr hr⟩
theorem play_pw (L : List Ac) : ∀ j, j ≤ 80 → PW (playR 400 (L.take j)).1 (playR 400 (L.take j)).2.1
  | 0, _ => by rw [List.take_zero]; exact ⟨pw_zero, pw_zero⟩
  | j + 1, hj => by
    have ih := play_pw L j (by omega)
    have hw := play_wf L j (by omega)
    have hl := playR_len 400 L j
    rw [List.take_add_one]
    rcases h : L[j]? with _ | x
    · simp only [Option.toList_none, List.append_nil]; exact ih
    · simp only [Option.toList_some]
      rw [playR_snoc]
      unfold stepR
      split
      · exact (set_sizes hw (by omega) ih (a' := (setR 400 (playR 400 (L.take j)).1 (playR 400 (L.take j)).2.1 (playR 400 (L.take j)).2.2 x.k x.v).2.1) rfl).1
      · exact ih
end Go.Proofs.Ythefmfjlinpepaa
