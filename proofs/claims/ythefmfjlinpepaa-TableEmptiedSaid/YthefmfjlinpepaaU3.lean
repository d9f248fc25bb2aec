/- The length: it is there, and no more than keys are. TableLen: the walk. -/
import Derived.Test.YthefmfjlinpepaaU2
import Derived.Test.YthefmfjlinpepaaC1
namespace Go.Proofs.Ythefmfjlinpepaa
open Go.RowKit Go.Shelf
set_option linter.unusedSimpArgs false
set_option linter.unusedVariables false
attribute [local go_sem] Oper.semAt_some

theorem nodup_le {α : Type} [DecidableEq α] : ∀ (xs l : List α), xs.Nodup → (∀ x ∈ xs, x ∈ l) → xs.length ≤ l.length
  | [], _, _, _ => by simp
  | x :: xs, l, hn, hm => by
    rw [List.nodup_cons] at hn
    have hx := hm x List.mem_cons_self
    have ih := nodup_le xs (l.erase x) hn.2 (fun y hy => by
      have hne : y ≠ x := by intro e; subst e; exact hn.1 hy
      exact (List.mem_erase_of_ne hne).2 (hm y (List.mem_cons_of_mem _ hy)))
    rw [List.length_erase_of_mem hx] at ih
    have : 0 < l.length := List.length_pos_of_mem hx
    rw [List.length_cons]; omega

theorem kyT2 (x : Int) : kyT 2 x = 2 := by unfold kyT; split <;> rfl
theorem kyN2 (x : Int) : kyN 2 x = x := by unfold kyN whN; simp [isNum]
theorem keyB2 (x : Int) : keyB 2 x = true := by simp [keyB]
theorem getR2 (a n : Nat) (sl : Sl) (x : Int) : getR a n sl 2 x = if (findR a n sl (2, x)).2 = true then sl (findR a n sl (2, x)).1 else (0, 0) := by
  unfold getR; rw [keyB2, kyT2, kyN2]; rfl

/-- A key that has a value is one of the entries. -/
theorem found_ent {a n : Nat} {sl : Sl} {k : Int × Int} (hf : (findR a n sl k).2 = true) (hv : (sl (findR a n sl k).1).1 ≠ 0) (hk : keyB k.1 k.2 = true) :
    ∃ j, j < a + n ∧ okJ a sl j = true ∧ keyAt a sl (plA a 0 j : Nat) = k ∧ ((plA a 0 j : Nat) : Int) = (findR a n sl k).1 := by
  rcases findR_shape a n sl k with ⟨hi, he, h1, h2, h3⟩ | ⟨hi, he⟩ | ⟨hi, m, hm, he, ht, _⟩
  · have hp : plA a 0 (k.2 - 1).toNat = (k.2 - 1).toNat := by rw [plA0, if_pos (by omega)]
    have e1 : ((plA a 0 (k.2 - 1).toNat : Nat) : Int) = (findR a n sl k).1 := by rw [hp, he]; show _ = k.2 - 1; omega
    have e2 : keyAt a sl (plA a 0 (k.2 - 1).toNat : Nat) = k := by
      unfold keyAt
      rw [hp, if_pos (by omega)]
      have : ((k.2 - 1).toNat : Int) + 1 = k.2 := by omega
      rw [this, ← h3]
    refine ⟨(k.2 - 1).toNat, by omega, ?_, e2, e1⟩
    unfold okJ okE
    rw [e2, hk, e1]
    simp [hv]
  · rw [he] at hf; cases hf
  · have hp : plA a 0 (a + m) = a + 2 * m + 1 := by rw [plA0, if_neg (by omega)]; omega
    have e1 : ((plA a 0 (a + m) : Nat) : Int) = (findR a n sl k).1 := by rw [hp, he]; omega
    have e2 : keyAt a sl (plA a 0 (a + m) : Nat) = k := by
      unfold keyAt
      rw [hp, if_neg (by omega)]
      have : ((a + 2 * m + 1 : Nat) : Int) - 1 = ((a + 2 * m : Nat) : Int) := by omega
      rw [this]; exact ht hf
    refine ⟨a + m, by omega, ?_, e2, e1⟩
    unfold okJ okE
    rw [e2, hk, e1]
    simp [hv]
/-- Keys of entries. -/
def keysOf (a n : Nat) (sl : Sl) : List (Int × Int) := ((List.range (a + n)).filter (okJ a sl)).map fun j => keyAt a sl (plA a 0 j : Nat)
theorem found_mem {a n : Nat} {sl : Sl} {k : Int × Int} (hf : (findR a n sl k).2 = true) (hv : (sl (findR a n sl k).1).1 ≠ 0) (hk : keyB k.1 k.2 = true) : k ∈ keysOf a n sl := by
  obtain ⟨j, hj, ho, he, _⟩ := found_ent hf hv hk
  unfold keysOf
  rw [List.mem_map]
  exact ⟨j, List.mem_filter.2 ⟨List.mem_range.2 hj, ho⟩, he⟩
theorem len_bound {a n : Nat} {sl : Sl} {m : Nat} (h : ∀ j : Nat, j < m → (getR a n sl 2 ((j : Int) + 1)).1 ≠ 0) : m ≤ (ents a n sl 0).length := by
  have h1 := nodup_le ((List.range m).map fun j : Nat => ((2, (j : Int) + 1) : Int × Int)) (keysOf a n sl) ?_ ?_
  · rw [List.length_map, List.length_range] at h1
    rw [ents_len]
    unfold keysOf at h1
    rw [List.length_map] at h1
    exact h1
  · rw [List.Nodup, List.pairwise_map]
    refine List.Pairwise.imp ?_ (List.nodup_range (n := m))
    intro x y hxy e
    simp only [Prod.mk.injEq, true_and] at e
    omega
  · intro x hx
    obtain ⟨j, hj, rfl⟩ := List.mem_map.1 hx
    have h2 := h j (List.mem_range.1 hj)
    rw [getR2] at h2
    by_cases hf : (findR a n sl (2, (j : Int) + 1)).2 = true
    · rw [if_pos hf] at h2
      exact found_mem hf h2 (keyB2 _)
    · rw [if_neg hf] at h2; exact absurd rfl h2
theorem len_there (a n : Nat) (sl : Sl) : ∃ m, m ≤ (ents a n sl 0).length ∧ (getR a n sl 2 ((m : Int) + 1)).1 = 0 ∧ ∀ j : Nat, j < m → (getR a n sl 2 ((j : Int) + 1)).1 ≠ 0 := by
  have key : ∀ c : Nat, (∀ j : Nat, j < c → (getR a n sl 2 ((j : Int) + 1)).1 ≠ 0) ∨ ∃ m, m < c ∧ (getR a n sl 2 ((m : Int) + 1)).1 = 0 ∧ ∀ j : Nat, j < m → (getR a n sl 2 ((j : Int) + 1)).1 ≠ 0 := by
    intro c
    induction c with
    | zero => exact .inl (fun j hj => absurd hj (by omega))
    | succ c ih =>
      rcases ih with h | ⟨m, hm, h⟩
      · by_cases hz : (getR a n sl 2 ((c : Int) + 1)).1 = 0
        · exact .inr ⟨c, by omega, hz, h⟩
        · left
          intro j hj
          rcases Nat.lt_or_ge j c with h1 | h1
          · exact h j h1
          · obtain rfl : j = c := by omega
            exact hz
      · exact .inr ⟨m, by omega, h⟩
  rcases key ((ents a n sl 0).length + 1) with h | ⟨m, hm, h⟩
  · have := len_bound h; omega
  · exact ⟨m, by omega, h⟩

theorem fd33 (x y : Int) (w : World) : (Instr.field 33 (.agg #[.int .i64 x, .int .i64 y]) 0).run Try.prog w = .ok (.int .i64 x) w := by kernel_rfl

set_option maxRecDepth 20000 in
set_option maxHeartbeats 4000000 in
theorem TableLen_any (v : Value) (L : List Ac) (w : World) (hL : Acts w v L) :
    Calls Try.prog 7 #[v] w fun e w' => e = .returned (.bool true) ∧ Kept No w w' := by
  have HM : Hid (Calls Try.prog 16 #[v] w fun e w' => e = .returned (MP w.heap.size) ∧ ReS w w' w.heap.size 400 (playR 400 (L.take 80)) 40000) := made_any v L w hL
  have hlen := playR_len 400 L 80
  obtain ⟨ao, cap, rfl, -, -⟩ := hL
  obtain ⟨m, hm, h0, h1⟩ := len_there (playR 400 (L.take 80)).1 (playR 400 (L.take 80)).2.1 (playR 400 (L.take 80)).2.2
  have hm8 : m ≤ 80 := by omega
  generalize playR 400 (L.take 80) = s at HM hm h0 h1 hlen
  obtain ⟨a, n, sl⟩ := s
  have HM' : Hid (Calls Try.prog 16 #[.slice ao L.length cap] w fun e w' => e = .returned (MP w.heap.size) ∧ Re w w' w.heap.size 400 a n sl 40000) := HM.out
  have H0 : Hid ((getR a n sl 2 ((m : Int) + 1)).1 = 0) := h0
  have H1 : Hid (∀ j : Nat, j < m → (getR a n sl 2 ((j : Int) + 1)).1 ≠ 0) := h1
  clear HM hm h0 h1 hlen
  have hfd := fd33
  go_enter Try.func7, Try.ntmps7
  go_wp2_with fail
  refine HM'.out.mono ?_
  rintro e w1 ⟨rfl, h1⟩
  have R1 : Hid (Re w w1 w.heap.size 400 a n sl 40000) := h1
  clear h1 HM'
  go_wp2_with fail
  refine (R1.out.len m (by omega) H0.out H1.out).mono ?_
  rintro e w2 ⟨rfl, hk2⟩
  have R2 : Hid (Re w w2 w.heap.size 400 a n sl 40000) := R1.out.no hk2
  clear hk2 R1
  have hm9 : ¬ (80 : Int) < (m : Int) := by omega
  go_wp2_with fail
  refine (Int_any _ _).mono ?_
  rintro e w3 ⟨rfl, hb3⟩
  have R3 : Hid (Re w w3 w.heap.size 400 a n sl 40000) := R2.out.no (Kept.of_below hb3)
  clear hb3 R2
  obtain ⟨g, hg⟩ : ∃ g, getR a n sl 2 ((m : Int) + 1) = g := ⟨_, rfl⟩
  obtain ⟨g1, g2⟩ := g
  have e0 : g1 = 0 := by have := H0.out; rw [hg] at this; exact this
  subst e0
  have HG := R3.out.get 2 ((m : Int) + 1) (by constructor <;> omega) (0, g2) hg
  have HG' : Hid _ := HG
  clear hg HG
  go_wp2_with fail
  refine Calls.mono HG'.out ?_
  rintro e w4 ⟨rfl, hk4⟩
  have R4 : Hid (Re w w4 w.heap.size 400 a n sl 40000) := R3.out.no hk4
  clear hk4 R3 HG'
  go_wp2_with fail
  go_loopw [5] (fun i wr => ∃ j : Nat, 1 ≤ j ∧ j ≤ m + 1 ∧ i = .int .i64 j ∧ Hid (Re w wr w.heap.size 400 a n sl 40000)) (fun i _ => m + 1 - (intOf i).toNat)
  case atStart => exact ⟨1, by omega, by omega, rfl, R4.out⟩
  case round =>
    obtain ⟨j, hj1, hj2, rfl, R5⟩ := hrel
    by_cases hlt : j ≤ m
    · have k2 : (j : Int) ≤ (m : Int) := by omega
      go_wp2_with fail
      refine (Int_any _ _).mono ?_
      rintro e w5 ⟨rfl, hb5⟩
      have R6 : Hid (Re w w5 w.heap.size 400 a n sl 40000) := R5.out.no (Kept.of_below hb5)
      clear hb5 R5
      obtain ⟨g, hg⟩ : ∃ g, getR a n sl 2 (j : Int) = g := ⟨_, rfl⟩
      obtain ⟨x1, x2⟩ := g
      have hne : (x1 == 0) = false := by
        have := H1.out (j - 1) (by omega)
        rw [show ((j - 1 : Nat) : Int) + 1 = (j : Int) by omega, hg] at this
        simpa using this
      have HG := R6.out.get 2 (j : Int) (by constructor <;> omega) (x1, x2) hg
      have HG' : Hid _ := HG
      clear hg HG
      go_wp2_with fail
      refine Calls.mono HG'.out ?_
      rintro e w6 ⟨rfl, hk6⟩
      have R7 : Hid (Re w w6 w.heap.size 400 a n sl 40000) := R6.out.no hk6
      clear hk6 R6 HG'
      go_wp2
      go_roundw
      case rel => exact ⟨j + 1, by omega, by omega, by go_num, R7.out⟩
      case measure => simp [intOf]; omega
    · have k2 : ¬ (j : Int) ≤ (m : Int) := by omega
      go_wp2_with fail
      refine (alive_any _).mono ?_
      rintro e w5 ⟨rfl, hk5⟩
      have HE : Hid (Kept No w w5) := R5.out.kp.trans hk5
      clear hk5
      go_wp2
      go_ret
      exact ⟨rfl, HE.out⟩
end Go.Proofs.Ythefmfjlinpepaa
