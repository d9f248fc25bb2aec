/- What functions ask. -/
import Derived.Test.YtnmchcanijkggaaD2
namespace Go.Proofs.Ytnmchcanijkggaa
open Go.RowKit Go.Lib
set_option linter.unusedVariables false

/-- Is every value behind the first one a box? -/
def boxes (ps : List (Int × Int)) (k : Nat) : Bool := (List.range k).all fun i => (ps.getD (i + 1) (0, 0)).1 == 7
theorem boxes_snoc (ps : List (Int × Int)) (k : Nat) : boxes ps (k + 1) = (boxes ps k && ((ps.getD (k + 1) (0, 0)).1 == 7)) := by
  simp [boxes, List.range_succ]
theorem boxes_no {ps : List (Int × Int)} {k n : Nat} (hk : k < n) (h : ((ps.getD (k + 1) (0, 0)).1 == 7) = false) : boxes ps n = false := by
  rw [Bool.eq_false_iff]
  intro ha
  have := List.all_eq_true.1 ha k (List.mem_range.2 hk)
  rw [h] at this; cases this
/-- Is an object as a function is asked to be? -/
def funB (na : Nat) (ps : List (Int × Int)) : Bool := decide (na = 0) && (decide (0 < ps.length) && (((ps.getD 0 (0, 0)).1 == 9) && boxes ps (ps.length - 1)))

set_option maxHeartbeats 1000000 in
theorem fitsFunc_no (h : Hd) (ao so : Option Addr) (na ca ns cs : Nat) (ps : List (Int × Int)) (w : World) (hp : PairsIs w (.slice so ns cs) ps) (hl : ps.length = ns) (hn : ¬ (na = 0 ∧ 0 < ns ∧ (ps.getD 0 (0, 0)).1 = 9)) :
    Calls Try.prog 59 #[AO h (.slice ao na ca) (.slice so ns cs)] w fun e w' => e = .returned (.bool false) ∧ Below w.heap.size w w' := by
  by_cases h1 : na = 0
  · subst h1
    by_cases h2 : ns = 0
    · subst h2
      clear hp hn
      go_enter Try.func59, Try.ntmps59
      go_wp2
      go_ret
      exact ⟨rfl, (Below.refl _ _).alloc (Nat.le_refl _) _⟩
    · obtain ⟨b, off, rfl, e1, _⟩ := hp.at' (k := 0) (by omega)
      obtain ⟨t, ht⟩ : ∃ t, t = (ps.getD 0 (0, 0)).1 := ⟨_, rfl⟩
      have c1 : w.cell? ⟨b, off, none⟩ = some (.int .i64 t) := by rw [ht]; simpa using e1
      have hlt : b < w.heap.size := by
        rcases Nat.lt_or_ge b w.heap.size with h | h
        · exact h
        · rw [show w.cell? ⟨b, off, none⟩ = none by simp [World.cell?, Array.getElem?_eq_none h]] at c1; cases c1
      have e9 : (t != 9) = true := by
        simp only [bne_iff_ne, ne_eq]
        intro e
        exact hn ⟨rfl, by omega, by rw [← ht]; exact e⟩
      have en : ((ns : Int) == 0) = false := by simp; omega
      have n1 : (0 : Int) < (ns : Int) := by omega
      clear hn ht e1 hp
      go_enter Try.func59, Try.ntmps59
      go_wp2
      go_ret
      exact ⟨rfl, (Below.refl _ _).alloc (Nat.le_refl _) _⟩
  · have en : ((na : Int) != 0) = true := by simp; omega
    clear hn hp h1
    go_enter Try.func59, Try.ntmps59
    go_wp2
    go_ret
    exact ⟨rfl, (Below.refl _ _).alloc (Nat.le_refl _) _⟩

set_option maxHeartbeats 4000000 in
theorem fitsFunc_yes (h : Hd) (ao : Option Addr) (ca ns cs b off : Nat) (ps : List (Int × Int)) (w : World) (hp : PairsIs w (.slice (some ⟨b, off, none⟩) ns cs) ps) (hl : ps.length = ns) (h0 : 0 < ns) (h2 : ns ≤ 100000) (hcs : ns ≤ cs) (hcm : cs ≤ 9223372036854775807) (h9 : (ps.getD 0 (0, 0)).1 = 9) (hc1 : 1 < cs) :
    Calls Try.prog 59 #[AO h (.slice ao 0 ca) (.slice (some ⟨b, off, none⟩) ns cs)] w fun e w' => e = .returned (.bool (boxes ps (ns - 1))) ∧ Below w.heap.size w w' := by
  obtain ⟨b', off', hso, e1, _⟩ := hp.at' (k := 0) (by omega)
  injection hso with hs1
  injection hs1 with hs2 hs3
  subst hs2
  subst hs3
  have c1 : w.cell? ⟨b, off, none⟩ = some (.int .i64 9) := by rw [h9] at e1; simpa using e1
  have hlt : b < w.heap.size := by
    rcases Nat.lt_or_ge b w.heap.size with h | h
    · exact h
    · rw [show w.cell? ⟨b, off, none⟩ = none by simp [World.cell?, Array.getElem?_eq_none h]] at c1; cases c1
  have HP : Hid (∀ W, Below w.heap.size w W → ∀ k, k < ns - 1 → W.cell? ⟨b, off + 2 + k * 2, none⟩ = some (.int .i64 (ps.getD (k + 1) (0, 0)).1) ∧ W.cell? ⟨b, off + 2 + k * 2 + 1, none⟩ = some (.int .i64 (ps.getD (k + 1) (0, 0)).2)) := by
    intro W hb k hk
    obtain ⟨b'', off'', hso, g1, g2⟩ := (hp.later hb).at' (k := k + 1) (by omega)
    injection hso with hs1
    injection hs1 with hs2 hs3
    subst hs2
    subst hs3
    rw [show off + (k + 1) * 2 = off + 2 + k * 2 by omega] at g1 g2
    exact ⟨g1, g2⟩
  have en : ((ns : Int) == 0) = false := by simp; omega
  have n1 : (0 : Int) < (ns : Int) := by omega
  have n2 : (1 : Int) ≤ (ns : Int) := by omega
  have n3 : ¬ cs = 1 := by omega
  obtain ⟨m, hm⟩ : ∃ m, m = ns - 1 := ⟨_, rfl⟩
  rw [← hm] at HP ⊢
  have hm2 : ns - 1 = m := hm.symm
  have hm3 : m ≤ 100000 := by omega
  clear hp e1 h9 hl hm
  go_enter Try.func59, Try.ntmps59
  go_wp2_with fail
  go_loopw [4, 27] (fun _ i wr => ∃ k : Nat, k ≤ m ∧ i = .int .i64 k ∧ Hid (boxes ps k = true) ∧ Hid (Below w.heap.size w wr)) (fun _ i _ => m - (intOf i).toNat)
  case atStart => exact ⟨0, Nat.zero_le _, rfl, rfl, (Below.refl _ _).alloc (Nat.le_refl _) _⟩
  case round =>
    obtain ⟨k, hk, rfl, HA, HB⟩ := hrel
    have hbr : w.heap.size ≤ wr.heap.size := HB.out.size
    by_cases hlt : k < m
    · obtain ⟨t, ht⟩ : ∃ t, t = (ps.getD (k + 1) (0, 0)).1 := ⟨_, rfl⟩
      obtain ⟨n, hn⟩ : ∃ n, n = (ps.getD (k + 1) (0, 0)).2 := ⟨_, rfl⟩
      have c1 : wr.cell? ⟨b, off + 2 + k * 2, none⟩ = some (.int .i64 t) := by rw [ht]; exact (HP.out wr HB.out k hlt).1
      have c2 : wr.cell? ⟨b, off + 2 + k * 2 + 1, none⟩ = some (.int .i64 n) := by rw [hn]; exact (HP.out wr HB.out k hlt).2
      have k1 : (0 : Int) ≤ (k : Int) := by omega
      have k2 : (k : Int) < (m : Int) := by omega
      have HB2 : Hid (∀ o, Below w.heap.size w (wr.alloc o)) := fun o => HB.out.alloc hbr o
      have HX : Hid (((ps.getD (k + 1) (0, 0)).1 == 7) = (t == 7)) := by show _ = _; rw [ht]
      clear ht hn
      by_cases h7 : t = 7
      · subst h7
        have HA2 : Hid (boxes ps (k + 1) = true) := by show _ = _; rw [boxes_snoc, HA.out, HX.out]; rfl
        go_wp2
        go_roundw
        case rel => exact ⟨k + 1, by omega, by go_num, HA2.out, HB2.out _⟩
        case measure => simp [intOf]; omega
      · have hne : (t != 7) = true := by simp [h7]
        have HA2 : Hid (boxes ps m = false) := boxes_no hlt (by rw [HX.out]; simp [h7])
        clear h7
        go_wp2
        go_ret
        exact ⟨by rw [HA2.out]; rfl, HB2.out _⟩
    · have he : k = m := by omega
      subst he
      have HE : Hid (boxes ps k = true) := HA.out
      clear HA
      go_wp2
      go_ret
      exact ⟨by rw [HE.out]; rfl, HB.out⟩

set_option maxHeartbeats 4000000 in
theorem fitsFunc_lone (h : Hd) (ao : Option Addr) (ca b off : Nat) (ps : List (Int × Int)) (w : World) (hp : PairsIs w (.slice (some ⟨b, off, none⟩) 1 1) ps) (hl : ps.length = 1) (h9 : (ps.getD 0 (0, 0)).1 = 9) :
    Calls Try.prog 59 #[AO h (.slice ao 0 ca) (.slice (some ⟨b, off, none⟩) 1 1)] w fun e w' => e = .returned (.bool true) ∧ Below w.heap.size w w' := by
  obtain ⟨b', off', hso, e1, _⟩ := hp.at' (k := 0) (by omega)
  injection hso with hs1
  injection hs1 with hs2 hs3
  subst hs2
  subst hs3
  have c1 : w.cell? ⟨b, off, none⟩ = some (.int .i64 9) := by rw [h9] at e1; simpa using e1
  have hlt : b < w.heap.size := by
    rcases Nat.lt_or_ge b w.heap.size with h | h
    · exact h
    · rw [show w.cell? ⟨b, off, none⟩ = none by simp [World.cell?, Array.getElem?_eq_none h]] at c1; cases c1
  clear hp e1 h9 hl
  go_enter Try.func59, Try.ntmps59
  go_wp2_with fail
  go_loopw [4, 27] (fun _ i wr => i = .int .i64 0 ∧ Hid (Below w.heap.size w wr)) (fun _ _ _ => 0)
  case atStart => exact ⟨rfl, (Below.refl _ _).alloc (Nat.le_refl _) _⟩
  case round =>
    obtain ⟨rfl, HB⟩ := hrel
    go_wp2
    go_ret
    exact ⟨rfl, HB.out⟩

theorem fitsFunc_any (h : Hd) (ao so : Option Addr) (na ca ns cs : Nat) (ps : List (Int × Int)) (w : World) (hp : PairsIs w (.slice so ns cs) ps) (hl : ps.length = ns) (h2 : ns ≤ 100000) (hcs : ns ≤ cs) (hcm : cs ≤ 9223372036854775807) :
    Calls Try.prog 59 #[AO h (.slice ao na ca) (.slice so ns cs)] w fun e w' => e = .returned (.bool (funB na ps)) ∧ Below w.heap.size w w' := by
  by_cases hn : na = 0 ∧ 0 < ns ∧ (ps.getD 0 (0, 0)).1 = 9
  · obtain ⟨rfl, h0, h9⟩ := hn
    obtain ⟨b, off, rfl, _, _⟩ := hp.at' (k := 0) (by omega)
    have e : funB 0 ps = boxes ps (ns - 1) := by
      unfold funB
      rw [h9, hl]
      simp [h0]
    rw [e]
    by_cases hc1 : 1 < cs
    · exact fitsFunc_yes h ao ca ns cs b off ps w hp hl h0 h2 hcs hcm h9 hc1
    · obtain rfl : cs = 1 := by omega
      obtain rfl : ns = 1 := by omega
      exact fitsFunc_lone h ao ca b off ps w hp hl h9
  · have e : funB na ps = false := by
      rw [Bool.eq_false_iff]
      intro hf
      simp only [funB, Bool.and_eq_true, decide_eq_true_eq, beq_iff_eq] at hf
      exact hn ⟨hf.1, by omega, hf.2.2.1⟩
    rw [e]
    exact fitsFunc_no h ao so na ca ns cs ps w hp hl hn
end Go.Proofs.Ytnmchcanijkggaa
