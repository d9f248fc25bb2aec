/- Objects as the program holds them; why an object has no cells. -/
import Derived.Test.YtnmchcanijkggaaO5
namespace Go.Proofs.Ytnmchcanijkggaa
open Go.RowKit
set_option linter.unusedVariables false

/-- An object, as the program holds it. -/
abbrev AO (h : Hd) (av sv : Value) : Value := .agg #[.int .i64 h.k, .int .i64 h.c, .int .i64 h.a, .int .i64 h.w, .int .i64 h.s, .int .i64 h.f, .int .i64 h.x, .int .i64 h.l, av, sv]

/-- The value is a slice with these ints in its cells. -/
def SliceIs (w : World) (v : Value) (zs : List Int) : Prop :=
  (∃ ao, v = .slice ao 0 0 ∧ zs = []) ∨ ∃ b off cap, v = .slice (some ⟨b, off, none⟩) zs.length cap ∧ ∀ i, i < zs.length → w.cell? ⟨b, off + i, none⟩ = some (.int .i64 (zs.getD i 0))

/-- The value is a slice of values. -/
def PairsIs (w : World) (v : Value) (ps : List (Int × Int)) : Prop :=
  (∃ ao, v = .slice ao 0 0 ∧ ps = []) ∨ ∃ b off cap, v = .slice (some ⟨b, off, none⟩) ps.length cap ∧ ∀ i, i < ps.length → w.cell? ⟨b, off + i * 2, none⟩ = some (.int .i64 (ps.getD i (0, 0)).1) ∧ w.cell? ⟨b, off + i * 2 + 1, none⟩ = some (.int .i64 (ps.getD i (0, 0)).2)

theorem SliceIs.form {w : World} {v : Value} {zs : List Int} (h : SliceIs w v zs) : ∃ ao cap, v = .slice ao zs.length cap := by
  rcases h with ⟨ao, rfl, rfl⟩ | ⟨b, off, cap, rfl, _⟩
  · exact ⟨ao, 0, rfl⟩
  · exact ⟨_, cap, rfl⟩
theorem PairsIs.form {w : World} {v : Value} {ps : List (Int × Int)} (h : PairsIs w v ps) : ∃ ao cap, v = .slice ao ps.length cap := by
  rcases h with ⟨ao, rfl, rfl⟩ | ⟨b, off, cap, rfl, _⟩
  · exact ⟨ao, 0, rfl⟩
  · exact ⟨_, cap, rfl⟩
theorem PairsIs.at' {w : World} {so : Option Addr} {ns cs : Nat} {ps : List (Int × Int)} (h : PairsIs w (.slice so ns cs) ps) {k : Nat} (hk : k < ps.length) :
    ∃ b off, so = some ⟨b, off, none⟩ ∧ w.cell? ⟨b, off + k * 2, none⟩ = some (.int .i64 (ps.getD k (0, 0)).1) ∧ w.cell? ⟨b, off + k * 2 + 1, none⟩ = some (.int .i64 (ps.getD k (0, 0)).2) := by
  rcases h with ⟨_, _, rfl⟩ | ⟨b, off, cap, hv, hc⟩
  · exact absurd hk (by simp)
  · injection hv with h1
    exact ⟨b, off, h1, hc k hk⟩

/-- An int64. -/
def I64 (n : Int) : Prop := -9223372036854775808 ≤ n ∧ n ≤ 9223372036854775807
/-- All of them are int64. -/
def Pall (ps : List (Int × Int)) : Prop := ∀ p ∈ ps, I64 p.1 ∧ I64 p.2
def Iall (zs : List Int) : Prop := ∀ z ∈ zs, I64 z

theorem SliceIs.later {w w' : World} {v : Value} {zs : List Int} (h : SliceIs w v zs) (hb : Below w.heap.size w w') : SliceIs w' v zs := by
  rcases h with h | ⟨b, off, cap, rfl, g⟩
  · exact Or.inl h
  · exact Or.inr ⟨b, off, cap, rfl, fun i hi => cell_later hb (g i hi)⟩
theorem PairsIs.later {w w' : World} {v : Value} {ps : List (Int × Int)} (h : PairsIs w v ps) (hb : Below w.heap.size w w') : PairsIs w' v ps := by
  rcases h with h | ⟨b, off, cap, rfl, g⟩
  · exact Or.inl h
  · exact Or.inr ⟨b, off, cap, rfl, fun i hi => ⟨cell_later hb (g i hi).1, cell_later hb (g i hi).2⟩⟩

/-- Are all values right? -/
def allB (ps : List (Int × Int)) : Bool := ps.all fun p => valB p.1 p.2
def slotE (ps : List (Int × Int)) : Int := if allB ps then 0 else 6
/-- Why an object has no cells. -/
def wrongE (h : Hd) (na : Nat) (ps : List (Int × Int)) : Int :=
  if rightE h = 0 then (if h.x = na ∧ h.l = ps.length then slotE ps else 1) else rightE h

theorem pall_get {ps : List (Int × Int)} (h : Pall ps) {k : Nat} (hk : k < ps.length) : I64 (ps.getD k (0, 0)).1 ∧ I64 (ps.getD k (0, 0)).2 := by
  rw [List.getD, List.getElem?_eq_getElem hk]; exact h _ (List.getElem_mem hk)

set_option maxHeartbeats 2000000 in
theorem wrong_bad (h : Hd) (av sv : Value) (w : World) (hr : rightE h ≠ 0) :
    Calls Try.prog 45 #[AO h av sv] w fun e w' => e = .returned (.int .i64 (rightE h)) ∧ Below w.heap.size w w' := by
  have hr' : (rightE h != 0) = true := by simp [hr]
  clear hr
  go_enter Try.func45, Try.ntmps45
  go_wp2_with fail
  refine (Right_any _ _).mono ?_
  rintro e w1 ⟨rfl, hb1⟩
  go_wp2
  go_ret
  exact ⟨rfl, ((Below.refl _ _).alloc (Nat.le_refl _) _).trans (hb1.mono (by simp))⟩

set_option maxHeartbeats 4000000 in
theorem wrong_num (h : Hd) (ao so : Option Addr) (na ca ns cs : Nat) (w : World) (_h1 : na ≤ 100000) (_h2 : ns ≤ 100000) (hr : rightE h = 0) (hn : ¬ (h.x = na ∧ h.l = ns)) :
    Calls Try.prog 45 #[AO h (.slice ao na ca) (.slice so ns cs)] w fun e w' => e = .returned (.int .i64 1) ∧ Below w.heap.size w w' := by
  by_cases hx : (na : Int) = h.x
  · have hl' : ¬ ((ns : Int) = h.l) := fun e => hn ⟨hx.symm, e.symm⟩
    clear hn
    go_enter Try.func45, Try.ntmps45
    go_wp2_with fail
    refine (Right_any _ _).mono ?_
    rintro e w1 ⟨rfl, hb1⟩
    rw [hr]
    obtain ⟨hc, hf⟩ := bcell hb1
    have HB : Hid (Below w.heap.size w w1) := ((Below.refl _ _).alloc (Nat.le_refl _) _).trans (hb1.mono (by simp))
    have hz : w.heap.size < w1.heap.size := by have := hb1.size; simp at this; omega
    clear hb1
    go_wp2
    go_region
    go_wp2
    go_ret
    exact ⟨rfl, (HB.out.alloc (by omega) _).drew⟩
  · clear hn
    go_enter Try.func45, Try.ntmps45
    go_wp2_with fail
    refine (Right_any _ _).mono ?_
    rintro e w1 ⟨rfl, hb1⟩
    rw [hr]
    obtain ⟨hc, hf⟩ := bcell hb1
    have HB : Hid (Below w.heap.size w w1) := ((Below.refl _ _).alloc (Nat.le_refl _) _).trans (hb1.mono (by simp))
    have hz : w.heap.size < w1.heap.size := by have := hb1.size; simp at this; omega
    clear hb1
    go_wp2
    go_region
    go_wp2
    go_ret
    exact ⟨rfl, (HB.out.alloc (by omega) _).drew⟩

theorem all_snoc {ps : List (Int × Int)} {k : Nat} (hk : k < ps.length) (h : allB (ps.take k) = true) (hv : valB (ps.getD k (0, 0)).1 (ps.getD k (0, 0)).2 = true) : allB (ps.take (k + 1)) = true := by
  rw [List.getD, List.getElem?_eq_getElem hk] at hv
  rw [List.take_succ_eq_append_getElem hk]
  simp only [allB, List.all_append, Bool.and_eq_true] at h ⊢
  exact ⟨h, by simpa using hv⟩
theorem all_not {ps : List (Int × Int)} {k : Nat} (hk : k < ps.length) (hv : valB (ps.getD k (0, 0)).1 (ps.getD k (0, 0)).2 = false) : allB ps = false := by
  rw [List.getD, List.getElem?_eq_getElem hk] at hv
  rw [Bool.eq_false_iff]
  intro h
  have := List.all_eq_true.1 h _ (List.getElem_mem hk)
  simp only [Option.getD_some] at hv
  rw [hv] at this; cases this

set_option maxHeartbeats 4000000 in
theorem wrong_ok (h : Hd) (ao so : Option Addr) (na ca ns cs : Nat) (ps : List (Int × Int)) (w : World) (hl : ps.length = ns) (h1 : na ≤ 100000) (h2 : ns ≤ 100000) (hp : PairsIs w (.slice so ns cs) ps) (hq : Pall ps)
    (hr : rightE h = 0) (hx : (na : Int) = h.x) (hs : (ns : Int) = h.l) :
    Calls Try.prog 45 #[AO h (.slice ao na ca) (.slice so ns cs)] w fun e w' => e = .returned (.int .i64 (slotE ps)) ∧ Below w.heap.size w w' := by
  have HP : Hid (PairsIs w (.slice so ns cs) ps ∧ Pall ps ∧ ps.length = ns) := ⟨hp, hq, hl⟩
  clear hp hq hl
  go_enter Try.func45, Try.ntmps45
  go_wp2_with fail
  refine (Right_any _ _).mono ?_
  rintro e w1 ⟨rfl, hb1⟩
  rw [hr]
  obtain ⟨hc, hf⟩ := bcell hb1
  have HB : Hid (Below w.heap.size w w1) := ((Below.refl _ _).alloc (Nat.le_refl _) _).trans (hb1.mono (by simp))
  have hz : w.heap.size < w1.heap.size := by have := hb1.size; simp at this; omega
  clear hb1
  go_wp2
  go_region
  go_wp2
  go_loopw [6, 30] (fun _ i wr => ∃ k : Nat, k ≤ ns ∧ i = .int .i64 k ∧ Hid (allB (ps.take k) = true) ∧ Hid (Below w.heap.size w wr)) (fun _ i _ => ns - (intOf i).toNat)
  case atStart => exact ⟨0, Nat.zero_le _, rfl, rfl, (HB.out.alloc (by omega) _).drew⟩
  case round =>
    obtain ⟨k, hk, rfl, HA, HB⟩ := hrel
    by_cases hlt : k < ns
    · obtain ⟨t, ht⟩ : ∃ t, t = (ps.getD k (0, 0)).1 := ⟨_, rfl⟩
      obtain ⟨n, hn⟩ : ∃ n, n = (ps.getD k (0, 0)).2 := ⟨_, rfl⟩
      have hlen : ps.length = ns := HP.out.2.2
      obtain ⟨b, off, hso, e1, e2⟩ := (HP.out.1.later HB.out).at' (k := k) (by omega)
      subst hso
      have c1 : wr.cell? ⟨b, off + k * 2, none⟩ = some (.int .i64 t) := by rw [ht]; exact e1
      have c2 : wr.cell? ⟨b, off + k * 2 + 1, none⟩ = some (.int .i64 n) := by rw [hn]; exact e2
      have HV : Hid (∀ w, Calls Try.prog 23 #[AV t n] w fun e w' => e = .returned (.bool (valB t n)) ∧ Below w.heap.size w w') := by
        have hi := pall_get HP.out.2.1 (k := k) (by omega)
        rw [← hn] at hi
        exact fun w => Value_any t n w hi.2.1 hi.2.2
      have k1 : (0 : Int) ≤ (k : Int) := by omega
      have k2 : (k : Int) < (ns : Int) := by omega
      have HX : Hid (valB t n = valB (ps.getD k (0, 0)).1 (ps.getD k (0, 0)).2) := by show _ = _; rw [ht, hn]
      clear ht hn e1 e2 hc hf
      go_wp2_with fail
      refine (HV.out _).mono ?_
      rintro e w2 ⟨rfl, hb2⟩
      have HB2 : Hid (Below w.heap.size w w2) := (HB.out.alloc HB.out.size _).trans (hb2.mono (by have := HB.out.size; simp; omega))
      clear hb2 HV c1 c2
      cases hvb : valB t n
      · go_wp2
        go_ret
        exact ⟨by unfold slotE; rw [all_not (by omega) (HX.out.symm.trans hvb)]; rfl, HB2.out⟩
      · have HA2 : Hid (allB (ps.take (k + 1)) = true) := all_snoc (by omega) HA.out (HX.out.symm.trans hvb)
        go_wp2
        go_roundw
        case rel => exact ⟨k + 1, by omega, by go_num, HA2.out, HB2.out⟩
        case measure => simp [intOf]; omega
    · have he : k = ns := by omega
      subst he
      have HE : Hid (allB ps = true) := by
        have h := HA.out
        rw [List.take_of_length_le (by rw [HP.out.2.2]; exact Nat.le_refl _)] at h
        exact h
      clear HA
      go_wp2
      go_ret
      exact ⟨by unfold slotE; rw [HE.out]; rfl, HB.out⟩

theorem wrong_any (h : Hd) (av sv : Value) (zs : List Int) (ps : List (Int × Int)) (w : World) (ha : SliceIs w av zs) (hp : PairsIs w sv ps) (hq : Pall ps) (h1 : zs.length ≤ 100000) (h2 : ps.length ≤ 100000) :
    Calls Try.prog 45 #[AO h av sv] w fun e w' => e = .returned (.int .i64 (wrongE h zs.length ps)) ∧ Below w.heap.size w w' := by
  by_cases hr : rightE h = 0
  · obtain ⟨ao, ca, rfl⟩ := ha.form
    obtain ⟨so, cs, rfl⟩ := hp.form
    by_cases hn : h.x = zs.length ∧ h.l = ps.length
    · rw [show wrongE h zs.length ps = slotE ps by simp [wrongE, hr, hn]]
      exact wrong_ok h ao so zs.length ca ps.length cs ps w rfl h1 h2 hp hq hr hn.1.symm hn.2.symm
    · rw [show wrongE h zs.length ps = 1 by simp only [wrongE, hr, if_true, if_neg hn]]
      exact wrong_num h ao so zs.length ca ps.length cs w h1 h2 hr hn
  · rw [show wrongE h zs.length ps = rightE h by simp only [wrongE, if_neg hr]]
    exact wrong_bad h av sv w hr
end Go.Proofs.Ytnmchcanijkggaa
