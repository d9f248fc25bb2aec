/- A box fits; dead values where no key is; the layout of a box. -/
import Derived.Test.YtnmchcanijkggaaL1
namespace Go.Proofs.Ytnmchcanijkggaa
open Go.RowKit Go.Lib
set_option linter.unusedVariables false

set_option maxHeartbeats 1000000 in
theorem fitsBox_any (h : Hd) (ao so : Option Addr) (na ca ns cs : Nat) (w : World) :
    Calls Try.prog 60 #[AO h (.slice ao na ca) (.slice so ns cs)] w fun e w' => e = .returned (.bool (decide (na = 0 ∧ ns = 1))) ∧ Below w.heap.size w w' := by
  by_cases h1 : na = 0
  · subst h1
    by_cases h2 : ns = 1
    · subst h2
      go_enter Try.func60, Try.ntmps60
      go_wp2
      go_ret
      exact ⟨rfl, (Below.refl _ _).alloc (Nat.le_refl _) _⟩
    · have e2 : ((ns : Int) == 1) = false := by simp; omega
      rw [show decide (0 = 0 ∧ ns = 1) = false by simp [h2]]
      clear h2
      go_enter Try.func60, Try.ntmps60
      go_wp2
      go_ret
      exact ⟨rfl, (Below.refl _ _).alloc (Nat.le_refl _) _⟩
  · have e1 : ((na : Int) == 0) = false := by simp; omega
    rw [show decide (na = 0 ∧ ns = 1) = false by simp [h1]]
    clear h1
    go_enter Try.func60, Try.ntmps60
    go_wp2
    go_ret
    exact ⟨rfl, (Below.refl _ _).alloc (Nat.le_refl _) _⟩

theorem eq_nilF (w : World) : (binOp .eql 72 .nilFunc .nilFunc).run Try.prog w = .ok (.bool true) w := by kernel_rfl

/-- Is a dead value there? -/
def deadN (ps : List (Int × Int)) : Bool := ps.any fun p => p.1 == 11

theorem any_snoc {ps : List (Int × Int)} {k : Nat} (hk : k < ps.length) (h : deadN (ps.take k) = false) (hv : ((ps.getD k (0, 0)).1 == 11) = false) : deadN (ps.take (k + 1)) = false := by
  rw [List.getD, List.getElem?_eq_getElem hk] at hv
  rw [List.take_succ_eq_append_getElem hk]
  simp only [deadN, List.any_append, Bool.or_eq_false_iff] at h ⊢
  exact ⟨h, by simpa using hv⟩
theorem any_yes {ps : List (Int × Int)} {k : Nat} (hk : k < ps.length) (hv : ((ps.getD k (0, 0)).1 == 11) = true) : deadN ps = true := by
  rw [List.getD, List.getElem?_eq_getElem hk] at hv
  exact List.any_eq_true.2 ⟨_, List.getElem_mem hk, by simpa using hv⟩

set_option maxHeartbeats 4000000 in
theorem dead_nil (f : Value) (hf : f.oneCell' = true) (h : Hd) (av : Value) (so : Option Addr) (ns cs : Nat) (ps : List (Int × Int)) (w : World) (hl : ps.length = ns) (h2 : ns ≤ 100000) (hp : PairsIs w (.slice so ns cs) ps) (fn : Nat) (hfn : f = .func (.func fn) #[] #[]) (ao : Option Addr) (na ca : Nat) (hav : av = .slice ao na ca) :
    Calls Try.prog 49 #[.agg #[f, .nilFunc], AO h av (.slice so ns cs)] w fun e w' => e = .returned (.bool (deadN ps)) ∧ Below w.heap.size w w' := by
  subst hfn
  subst hav
  have HP : Hid (PairsIs w (.slice so ns cs) ps ∧ ps.length = ns) := ⟨hp, hl⟩
  clear hp hl hf
  go_enter Try.func49, Try.ntmps49
  go_wp2_with fail
  go_loopw [5, 6, 10] (fun _ _ i wr => ∃ k : Nat, k ≤ ns ∧ i = .int .i64 k ∧ Hid (deadN (ps.take k) = false) ∧ Hid (Below w.heap.size w wr) ∧ Hid (wr.cell? ⟨w.heap.size, 1, none⟩ = some .nilFunc)) (fun _ _ i _ => ns - (intOf i).toNat)
  case atStart => exact ⟨0, Nat.zero_le _, rfl, rfl, ((Below.refl _ _).alloc (Nat.le_refl _) _).alloc (by simp) _, by show _ = _; rw [World.cell?_alloc_past _ _ _ (by simp), World.cell?_alloc_at _ _ _ _ rfl]; rfl⟩
  case round =>
    obtain ⟨k, hk, rfl, HA, HB, HN⟩ := hrel
    by_cases hlt : k < ns
    · have hlen : ps.length = ns := HP.out.2
      obtain ⟨t, ht⟩ : ∃ t, t = (ps.getD k (0, 0)).1 := ⟨_, rfl⟩
      obtain ⟨n, hn⟩ : ∃ n, n = (ps.getD k (0, 0)).2 := ⟨_, rfl⟩
      obtain ⟨b, off, hso, e1, e2⟩ := (HP.out.1.later HB.out).at' (k := k) (by omega)
      subst hso
      have c1 : wr.cell? ⟨b, off + k * 2, none⟩ = some (.int .i64 t) := by rw [ht]; exact e1
      have c2 : wr.cell? ⟨b, off + k * 2 + 1, none⟩ = some (.int .i64 n) := by rw [hn]; exact e2
      have k1 : (0 : Int) ≤ (k : Int) := by omega
      have k2 : (k : Int) < (ns : Int) := by omega
      have c3 := HN.out
      have hzr : w.heap.size < wr.heap.size := by
        rcases Nat.lt_or_ge w.heap.size wr.heap.size with h | h
        · exact h
        · rw [show wr.cell? ⟨w.heap.size, 1, none⟩ = none by simp [World.cell?, Array.getElem?_eq_none h]] at c3; cases c3
      have HB2 : Hid (∀ o, Below w.heap.size w (wr.alloc o) ∧ (wr.alloc o).cell? ⟨w.heap.size, 1, none⟩ = some .nilFunc) := fun o => ⟨HB.out.alloc (by omega) _, by rw [World.cell?_alloc_past _ _ _ hzr]; exact HN.out⟩
      cases hvb : (t == 11)
      · have HA2 : Hid (deadN (ps.take (k + 1)) = false) := any_snoc (by omega) HA.out (by rw [← ht]; exact hvb)
        clear ht hn e1 e2
        go_wp2
        go_roundw
        case rel => exact ⟨k + 1, by omega, by go_num, HA2.out, (HB2.out _).1, (HB2.out _).2⟩
        case measure => simp [intOf]; omega
      · have HA2 : Hid (deadN ps = true) := any_yes (k := k) (by omega) (by rw [← ht]; exact hvb)
        clear ht hn e1 e2
        obtain rfl : t = 11 := by simpa using hvb
        have eqf := eq_nilF
        clear hvb
        go_wp2
        go_ret
        exact ⟨by rw [HA2.out]; rfl, (HB2.out _).1⟩
    · have he : k = ns := by omega
      subst he
      have HE : Hid (deadN ps = false) := by
        have h := HA.out
        rw [List.take_of_length_le (by rw [HP.out.2]; exact Nat.le_refl _)] at h
        exact h
      clear HA
      go_wp2
      go_ret
      exact ⟨by rw [HE.out]; rfl, HB.out⟩

set_option maxHeartbeats 4000000 in
theorem Layout_bad (h : Hd) (av sv : Value) (zs : List Int) (ps : List (Int × Int)) (w : World) (ha : SliceIs w av zs) (hp : PairsIs w sv ps) (hq : Pall ps) (h1 : zs.length ≤ 100000) (h2 : ps.length ≤ 100000) (hw : wrongE h zs.length ps ≠ 0) :
    Calls Try.prog 32 #[AO h av sv] w fun e w' => e = .returned (.int .i64 (wrongE h zs.length ps)) ∧ Below w.heap.size w w' := by
  have hw' : (wrongE h zs.length ps != 0) = true := by simp [hw]
  have HW : Hid (∀ W, Below w.heap.size w W → Calls Try.prog 45 #[AO h av sv] W fun e w' => e = .returned (.int .i64 (wrongE h zs.length ps)) ∧ Below W.heap.size W w') := fun W hb => wrong_any h av sv zs ps W (ha.later hb) (hp.later hb) hq h1 h2
  generalize wrongE h zs.length ps = E at HW hw' ⊢
  clear ha hp hq h1 h2 hw
  go_enter Try.func32, Try.ntmps32
  go_wp2_with fail
  refine (HW.out _ ((Below.refl _ _).alloc (Nat.le_refl _) _)).mono ?_
  rintro e w1 ⟨rfl, hb1⟩
  go_wp2
  go_ret
  exact ⟨rfl, ((Below.refl _ _).alloc (Nat.le_refl _) _).trans (hb1.mono (by simp))⟩

end Go.Proofs.Ytnmchcanijkggaa
