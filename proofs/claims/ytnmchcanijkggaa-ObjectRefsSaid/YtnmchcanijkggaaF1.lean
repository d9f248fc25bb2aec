/- Refs: the objects to which an object leads, in the program and in the document's answer. -/
import Derived.Test.YtnmchcanijkggaaQ1
import Derived.Deep.QuietTactic
namespace Go.Proofs.Ytnmchcanijkggaa
open Go.RowKit Go.Lib
set_option linter.unusedVariables false
set_option linter.unusedSimpArgs false

set_option maxHeartbeats 1000000 in
theorem Ints_len (a b : Option Addr) (n m c d : Nat) (w : World) (h : n ≠ m) :
    Calls Try.prog 34 #[.slice a n c, .slice b m d] w fun e w' => e = .returned (.bool false) ∧ Below w.heap.size w w' := by
  have h1 : ((n : Int) != (m : Int)) = true := by simp; omega
  have h2 : ¬ ((n : Int) = (m : Int)) := by omega
  go_enter Try.func34, Try.ntmps34
  go_wp2
  go_ret
  exact ⟨rfl, Below.refl _ _⟩

set_option maxHeartbeats 1000000 in
theorem Ints_none (a b : Option Addr) (c d : Nat) (w : World) :
    Calls Try.prog 34 #[.slice a 0 c, .slice b 0 d] w fun e w' => e = .returned (.bool true) ∧ Below w.heap.size w w' := by
  go_enter Try.func34, Try.ntmps34
  go_wp2_with fail
  go_loop [5] (fun i => i = .int .i64 0) (fun _ => 0)
  case atStart => rfl
  case round =>
    subst hrel
    go_wp2
    go_ret
    exact ⟨rfl, Below.refl _ _⟩

set_option maxHeartbeats 1000000 in
theorem Ints_cells (za zb : List Int) (n b1 o1 b2 o2 c d : Nat) (w : World) (hn : n ≤ 100000) (ha : za.length = n) (hb : zb.length = n)
    (h1 : ∀ i, i < n → w.cell? ⟨b1, o1 + i, none⟩ = some (.int .i64 (za.getD i 0))) (h2 : ∀ i, i < n → w.cell? ⟨b2, o2 + i, none⟩ = some (.int .i64 (zb.getD i 0))) :
    Calls Try.prog 34 #[.slice (some ⟨b1, o1, none⟩) n c, .slice (some ⟨b2, o2, none⟩) n d] w fun e w' => e = .returned (.bool (decide (za = zb))) ∧ Below w.heap.size w w' := by
  have H1 : Hid (∀ i, i < n → w.cell? ⟨b1, o1 + i, none⟩ = some (.int .i64 (za.getD i 0))) := h1
  have H2 : Hid (∀ i, i < n → w.cell? ⟨b2, o2 + i, none⟩ = some (.int .i64 (zb.getD i 0))) := h2
  have HL : Hid (za.length = n ∧ zb.length = n) := ⟨ha, hb⟩
  clear h1 h2 ha hb
  go_enter Try.func34, Try.ntmps34
  go_wp2_with fail
  go_loopw [5] (fun i wr => ∃ k : Nat, k ≤ n ∧ i = .int .i64 k ∧ Hid (za.take k = zb.take k) ∧ Hid (Below w.heap.size w wr) ∧ Hid (∀ p, wr.cell? p = w.cell? p)) (fun i _ => n - (intOf i).toNat)
  case atStart => exact ⟨0, Nat.zero_le _, rfl, rfl, Below.refl _ _, fun _ => rfl⟩
  case round =>
    obtain ⟨k, hk, rfl, HT, HB, HC⟩ := hrel
    by_cases hlt : k < n
    · obtain ⟨x, hx⟩ : ∃ x, x = za.getD k 0 := ⟨_, rfl⟩
      obtain ⟨y, hy⟩ : ∃ y, y = zb.getD k 0 := ⟨_, rfl⟩
      have c1 : wr.cell? ⟨b1, o1 + k, none⟩ = some (.int .i64 x) := by rw [HC.out, hx]; exact H1.out k hlt
      have c2 : wr.cell? ⟨b2, o2 + k, none⟩ = some (.int .i64 y) := by rw [HC.out, hy]; exact H2.out k hlt
      have k1 : (0 : Int) ≤ (k : Int) := by omega
      have k2 : (k : Int) < (n : Int) := by omega
      have HX : Hid (x = za.getD k 0 ∧ y = zb.getD k 0) := ⟨hx, hy⟩
      clear hx hy
      by_cases hxy : x = y
      · have HS : Hid (za.take (k + 1) = zb.take (k + 1)) := by
          have e1 : k < za.length := by rw [HL.out.1]; exact hlt
          have e2 : k < zb.length := by rw [HL.out.2]; exact hlt
          have ex : za[k] = zb[k] := by
            have h := HX.out.1.symm.trans (hxy.trans HX.out.2)
            simpa [List.getD, List.getElem?_eq_getElem e1, List.getElem?_eq_getElem e2] using h
          show _ = _
          rw [List.take_succ_eq_append_getElem e1, List.take_succ_eq_append_getElem e2, HT.out, ex]
        subst hxy
        have hne : (x != x) = false := by simp
        go_wp2
        go_quiet (fail)
        go_wp2
        have HB' : Hid (Below w.heap.size w (wr.drewN nq)) := below_drewN HB.out _
        have HC' : Hid (∀ p, (wr.drewN nq).cell? p = w.cell? p) := fun p => HC.out p
        go_roundw
        case rel => exact ⟨k + 1, by omega, by go_num, HS.out, HB'.out, HC'.out⟩
        case measure => simp [intOf]; omega
      · have HE : Hid (decide (za = zb) = false) := by
          show _ = _
          rw [decide_eq_false]
          intro e
          exact hxy (by rw [HX.out.1, HX.out.2, e])
        have hne : (x != y) = true := by simp [hxy]
        clear HX
        go_wp2
        go_quiet (fail)
        go_wp2
        go_ret
        exact ⟨by rw [HE.out]; rfl, below_drewN HB.out _⟩
    · have he : k = n := by omega
      subst he
      have HE : Hid (decide (za = zb) = true) := by
        show _ = _
        have h := HT.out
        rw [List.take_of_length_le (by rw [HL.out.1]; exact Nat.le_refl _), List.take_of_length_le (by rw [HL.out.2]; exact Nat.le_refl _)] at h
        simp [h]
      clear HT
      go_wp2
      go_ret
      exact ⟨by rw [HE.out]; rfl, HB.out⟩

theorem Ints_any (a b : Value) (za zb : List Int) (w : World) (ha : SliceIs w a za) (hb : SliceIs w b zb) (hn : za.length ≤ 100000) :
    Calls Try.prog 34 #[a, b] w fun e w' => e = .returned (.bool (decide (za = zb))) ∧ Below w.heap.size w w' := by
  by_cases hl : za.length = zb.length
  · by_cases h0 : za.length = 0
    · obtain rfl := List.eq_nil_of_length_eq_zero h0
      obtain rfl := List.eq_nil_of_length_eq_zero (hl.symm.trans h0)
      obtain ⟨ao, c, rfl⟩ := ha.form
      obtain ⟨bo, d, rfl⟩ := hb.form
      exact Ints_none ao bo c d w
    · rcases ha with ⟨_, _, rfl⟩ | ⟨b1, o1, c, rfl, g1⟩
      · exact absurd rfl h0
      rcases hb with ⟨_, _, rfl⟩ | ⟨b2, o2, d, rfl, g2⟩
      · exact absurd hl h0
      rw [← hl] at g2 ⊢
      exact Ints_cells za zb za.length b1 o1 b2 o2 c d w hn rfl hl.symm g1 g2
  · have e : decide (za = zb) = false := by rw [decide_eq_false]; intro h; exact hl (by rw [h])
    rw [e]
    obtain ⟨ao, c, rfl⟩ := ha.form
    obtain ⟨bo, d, rfl⟩ := hb.form
    exact Ints_len ao bo _ _ c d w hl

theorem info3 : (Try.prog.info? 3).map (fun i => (i.zero, i.size, i.bytes)) = some (some (.int .i64 0), 1, 8) := by kernel_rfl

/-- A row of handles that a call has made. -/
def Row3 (w : World) (base : Nat) (v : Value) (zs : List Int) : Prop := w.ownsRow base 3 1 v zs.length (ic zs)
theorem Row3.slice {w : World} {base : Nat} {v : Value} {zs : List Int} (h : Row3 w base v zs) : SliceIs w v zs := by
  rcases h.2 with ⟨rfl, h0⟩ | ⟨g, cap, cur, rfl, _⟩
  · exact Or.inl ⟨none, rfl, List.eq_nil_of_length_eq_zero h0⟩
  · refine Or.inr ⟨g, 0, cap, rfl, fun i hi => ?_⟩
    rw [Nat.zero_add, World.ownsRow.cellAt h i (by omega)]
    simp [ic, List.getD, List.getElem?_eq_getElem hi]

theorem slice_one {W : World} (N : Nat) (hN : N = W.heap.size) (n : Int) : ∀ i, i < [n].length → (W.alloc (.cells #[.int .i64 n] 3)).cell? ⟨N, 0 + i, none⟩ = some (.int .i64 ([n].getD i 0)) := by
  intro i hi
  have hi2 : i < 1 := hi
  obtain rfl : i = 0 := by omega
  rw [World.cell?_alloc_at _ _ _ _ (by omega)]; rfl

/-- A handle is appended to a row. -/
theorem app_one {ops : Array Oper} {rest : List Oper} {o : Oper} {a : Act} {Q : Exit → Act → World → Prop} {w : World} (hgd : o.guard = none) (s x : Operand)
    (ho : o.op = .call { callee := .builtin .append, args := #[s, x], argTypes := #[59, 59] }) (base : Nat) (v : Value) (xs : List Int) (hs : a.eval s = v) (hrow : Row3 w base v xs)
    (N : Nat) (hx : a.eval x = .slice (some ⟨N, 0, none⟩) 1 1) (n : Int) (hu : ∀ i, i < [n].length → w.cell? ⟨N, 0 + i, none⟩ = some (.int .i64 ([n].getD i 0))) (hlen : xs.length + 1 ≤ 1000000) (hbase : base ≤ w.heap.size)
    (h : ∀ v' w', Hid (Row3 w' base v' (xs ++ [n])) → Hid (Below base w w') → wpList Try.prog ops Q rest (a.put o.dst v') w') : wpList Try.prog ops Q (o :: rest) a w := by
  obtain ⟨i0, hi, hz0, hz1, hz2⟩ := info_parts info3
  refine wpList_append_own _ hgd s x 59 ho base 3 i0 (.int .i64 0) 1 8 Try.underlying59 hi hz0 hz1 hz2 rfl (by decide) v xs.length (ic xs) hs hrow ⟨N, 0, none⟩ 1 1 (ic [n]) hx rfl (ic_news hu) (ic_one _)
    (by unfold maxLen; omega) (by omega) hbase ?_
  intro v' w' h1 h2 h3
  refine h v' w' ?_ ((Below.refl _ _).grown h2 hbase (fun k hk => (World.ownsRow.lt hrow k hk).1))
  show World.ownsRow _ _ _ _ _ _ _
  rw [List.length_append, ic_append]; exact h1

/-- Is a value an object? -/
def obB (p : Int × Int) : Bool := isObj p.1 && valB p.1 p.2
/-- To which objects values lead. -/
def refsL (ps : List (Int × Int)) : List Int := (ps.filter obB).map (·.2)

theorem refs_yes {ps : List (Int × Int)} {k : Nat} (hk : k < ps.length) (h : obB (ps.getD k (0, 0)) = true) : refsL (ps.take (k + 1)) = refsL (ps.take k) ++ [(ps.getD k (0, 0)).2] := by
  rw [List.getD, List.getElem?_eq_getElem hk] at h ⊢
  simp only [Option.getD_some] at h ⊢
  rw [List.take_succ_eq_append_getElem hk]
  simp only [refsL, List.filter_append, List.map_append]
  rw [List.filter_cons_of_pos h]
  rfl
theorem refs_no {ps : List (Int × Int)} {k : Nat} (hk : k < ps.length) (h : obB (ps.getD k (0, 0)) = false) : refsL (ps.take (k + 1)) = refsL (ps.take k) := by
  rw [List.getD, List.getElem?_eq_getElem hk] at h
  simp only [Option.getD_some] at h
  rw [List.take_succ_eq_append_getElem hk]
  simp only [refsL, List.filter_append, List.map_append]
  rw [List.filter_cons_of_neg (by rw [h]; decide)]
  simp
theorem refs_len (ps : List (Int × Int)) (k : Nat) : (refsL (ps.take k)).length ≤ k := by
  unfold refsL
  rw [List.length_map]
  have := List.length_filter_le obB (ps.take k)
  rw [List.length_take] at this
  omega

set_option maxHeartbeats 1000000 in
theorem RObject_any (t n : Int) (w : World) :
    Calls Try.prog 51 #[AV t n] w fun e w' => e = .returned (.bool (obB (t, n))) ∧ Below w.heap.size w w' := by
  by_cases h1 : 4 ≤ t
  · by_cases h2 : t ≤ 9
    · rw [show obB (t, n) = valB t n by simp [obB, isObj, h1, h2]]
      go_enter Try.func51, Try.ntmps51
      go_wp2_with fail
      refine (RValue_any _ _ _).mono ?_
      rintro e w1 ⟨rfl, hb1⟩
      go_wp2
      go_ret
      exact ⟨rfl, ((Below.refl _ _).alloc (Nat.le_refl _) _).trans (hb1.mono (by simp))⟩
    · rw [show obB (t, n) = false by simp [obB, isObj, h2]]
      go_enter Try.func51, Try.ntmps51
      go_wp2
      go_ret
      exact ⟨rfl, (Below.refl _ _).alloc (Nat.le_refl _) _⟩
  · rw [show obB (t, n) = false by simp [obB, isObj, h1]]
    go_enter Try.func51, Try.ntmps51
    go_wp2
    go_ret
    exact ⟨rfl, (Below.refl _ _).alloc (Nat.le_refl _) _⟩

set_option maxHeartbeats 4000000 in
theorem Refs_any (h : Hd) (ao so : Option Addr) (na ca ns cs : Nat) (ps : List (Int × Int)) (w : World) (hp : PairsIs w (.slice so ns cs) ps) (l2 : ps.length = ns) (hq : Pall ps) (h2 : ns ≤ 100000) :
    Calls Try.prog 35 #[AO h (.slice ao na ca) (.slice so ns cs)] w fun e w' => (∃ v, e = .returned v ∧ Row3 w' w.heap.size v (refsL ps)) ∧ Below w.heap.size w w' := by
  have HQ : Hid (∀ W, Below w.heap.size w W → PairsIs W (.slice so ns cs) ps) := fun W hb => hp.later hb
  have HL : Hid (ps.length = ns ∧ Pall ps) := ⟨l2, hq⟩
  clear hp l2 hq
  go_enter Try.func35, Try.ntmps35
  go_wp2_with fail
  go_loopw [3, 5, 9] (fun l _ i wr => ∃ k : Nat, k ≤ ns ∧ i = .int .i64 k ∧ Hid (Row3 wr w.heap.size l (refsL (ps.take k))) ∧ Hid (Below w.heap.size w wr)) (fun _ _ i _ => ns - (intOf i).toNat)
  case atStart => exact ⟨0, Nat.zero_le _, rfl, World.ownsRow_nil _ _ _ _, (Below.refl _ _).alloc (Nat.le_refl _) _⟩
  case round =>
    obtain ⟨k, hk, rfl, HO, HB⟩ := hrel
    have hbr : w.heap.size ≤ wr.heap.size := HB.out.size
    by_cases hlt : k < ns
    · have hlen : ps.length = ns := HL.out.1
      obtain ⟨t, ht⟩ : ∃ t, t = (ps.getD k (0, 0)).1 := ⟨_, rfl⟩
      obtain ⟨n, hn⟩ : ∃ n, n = (ps.getD k (0, 0)).2 := ⟨_, rfl⟩
      obtain ⟨b, off, hso, e1, e2⟩ := (HQ.out wr HB.out).at' (k := k) (by omega)
      subst hso
      have c1 : wr.cell? ⟨b, off + k * 2, none⟩ = some (.int .i64 t) := by rw [ht]; exact e1
      have c2 : wr.cell? ⟨b, off + k * 2 + 1, none⟩ = some (.int .i64 n) := by rw [hn]; exact e2
      have k1 : (0 : Int) ≤ (k : Int) := by omega
      have k2 : (k : Int) < (ns : Int) := by omega
      have HV : Hid (∀ w, Calls Try.prog 23 #[AV t n] w fun e w' => e = .returned (.bool (valB t n)) ∧ Below w.heap.size w w') := by
        have hi := pall_get HL.out.2 (k := k) (by omega)
        rw [← hn] at hi
        exact fun w => Value_any t n w hi.2.1 hi.2.2
      have HX : Hid (obB (ps.getD k (0, 0)) = (isObj t && valB t n)) := by show _ = _; rw [obB, ← ht, ← hn]
      have HY : Hid (obB (ps.getD k (0, 0)) = true → refsL (ps.take (k + 1)) = refsL (ps.take k) ++ [n]) := fun h => by rw [refs_yes (by omega) h, hn]
      have HZ : Hid (obB (ps.getD k (0, 0)) = false → refsL (ps.take (k + 1)) = refsL (ps.take k)) := fun h => refs_no (by omega) h
      have HLn : Hid ((refsL (ps.take k)).length + 1 ≤ 1000000) := by have := refs_len ps k; show _ ≤ _; omega
      have HWr : Hid (∀ o, Row3 (wr.alloc o) w.heap.size u3 (refsL (ps.take k)) ∧ Below w.heap.size w (wr.alloc o)) := fun o => ⟨World.ownsRow.alloc HO.out o, HB.out.alloc hbr o⟩
      clear ht hn e1 e2
      cases ho : isObj t
      · have HE : Hid (Row3 (wr.alloc (.cells #[.int .i64 t, .int .i64 n] 38)) w.heap.size u3 (refsL (ps.take (k + 1)))) := by
          show Row3 _ _ _ _
          rw [HZ.out (by rw [HX.out, ho]; rfl)]; exact (HWr.out _).1
        go_wp2_with (first | (go_at_call 39; refine (objectType_any _ _).mono ?_; rintro e w' ⟨rfl, rfl⟩))
        go_roundw
        case rel => exact ⟨k + 1, by omega, by go_num, HE.out, (HWr.out _).2⟩
        case measure => simp [intOf]; omega
      · go_wp2_with (first | (go_at_call 39; refine (objectType_any _ _).mono ?_; rintro e w' ⟨rfl, rfl⟩))
        refine (HV.out _).mono ?_
        rintro e w2 ⟨rfl, hb2⟩
        have HB2 : Hid (Below w.heap.size w w2) := (HWr.out _).2.trans (hb2.mono (HWr.out _).2.size)
        have HO2 : Hid (Row3 w2 w.heap.size u3 (refsL (ps.take k))) := World.ownsRow.below (HWr.out _).1 hb2
        have g1 : w2.cell? ⟨wr.heap.size, 1, none⟩ = some (.int .i64 n) := cell_later hb2 (by rw [World.cell?_alloc_at _ _ _ _ rfl]; rfl)
        have hz2 : w.heap.size ≤ w2.heap.size := HB2.out.size
        clear hb2 HO c1 c2 HV
        cases hv : valB t n
        · have HE : Hid (Row3 w2 w.heap.size u3 (refsL (ps.take (k + 1)))) := by
            show Row3 _ _ _ _
            rw [HZ.out (by rw [HX.out, ho, hv]; rfl)]; exact HO2.out
          go_wp2
          go_roundw
          case rel => exact ⟨k + 1, by omega, by go_num, HE.out, HB2.out⟩
          case measure => simp [intOf]; omega
        · go_wp2_with (first | (at_builtin; refine app_one rfl _ _ rfl w.heap.size u3 _ rfl (World.ownsRow.alloc HO2.out _) w2.heap.size rfl n (slice_one w2.heap.size rfl n) HLn.out ?_ ?_))
          · simp; omega
          intro v4 w4 HO4 hb4
          have HB4 : Hid (Below w.heap.size w w4) := (HB2.out.alloc hz2 _).trans hb4.out
          have HE : Hid (Row3 w4 w.heap.size v4 (refsL (ps.take (k + 1)))) := by
            show Row3 _ _ _ _
            rw [HY.out (by rw [HX.out, ho, hv]; rfl)]; exact HO4.out
          clear hb4 HO4 HO2 HB2 g1
          go_wp2
          go_roundw
          case rel => exact ⟨k + 1, by omega, by go_num, HE.out, HB4.out⟩
          case measure => simp [intOf]; omega
    · have he : k = ns := by omega
      subst he
      have HE : Hid (Row3 wr w.heap.size u3 (refsL ps)) := by
        have h3 := HO.out
        rw [List.take_of_length_le (by rw [HL.out.1]; exact Nat.le_refl _)] at h3
        exact h3
      clear HO
      go_wp2
      go_ret
      exact ⟨⟨_, rfl, HE.out⟩, HB.out⟩
end Go.Proofs.Ytnmchcanijkggaa
