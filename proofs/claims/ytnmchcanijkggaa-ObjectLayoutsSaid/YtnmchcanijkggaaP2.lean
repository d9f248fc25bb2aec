/- The cells of an object. -/
import Derived.Test.YtnmchcanijkggaaP1
import Derived.OwnWalk
import Derived.Laws.AppendOwnNone
import Derived.Deep.AppendLies
import Derived.Deep.MidRow
import Derived.Lib.LazyBuf
import Derived.Lib.BufferWrite
namespace Go.Proofs.Ytnmchcanijkggaa
open Go.RowKit Go.Lib
set_option linter.unusedVariables false

theorem info2 : (Try.prog.info? 2).map (fun i => (i.zero, i.size, i.bytes)) = some (some (.int .i64 0), 1, 8) := by kernel_rfl

/-- Ints as cells. -/
def ic (l : List Int) : List Value := l.map (Value.int .i64)
/-- The cells of values. -/
def flatP (ps : List (Int × Int)) : List Int := ps.flatMap fun p => [p.1, p.2]
/-- The cells of an object. -/
def cellsL (h : Hd) (zs : List Int) (ps : List (Int × Int)) : List Int := [c1 h, c2 h] ++ zs ++ flatP ps

theorem ic_append (a b : List Int) : ic (a ++ b) = ic a ++ ic b := by simp [ic]
theorem ic_length (a : List Int) : (ic a).length = a.length := by simp [ic]
theorem flat_len (ps : List (Int × Int)) : (flatP ps).length = 2 * ps.length := by
  induction ps with
  | nil => rfl
  | cons p ps ih => simp only [flatP, List.flatMap_cons, List.length_append, List.length_cons] at ih ⊢; simp at ih ⊢; omega
theorem flat_snoc {ps : List (Int × Int)} {k : Nat} (hk : k < ps.length) : flatP (ps.take (k + 1)) = flatP (ps.take k) ++ [(ps.getD k (0, 0)).1, (ps.getD k (0, 0)).2] := by
  rw [List.take_succ_eq_append_getElem hk, List.getD, List.getElem?_eq_getElem hk]
  simp only [flatP, List.flatMap_append, List.flatMap_cons, List.flatMap_nil, List.append_nil, Option.getD_some]
theorem ic_one (l : List Int) : ∀ u ∈ ic l, u.oneCell' = true := by
  intro u hu
  obtain ⟨x, _, rfl⟩ := List.mem_map.1 hu
  rfl
theorem ic_news {w : World} {b off : Nat} {zs : List Int} (h : ∀ i, i < zs.length → w.cell? ⟨b, off + i, none⟩ = some (.int .i64 (zs.getD i 0))) : ∀ j u, (ic zs)[j]? = some u → w.cell? ((⟨b, off, none⟩ : Addr).add j) = some u := by
  intro j u hu
  have hj : j < zs.length := by
    rcases Nat.lt_or_ge j zs.length with h | h
    · exact h
    · rw [List.getElem?_eq_none (by rw [ic_length]; exact h)] at hu; cases hu
  have := h j hj
  simp only [ic, List.getElem?_map, List.getElem?_eq_getElem hj, Option.map_some, Option.some.injEq] at hu
  rw [List.getD, List.getElem?_eq_getElem hj, Option.getD_some, hu] at this
  by_cases h0 : j = 0
  · subst h0; simpa [Addr.add] using this
  · simpa [Addr.add, h0] using this

/-- A row of ints that a call has made. -/
def Row (w : World) (base : Nat) (v : Value) (zs : List Int) : Prop := w.ownsRow base 2 1 v zs.length (ic zs)

theorem Row.slice {w : World} {base : Nat} {v : Value} {zs : List Int} (h : Row w base v zs) : SliceIs w v zs := by
  rcases h.2 with ⟨rfl, h0⟩ | ⟨g, cap, cur, rfl, _⟩
  · exact Or.inl ⟨none, rfl, List.eq_nil_of_length_eq_zero h0⟩
  · refine Or.inr ⟨g, 0, cap, rfl, fun i hi => ?_⟩
    rw [Nat.zero_add, World.ownsRow.cellAt h i (by omega)]
    simp [ic, List.getD, List.getElem?_eq_getElem hi]

theorem Row.mono {w : World} {base base' : Nat} {v : Value} {zs : List Int} (h : Row w base v zs) (hb : base' ≤ base) : Row w base' v zs := by
  refine ⟨h.1, h.2.imp id ?_⟩
  rintro ⟨g, cap, cur, e, hg, r⟩
  exact ⟨g, cap, cur, e, Nat.le_trans hb hg, r⟩
theorem Row.alloc {w : World} {base : Nat} {v : Value} {zs : List Int} (h : Row w base v zs) (o : Obj) : Row (w.alloc o) base v zs := World.ownsRow.alloc h o
theorem Row.drew {w : World} {base : Nat} {v : Value} {zs : List Int} (h : Row w base v zs) : Row w.drew base v zs := World.ownsRow.drew h

/-- Cells are appended to a row. -/
theorem app_slice {ops : Array Oper} {rest : List Oper} {o : Oper} {a : Act} {Q : Exit → Act → World → Prop} {w : World} (hgd : o.guard = none) (s x : Operand)
    (ho : o.op = .call { callee := .builtin .append, args := #[s, x], argTypes := #[40, 40] }) (base : Nat) (v : Value) (xs : List Int) (hs : a.eval s = v) (hrow : Row w base v xs)
    (u : Value) (hx : a.eval x = u) (zs : List Int) (hu : SliceIs w u zs) (hlen : xs.length + zs.length ≤ 1000000) (hbase : base ≤ w.heap.size)
    (h : ∀ v' w', Hid (Row w' base v' (xs ++ zs)) → Hid (Below base w w') → (v ≠ .slice none 0 0 → v' ≠ .slice none 0 0) → wpList Try.prog ops Q rest (a.put o.dst v') w') : wpList Try.prog ops Q (o :: rest) a w := by
  obtain ⟨i0, hi, hz0, hz1, hz2⟩ := info_parts info2
  rcases hu with ⟨ao, rfl, rfl⟩ | ⟨b, off, cap, rfl, hc⟩
  · cases ao with
    | none =>
      refine wpList_append_own_none hgd s x 40 ho base 2 i0 1 Try.underlying40 hi v xs.length (ic xs) hs hrow hx (h v w ?_ (Below.refl _ _) (fun h => h))
      show Row _ _ _ _
      rw [List.append_nil]; exact hrow
    | some ad =>
      refine wpList_append_own _ hgd s x 40 ho base 2 i0 (.int .i64 0) 1 8 Try.underlying40 hi hz0 hz1 hz2 rfl (by decide) v xs.length (ic xs) hs hrow ad 0 0 [] hx rfl (fun j u hu => by simp at hu) (fun u hu => by cases hu)
        (by unfold maxLen; omega) (by omega) hbase ?_
      intro v' w' h1 h2 h3
      refine h v' w' ?_ ((Below.refl _ _).grown h2 hbase (fun k hk => (World.ownsRow.lt hrow k hk).1)) (fun hv e => hv (h3.1 e).1)
      show World.ownsRow _ _ _ _ _ _ _
      rw [List.append_nil]
      simpa using h1
  · refine wpList_append_own _ hgd s x 40 ho base 2 i0 (.int .i64 0) 1 8 Try.underlying40 hi hz0 hz1 hz2 rfl (by decide) v xs.length (ic xs) hs hrow ⟨b, off, none⟩ zs.length cap (ic zs) hx (by rw [ic_length, Nat.mul_one]) (ic_news hc) (ic_one zs)
      (by unfold maxLen; omega) (by omega) hbase ?_
    intro v' w' h1 h2 h3
    refine h v' w' ?_ ((Below.refl _ _).grown h2 hbase (fun k hk => (World.ownsRow.lt hrow k hk).1)) (fun hv e => hv (h3.1 e).1)
    show World.ownsRow _ _ _ _ _ _ _
    rw [List.length_append, ic_append]; exact h1

theorem slice_two {W : World} (N : Nat) (hN : N = W.heap.size) (t n : Int) : SliceIs (W.alloc (.cells #[.int .i64 t, .int .i64 n] 2)) (.slice (some ⟨N, 0, none⟩) 2 2) [t, n] := by
  refine Or.inr ⟨N, 0, 2, rfl, fun i hi => ?_⟩
  have hi2 : i < 2 := hi
  rcases (show i = 0 ∨ i = 1 by omega) with rfl | rfl
  · rw [World.cell?_alloc_at _ _ _ _ (by omega)]; rfl
  · rw [World.cell?_alloc_at _ _ _ _ (by omega)]; rfl

/-- An object lies in block N. -/
def SeenO (N : Nat) (h : Hd) (av sv : Value) (w' : World) : Prop :=
  w'.cell? ⟨N, 0, none⟩ = some (.int .i64 h.k) ∧ w'.cell? ⟨N, 1, none⟩ = some (.int .i64 h.c) ∧ w'.cell? ⟨N, 2, none⟩ = some (.int .i64 h.a) ∧ w'.cell? ⟨N, 3, none⟩ = some (.int .i64 h.w) ∧ w'.cell? ⟨N, 4, none⟩ = some (.int .i64 h.s) ∧ w'.cell? ⟨N, 5, none⟩ = some (.int .i64 h.f) ∧ w'.cell? ⟨N, 6, none⟩ = some (.int .i64 h.x) ∧ w'.cell? ⟨N, 7, none⟩ = some (.int .i64 h.l) ∧ w'.cell? ⟨N, 8, none⟩ = some av ∧ w'.cell? ⟨N, 9, none⟩ = some sv
theorem seenO_keep {N : Nat} {h : Hd} {av sv : Value} {W w2 : World} (hs : SeenO N h av sv W) (hb : Below W.heap.size W w2) : SeenO N h av sv w2 := by
  obtain ⟨q0, q1, q2, q3, q4, q5, q6, q7, q8, q9⟩ := hs
  exact ⟨cell_later hb q0, cell_later hb q1, cell_later hb q2, cell_later hb q3, cell_later hb q4, cell_later hb q5, cell_later hb q6, cell_later hb q7, cell_later hb q8, cell_later hb q9⟩
theorem seenO_new (h : Hd) (av sv : Value) (w : World) : SeenO w.heap.size h av sv (w.alloc (.cells #[.int .i64 h.k, .int .i64 h.c, .int .i64 h.a, .int .i64 h.w, .int .i64 h.s, .int .i64 h.f, .int .i64 h.x, .int .i64 h.l, av, sv] 43)) := by
  refine ⟨?_, ?_, ?_, ?_, ?_, ?_, ?_, ?_, ?_, ?_⟩
  all_goals (rw [World.cell?_alloc_at _ _ _ _ rfl]; rfl)

set_option maxHeartbeats 2000000 in
theorem Cells_bad (h : Hd) (av sv : Value) (zs : List Int) (ps : List (Int × Int)) (w : World) (ha : SliceIs w av zs) (hp : PairsIs w sv ps) (hq : Pall ps) (h1 : zs.length ≤ 100000) (h2 : ps.length ≤ 100000) (hw : wrongE h zs.length ps ≠ 0) :
    Calls Try.prog 26 #[AO h av sv] w fun e w' => e = .returned (.tuple #[.slice none 0 0, .int .i64 (wrongE h zs.length ps)]) ∧ Below w.heap.size w w' := by
  have hw' : (wrongE h zs.length ps != 0) = true := by simp [hw]
  have HW : Hid (∀ W, Below w.heap.size w W → Calls Try.prog 45 #[AO h av sv] W fun e w' => e = .returned (.int .i64 (wrongE h zs.length ps)) ∧ Below W.heap.size W w') := fun W hb => wrong_any h av sv zs ps W (ha.later hb) (hp.later hb) hq h1 h2
  generalize wrongE h zs.length ps = E at HW hw' ⊢
  clear ha hp hq h1 h2 hw
  go_enter Try.func26, Try.ntmps26
  go_wp2_with fail
  refine (HW.out _ ((Below.refl _ _).alloc (Nat.le_refl _) _)).mono ?_
  rintro e w1 ⟨rfl, hb1⟩
  go_wp2
  go_ret2
  exact ⟨rfl, ((Below.refl _ _).alloc (Nat.le_refl _) _).trans (hb1.mono (by simp))⟩

theorem wrong_zero {h : Hd} {na : Nat} {ps : List (Int × Int)} (hw : wrongE h na ps = 0) : rightE h = 0 ∧ h.x = na ∧ h.l = ps.length ∧ allB ps = true := by
  unfold wrongE at hw
  by_cases hr : rightE h = 0
  · rw [if_pos hr] at hw
    by_cases hn : h.x = na ∧ h.l = ps.length
    · rw [if_pos hn] at hw
      unfold slotE at hw
      cases hb : allB ps
      · rw [hb] at hw; exact absurd hw (by decide)
      · exact ⟨hr, hn.1, hn.2, rfl⟩
    · rw [if_neg hn] at hw; exact absurd hw (by decide)
  · rw [if_neg hr] at hw; exact absurd hw hr

set_option maxHeartbeats 4000000 in
theorem Cells_ok (h : Hd) (av sv : Value) (zs : List Int) (ps : List (Int × Int)) (w : World) (ha : SliceIs w av zs) (hp : PairsIs w sv ps) (hq : Pall ps) (h1 : zs.length ≤ 100000) (h2 : ps.length ≤ 100000) (hw : wrongE h zs.length ps = 0) :
    Calls Try.prog 26 #[AO h av sv] w fun e w' => (∃ v, e = .returned (.tuple #[v, .int .i64 0]) ∧ Row w' w.heap.size v (cellsL h zs ps)) ∧ Below w.heap.size w w' := by
  obtain ⟨i0, hi, hz0, hz1, hby⟩ := info_parts info2
  have HW : Hid (∀ W, Below w.heap.size w W → Calls Try.prog 45 #[AO h av sv] W fun e w' => e = .returned (.int .i64 0) ∧ Below W.heap.size W w') := fun W hb => by rw [← hw]; exact wrong_any h av sv zs ps W (ha.later hb) (hp.later hb) hq h1 h2
  obtain ⟨hr, hx, hl, hv⟩ := wrong_zero hw
  have HJ : Hid (∀ w, Calls Try.prog 37 #[AH h] w fun e w' => e = .returned (AC (c1 h) (c2 h)) ∧ Below w.heap.size w w') := fun w => joined_any h w hr
  obtain ⟨S, hS⟩ : ∃ S : Nat, (S : Int) = sizeN h ∧ S ≤ 1000000 := by
    refine ⟨2 + zs.length + 2 * ps.length, ?_, by omega⟩
    simp only [sizeN, hr, if_true, hx, hl]; omega
  have HZ : Hid (∀ w, Calls Try.prog 16 #[AH h] w fun e w' => e = .returned (.int .i64 (S : Int)) ∧ Below w.heap.size w w') := fun w => by rw [hS.1]; exact Size_any h w
  have hS2 := hS.2
  have HQ : Hid (SliceIs w av zs ∧ PairsIs w sv ps ∧ zs.length ≤ 100000 ∧ ps.length ≤ 100000) := ⟨ha, hp, h1, h2⟩
  obtain ⟨x, hx1⟩ : ∃ x, x = c1 h := ⟨_, rfl⟩
  obtain ⟨y, hy1⟩ : ∃ y, y = c2 h := ⟨_, rfl⟩
  have HXY : Hid (cellsL h zs ps = [x, y] ++ zs ++ flatP ps) := by show _ = _; rw [hx1, hy1]; rfl
  rw [← hx1, ← hy1] at HJ
  clear hw hr hx hl hv hS ha hp hq hx1 hy1
  go_enter Try.func26, Try.ntmps26
  go_wp2_with fail
  refine (HW.out _ ((Below.refl _ _).alloc (Nat.le_refl _) _)).mono ?_
  rintro e w1 ⟨rfl, hb1⟩
  have HS1 : Hid (SeenO w.heap.size h av sv w1) := seenO_keep (seenO_new h av sv w) hb1
  have HB1 : Hid (Below w.heap.size w w1) := ((Below.refl _ _).alloc (Nat.le_refl _) _).trans (hb1.mono (by simp))
  have hz : w.heap.size < w1.heap.size := by have := hb1.size; simp at this; omega
  clear hb1 HW
  obtain ⟨q0, q1, q2, q3, q4, q5, q6, q7, q8, q9⟩ := HS1.out
  go_wp2_with fail
  refine (HJ.out _).mono ?_
  rintro e w2 ⟨rfl, hb2⟩
  have HS2 : Hid (SeenO w.heap.size h av sv w2) := seenO_keep HS1.out hb2
  have HB2 : Hid (Below w.heap.size w w2) := HB1.out.trans (hb2.mono (by omega))
  have hz2 : w.heap.size < w2.heap.size := by have := hb2.size; omega
  clear hb2 HJ HS1 HB1 q0 q1 q2 q3 q4 q5 q6 q7 q8 q9
  obtain ⟨q0, q1, q2, q3, q4, q5, q6, q7, q8, q9⟩ := HS2.out
  go_wp2_with fail
  refine (HZ.out _).mono ?_
  rintro e w3 ⟨rfl, hb3⟩
  have HB3 : Hid (Below w.heap.size w w3) := (HB2.out.alloc (by omega) _).trans (hb3.mono (by simp; omega))
  have HS3 : Hid (SeenO w.heap.size h av sv w3) := seenO_keep (seenO_keep HS2.out ((Below.refl _ _).alloc (Nat.le_refl _) _)) hb3
  have HA3 : Hid (w3.cell? ⟨w2.heap.size, 0, none⟩ = some (.int .i64 x) ∧ w3.cell? ⟨w2.heap.size, 1, none⟩ = some (.int .i64 y)) := by
    constructor
    · exact cell_later hb3 (by rw [World.cell?_alloc_at _ _ _ _ rfl]; rfl)
    · exact cell_later hb3 (by rw [World.cell?_alloc_at _ _ _ _ rfl]; rfl)
  have hz3 : w2.heap.size < w3.heap.size := by have := hb3.size; simp at this; omega
  clear hb3 HS2 HB2 HZ q0 q1 q2 q3 q4 q5 q6 q7 q8 q9
  go_wp2_with (first | (at_make; refine wpList_make_own _ rfl _ _ 40 rfl w3.heap.size 2 i0 (.int .i64 0) 1 Try.underlying40 hi hz0 hz1 .i64 .i64 _ S rfl rfl rfl ?_ ?_ ?_ ?_))
  · rw [hby]; omega
  · unfold maxLen; omega
  · exact Nat.le_refl _
  intro w4 hown4 hgrow4
  have HO4 : Hid (Row w4 w3.heap.size (.slice (some ⟨w3.heap.size, 0, none⟩) 0 S) []) := hown4
  have HB4 : Hid (Below w3.heap.size w3 w4) := (Below.refl _ _).grown hgrow4 (Nat.le_refl _) (fun k hk => by cases hk)
  clear hown4 hgrow4
  have HA4 : Hid (SliceIs w4 (.slice (some ⟨w2.heap.size, 0, none⟩) 2 2) [x, y]) := by
    refine Or.inr ⟨w2.heap.size, 0, 2, rfl, fun i hi' => ?_⟩
    have hi2 : i < 2 := hi'
    rcases (show i = 0 ∨ i = 1 by omega) with rfl | rfl
    · exact cell_later HB4.out HA3.out.1
    · exact cell_later HB4.out HA3.out.2
  have hz4 : w3.heap.size ≤ w4.heap.size := HB4.out.size
  go_wp2_with (first | (at_builtin; refine app_slice rfl _ _ rfl w3.heap.size _ [] rfl HO4.out _ rfl [x, y] HA4.out ?_ ?_ ?_))
  · simp
  · exact hz4
  intro v5 w5 HO5 hb5 hn5
  have HB5 : Hid (Below w3.heap.size w3 w5) := HB4.out.trans hb5.out
  have HS5 : Hid (SeenO w.heap.size h av sv w5) := seenO_keep HS3.out HB5.out
  have hz5 : w3.heap.size ≤ w5.heap.size := HB5.out.size
  clear hb5 HO4 HB4 HA4 HA3 hn5
  obtain ⟨q0, q1, q2, q3, q4, q5, q6, q7, q8, q9⟩ := HS5.out
  have HA5 : Hid (SliceIs w5 av zs) := (HQ.out.1.later HB3.out).later HB5.out
  clear q0 q1 q2 q3 q4 q5 q6 q7
  go_wp2_with (first | (at_builtin; refine app_slice rfl _ _ rfl w3.heap.size _ [x, y] rfl HO5.out _ rfl zs HA5.out ?_ ?_ ?_))
  · simp; omega
  · exact hz5
  intro v6 w6 HO6 hb6 hn6
  have HB6 : Hid (Below w3.heap.size w3 w6) := HB5.out.trans hb6.out
  have HS6 : Hid (SeenO w.heap.size h av sv w6) := seenO_keep HS3.out HB6.out
  clear hb6 HO5 HB5 HA5 hn6 q8 q9
  obtain ⟨q0, q1, q2, q3, q4, q5, q6, q7, q8, q9⟩ := HS6.out
  clear q0 q1 q2 q3 q4 q5 q6 q7 q8
  obtain ⟨so, cs, hsv⟩ := HQ.out.2.1.form
  subst hsv
  obtain ⟨ns, hns⟩ : ∃ ns, ns = ps.length := ⟨_, rfl⟩
  have hsv' : Hid (∀ wr, Below w3.heap.size w3 wr → PairsIs wr (.slice so ps.length cs) ps) := fun wr hb => (HQ.out.2.1.later HB3.out).later hb
  have hns2 : ns ≤ 100000 := by omega
  have HN : Hid (ps.length = ns ∧ zs.length ≤ 100000) := ⟨hns.symm, h1⟩
  rw [← hns] at hsv' q9 ⊢
  clear hns h2 h1 HQ hz4 HS6
  go_wp2_with fail
  go_loopw [6, 8, 31] (fun l _ i wr => ∃ k : Nat, k ≤ ns ∧ i = .int .i64 k ∧ Hid (Row wr w3.heap.size l ([x, y] ++ zs ++ flatP (ps.take k))) ∧ Hid (Below w3.heap.size w3 wr)) (fun _ _ i _ => ns - (intOf i).toNat)
  case atStart => exact ⟨0, Nat.zero_le _, rfl, by show Row _ _ _ _; rw [List.take_zero]; simpa [flatP] using HO6.out, HB6.out⟩
  case round =>
    obtain ⟨k, hk, rfl, HO, HB⟩ := hrel
    have hbr : w3.heap.size ≤ wr.heap.size := HB.out.size
    by_cases hlt : k < ns
    · have hlen : ps.length = ns := HN.out.1
      obtain ⟨t, ht⟩ : ∃ t, t = (ps.getD k (0, 0)).1 := ⟨_, rfl⟩
      obtain ⟨n, hn⟩ : ∃ n, n = (ps.getD k (0, 0)).2 := ⟨_, rfl⟩
      obtain ⟨b, off, hso, e1, e2⟩ := (hsv'.out wr HB.out).at' (k := k) (by omega)
      subst hso
      have c1 : wr.cell? ⟨b, off + k * 2, none⟩ = some (.int .i64 t) := by rw [ht]; exact e1
      have c2 : wr.cell? ⟨b, off + k * 2 + 1, none⟩ = some (.int .i64 n) := by rw [hn]; exact e2
      have HF : Hid (flatP (ps.take (k + 1)) = flatP (ps.take k) ++ [t, n]) := by show _ = _; rw [flat_snoc (by omega), ht, hn]
      have HL : Hid (([x, y] ++ zs ++ flatP (ps.take k)).length + [t, n].length ≤ 1000000) := by
        have h3 := HN.out.2
        show _ ≤ _
        simp only [List.length_append, flat_len, List.length_take, List.length_cons, List.length_nil]
        have := Nat.min_le_left k ps.length
        omega
      have k1 : (0 : Int) ≤ (k : Int) := by omega
      have k2 : (k : Int) < (ns : Int) := by omega
      clear ht hn e1 e2
      go_wp2_with (first | (at_builtin; refine app_slice rfl _ _ rfl w3.heap.size _ _ rfl ((HO.out.alloc _).alloc _) _ rfl [t, n] (slice_two _ (by simp) t n) HL.out ?_ ?_))
      · simp; omega
      · intro v7 w7 HO7 hb7 _
        have HB7 : Hid (Below w3.heap.size w3 w7) := ((HB.out.alloc hbr _).alloc (by simp; omega) _).trans hb7.out
        have HO8 : Hid (Row w7 w3.heap.size v7 ([x, y] ++ zs ++ flatP (ps.take (k + 1)))) := by
          show Row _ _ _ _
          rw [HF.out]; simpa using HO7.out
        clear HO7 hb7 HO HB HF HL c1 c2
        go_wp2
        go_roundw
        case rel => exact ⟨k + 1, by omega, by go_num, HO8.out, HB7.out⟩
        case measure => simp [intOf]; omega
    · have he : k = ns := by omega
      subst he
      have HE : Hid (Row wr w.heap.size u6 (cellsL h zs ps)) := by
        show Row _ _ _ _
        have h3 := HO.out
        rw [List.take_of_length_le (by rw [HN.out.1]; exact Nat.le_refl _)] at h3
        rw [HXY.out]
        exact h3.mono HB3.out.size
      have HB9 : Hid (Below w.heap.size w wr) := HB3.out.trans (HB.out.mono HB3.out.size)
      clear HO HB
      go_wp2
      go_ret2
      exact ⟨⟨_, rfl, HE.out⟩, HB9.out⟩
end Go.Proofs.Ytnmchcanijkggaa
