/- ObjectLayouts: the walk. -/
import Derived.Test.YtnmchcanijkggaaY1
import Derived.Test.YtnmchcanijkggaaL4
import Derived.Test.YtnmchcanijkggaaL5
import Derived.Test.YtnmchcanijkggaaL6
import Derived.Test.YtnmchcanijkggaaL8
import Derived.Test.YtnmchcanijkggaaL9
import Derived.Test.YtnmchcanijkggaaR1
namespace Go.Proofs.Ytnmchcanijkggaa
open Go.RowKit Go.Lib
set_option linter.unusedVariables false
set_option linter.unusedSimpArgs false

section
open Go.ChangeShapes Go.WideShapes Go.ChangeAt Go.WideMaps Go.WideElems
variable {H : Type} {enc : TypeId × Value → H} {W : World} {base : Nat} {spare : Nat → Bool} {held : Bool}

/-- The room of a slice of values. -/
theorem room_ps {fuel : Nat} {v : Value} {x : DataW H × List MemPlace} (h : DataW.trod enc Try.prog W base (fun _ => true) held fuel 41 [v] = some x) : RoomOK v := by
  rcases Deep.open_slice Try.underlying41 h with ⟨hcs, _⟩ | ⟨a, len, cap, m, n, D, Pl, hcs, hb, hl, hm, hmm, _, hx⟩
  · simp at hcs
    subst hcs
    intro ao n c e; injection e with e1 e2 e3; omega
  · simp at hcs
    subst hcs
    intro ao n c e; injection e with e1 e2 e3; unfold maxLen at hm; omega

/-- An object, with the room of its slots. -/
theorem open_obr {fuel : Nat} {cs : List Value} {x : DataW H × List MemPlace} (h : DataW.trod enc Try.prog W base (fun _ => true) held fuel 43 cs = some x) :
    ∃ (g : Hd) (av sv : Value) (zs : List Int) (ps : List (Int × Int)), cs = [.int .i64 g.k, .int .i64 g.c, .int .i64 g.a, .int .i64 g.w, .int .i64 g.s, .int .i64 g.f, .int .i64 g.x, .int .i64 g.l, av, sv] ∧ SliceIs W av zs ∧ Iall zs ∧ RoomOK av ∧ PairsIs W sv ps ∧ Pall ps ∧ RoomOK sv := by
  obtain ⟨g, av, sv, zs, ps, rfl, s1, i1, r1, q1, p1⟩ := open_ob h
  refine ⟨g, av, sv, zs, ps, rfl, s1, i1, r1, q1, p1, ?_⟩
  obtain ⟨xs, n, _, _, hl, hlen, hf⟩ := DataW.trod_struct Try.underlying43 h
  match xs, hlen with
  | [y0, y1, y2], _ =>
    have g2 := hf 2 _ rfl
    simp [cellsT23, cellsT40, cellsT41] at g2
    exact room_ps g2
end

/-- Both sides say R. -/
def Both (w : World) (h : Hd) (av sv : Value) (R : Int) : Prop :=
  (∀ W, Below w.heap.size w W → Calls Try.prog 32 #[AO h av sv] W fun e w' => e = .returned (.int .i64 R) ∧ Below W.heap.size W w') ∧
  (∀ W, Below w.heap.size w W → Calls Try.prog 33 #[AO h av sv] W fun e w' => e = .returned (.int .i64 R) ∧ Below W.heap.size W w')

theorem below_step {w W W' : World} (h : Below w.heap.size w W) (k : Below W.heap.size W W') : Below w.heap.size w W' := h.trans (k.mono h.size)

theorem both_any (h : Hd) (ao so : Option Addr) (na ca ns cs : Nat) (zs : List Int) (ps : List (Int × Int)) (w : World) (ha : SliceIs w (.slice ao na ca) zs) (l1 : zs.length = na) (hI : Iall zs) (hca : na ≤ ca) (hp : PairsIs w (.slice so ns cs) ps) (l2 : ps.length = ns) (hq : Pall ps) (hcs : ns ≤ cs) (hcm : cs ≤ 9223372036854775807) (h1 : na ≤ 300) (h2 : ns ≤ 300) :
    ∃ R, Both w h (.slice ao na ca) (.slice so ns cs) R := by
  have b1 : zs.length ≤ 100000 := by omega
  have b2 : ps.length ≤ 100000 := by omega
  by_cases hw : wrongE h zs.length ps = 0
  · have hk : 4 ≤ h.k ∧ h.k ≤ 9 := by
      have := (right_zero.1 (wrong_zero hw).1).1
      simpa [isObj] using this
    have dn : ∀ (fn : Nat) (W : World), Below w.heap.size w W → Calls Try.prog 49 #[.agg #[.func (.func fn) #[] #[], .nilFunc], AO h (.slice ao na ca) (.slice so ns cs)] W fun e w' => e = .returned (.bool (deadN ps)) ∧ Below W.heap.size W w' :=
      fun fn W hb => dead_nil (.func (.func fn) #[] #[]) rfl h _ so ns cs ps W l2 (by omega) (hp.later hb) fn rfl ao na ca rfl
    have doc : ∀ F : Bool, h.k ≠ 5 → (∀ W, Below w.heap.size w W → Calls Try.prog 50 #[AO h (.slice ao na ca) (.slice so ns cs)] W fun e w' => e = .returned (.bool F) ∧ Below W.heap.size W w') →
        ∀ W, Below w.heap.size w W → Calls Try.prog 33 #[AO h (.slice ao na ca) (.slice so ns cs)] W fun e w' => e = .returned (.int .i64 (if F && !(deadN ps) then 0 else 6)) ∧ Below W.heap.size W w' := by
      intro F hne hf W hb
      have hg : RGood W h (.slice ao na ca) (.slice so ns cs) F := rgood (ha.later hb) (hp.later hb) hq b1 b2 hw (fun W' hb' => hf W' (below_step hb hb'))
      cases F
      · exact RLayout_no h ao so na ca ns cs W hg
      · have := RLayout_n h ao so na ca ns cs ps W (hp.later hb) l2 (by omega) (by simpa using hne) hg
        rw [show (if deadN ps = true then (6 : Int) else 0) = (if (true && !(deadN ps)) = true then 0 else 6) by cases deadN ps <;> rfl] at this
        exact this
    rcases (show h.k = 4 ∨ h.k = 5 ∨ h.k = 6 ∨ h.k = 7 ∨ h.k = 8 ∨ h.k = 9 by omega) with e | e | e | e | e | e
    · refine ⟨if txtB zs ns && !(deadN ps) then 0 else 6, fun W hb => ?_, doc _ (by omega) (fun W hb => Rfits_4 h ao so na ca ns cs zs W e (ha.later hb) l1 hca h1)⟩
      exact Layout_4 h _ _ zs ps W (ha.later hb) (hp.later hb) hq b1 b2 hw e _ _ (fun W' hb' => fits_4 h ao so na ca ns cs zs W' (ha.later (below_step hb hb')) l1 hI hca h1) (fun W' _ hb' => dn 56 W' (below_step hb hb')) _ rfl
    · cases hF : tabB zs ps
      · refine ⟨6, fun W hb => ?_, fun W hb => ?_⟩
        · exact Layout_5 h _ _ zs ps W (ha.later hb) (hp.later hb) hq b1 b2 hw e false false (fun W' hb' => by rw [← hF]; exact fits_5 h ao so na ca ns cs zs ps W' (ha.later (below_step hb hb')) l1 (hp.later (below_step hb hb')) l2 h2) (fun W' hf => by cases hf) _ rfl
        · refine RLayout_no h ao so na ca ns cs W (rgood (ha.later hb) (hp.later hb) hq b1 b2 hw (fun W' hb' => ?_))
          rw [← hF]; exact Rfits_5 h ao so na ca ns cs zs ps W' e (ha.later (below_step hb hb')) l1 (hp.later (below_step hb hb')) l2 h2
      · have hF' := hF
        simp only [tabB, tabN, Bool.and_eq_true, decide_eq_true_eq] at hF'
        obtain ⟨⟨e2, e0⟩, g0, g1, _⟩ := hF'
        obtain ⟨b, off, rfl, hc⟩ := slice_cells ha (by omega)
        have c0 := hc 0 (by omega)
        rw [Nat.add_zero] at c0
        obtain ⟨A, hA⟩ : ∃ A : Nat, zs.getD 0 0 = A := ⟨(zs.getD 0 0).toNat, by omega⟩
        rw [hA] at c0 g1
        have hA' : A ≤ 100000 := by omega
        refine ⟨if deadK A ps ns then 6 else 0, fun W hb => ?_, fun W hb => ?_⟩
        · exact Layout_5 h _ _ zs ps W (ha.later hb) (hp.later hb) hq b1 b2 hw e true (deadK A ps ns) (fun W' hb' => by rw [← hF]; exact fits_5 h _ so na ca ns cs zs ps W' (ha.later (below_step hb hb')) l1 (hp.later (below_step hb hb')) l2 h2)
            (fun W' _ hb' => dead_key h b off na ca A so ns cs ps W' l2 (by omega) (hp.later (below_step hb hb')) (by omega) hA' (cell_later (below_step hb hb') c0)) _ (by cases deadK A ps ns <;> rfl)
        · refine RLayout_5 h b off so na ca ns cs A ps W (hp.later hb) l2 (by omega) hA' (by omega) (cell_later hb c0) e (rgood (ha.later hb) (hp.later hb) hq b1 b2 hw (fun W' hb' => ?_))
          rw [← hF]; exact Rfits_5 h _ so na ca ns cs zs ps W' e (ha.later (below_step hb hb')) l1 (hp.later (below_step hb hb')) l2 h2
    · refine ⟨if funB na ps && !(deadN ps) then 0 else 6, fun W hb => ?_, doc _ (by omega) (fun W hb => Rfits_6 h ao so na ca ns cs ps W e (hp.later hb) l2 (by omega))⟩
      exact Layout_6 h _ _ zs ps W (ha.later hb) (hp.later hb) hq b1 b2 hw e _ _ (fun W' hb' => fitsFunc_any h ao so na ca ns cs ps W' (hp.later (below_step hb hb')) l2 (by omega) hcs hcm) (fun W' _ hb' => dn 59 W' (below_step hb hb')) _ rfl
    · refine ⟨if decide (na = 0 ∧ ns = 1) && !(deadN ps) then 0 else 6, fun W hb => ?_, doc _ (by omega) (fun W hb => Rfits_7 h ao so na ca ns cs W e)⟩
      exact Layout_7 h _ _ zs ps W (ha.later hb) (hp.later hb) hq b1 b2 hw e _ _ (fun W' hb' => fitsBox_any h ao so na ca ns cs W') (fun W' _ hb' => dn 60 W' (below_step hb hb')) _ rfl
    · refine ⟨if decide (na = 0) && !(deadN ps) then 0 else 6, fun W hb => ?_, doc _ (by omega) (fun W hb => Rfits_8 h ao so na ca ns cs W e)⟩
      exact Layout_8 h _ _ zs ps W (ha.later hb) (hp.later hb) hq b1 b2 hw e _ _ (fun W' hb' => fitsThread_any h ao so na ca ns cs W') (fun W' _ hb' => dn 61 W' (below_step hb hb')) _ rfl
    · refine ⟨if decide (na = 1) && !(deadN ps) then 0 else 6, fun W hb => ?_, doc _ (by omega) (fun W hb => Rfits_9 h ao so na ca ns cs W e)⟩
      exact Layout_9 h _ _ zs ps W (ha.later hb) (hp.later hb) hq b1 b2 hw e _ _ (fun W' hb' => fitsProto_any h ao so na ca ns cs W') (fun W' _ hb' => dn 62 W' (below_step hb hb')) _ rfl
  · exact ⟨wrongE h zs.length ps, fun W hb => Layout_bad h _ _ zs ps W (ha.later hb) (hp.later hb) hq b1 b2 hw, fun W hb => RLayout_bad h _ _ zs ps W (ha.later hb) (hp.later hb) hq b1 b2 hw⟩

set_option maxHeartbeats 2000000 in
theorem ObjectLayouts_any (h : Hd) (av sv : Value) (zs : List Int) (ps : List (Int × Int)) (w : World) (ha : SliceIs w av zs) (hI : Iall zs) (hR : RoomOK av) (hp : PairsIs w sv ps) (hq : Pall ps) (hS : RoomOK sv) :
    Calls Try.prog 7 #[AO h av sv] w fun e w' => e = .returned (.bool true) ∧ Below w.heap.size w w' := by
  have HSm : Hid (∀ W, Calls Try.prog 25 #[AO h av sv] W fun e w' => e = .returned (.bool (decide (zs.length ≤ 300 ∧ ps.length ≤ 300))) ∧ Below W.heap.size W w') := by
    obtain ⟨ao, ca, rfl⟩ := ha.form
    obtain ⟨so, cs, rfl⟩ := hp.form
    exact fun W => small_any h ao so _ ca _ cs W
  obtain ⟨ao, na, ca, hav, hna⟩ : ∃ ao na ca, av = .slice ao na ca ∧ zs.length = na := by obtain ⟨a, c, e⟩ := ha.form; exact ⟨a, _, c, e, rfl⟩
  obtain ⟨so, ns, cs, hsv, hns⟩ : ∃ so ns cs, sv = .slice so ns cs ∧ ps.length = ns := by obtain ⟨a, c, e⟩ := hp.form; exact ⟨a, _, c, e, rfl⟩
  by_cases hs : zs.length ≤ 300 ∧ ps.length ≤ 300
  · rw [show decide (zs.length ≤ 300 ∧ ps.length ≤ 300) = true by simp [hs]] at HSm
    subst hav
    subst hsv
    obtain ⟨R, hB⟩ := both_any h ao so na ca ns cs zs ps w ha hna hI (hR _ _ _ rfl).1 hp hns hq (hS _ _ _ rfl).1 (hS _ _ _ rfl).2 (by omega) (by omega)
    have HB : Hid (Both w h (.slice ao na ca) (.slice so ns cs) R) := hB
    clear ha hI hR hp hq hs hns hna hS hB
    go_enter Try.func7, Try.ntmps7
    go_wp2_with fail
    refine (HSm.out _).mono ?_
    rintro e w1 ⟨rfl, hb1⟩
    have HS1 : Hid (SeenO w.heap.size h (.slice ao na ca) (.slice so ns cs) w1) := seenO_keep (seenO_new h _ _ w) hb1
    have HB1 : Hid (Below w.heap.size w w1) := ((Below.refl _ _).alloc (Nat.le_refl _) _).trans (hb1.mono (by simp))
    clear hb1 HSm
    go_wp2_with fail
    refine region_quiet_class (C := fun w' => Below w1.heap.size w1 w') (by kernel_rfl) (by kernel_rfl) (Below.refl _ _).drew ?_
    refine q_op (AO h (.slice ao na ca) (.slice so ns cs)) (by kernel_rfl) (fun w3 hw3 => by obtain ⟨r0, r1, r2, r3, r4, r5, r6, r7, r8, r9⟩ := seenO_keep HS1.out hw3; simp [go_sem, r0, r1, r2, r3, r4, r5, r6, r7, r8, r9]) ?_
    simp only [Act.put, List.setIfInBounds_toArray, List.set_cons_zero, List.set_cons_succ]
    refine q_call 32 #[AO h (.slice ao na ca) (.slice so ns cs)] (.int .i64 R) (by kernel_rfl) (fun w3 hw3 => by simp [go_sem]) (fun w3 hw3 => (HB.out.1 w3 (below_step HB1.out hw3)).mono (fun e w4 ⟨he, hb⟩ => ⟨he, Below.trans hw3 (hb.mono (Below.size hw3))⟩)) ?_
    simp only [Act.put, List.setIfInBounds_toArray, List.set_cons_zero, List.set_cons_succ]
    refine q_call 14 #[.int .i64 R] (.int .i64 R) (by kernel_rfl) (fun w3 hw3 => by simp [go_sem]) (fun w3 hw3 => (no_any R w3).mono (fun e w4 ⟨he, hb⟩ => ⟨he, by subst hb; exact hw3⟩)) ?_
    simp only [Act.put, List.setIfInBounds_toArray, List.set_cons_zero, List.set_cons_succ]
    refine q_op (AO h (.slice ao na ca) (.slice so ns cs)) (by kernel_rfl) (fun w3 hw3 => by obtain ⟨r0, r1, r2, r3, r4, r5, r6, r7, r8, r9⟩ := seenO_keep HS1.out hw3; simp [go_sem, r0, r1, r2, r3, r4, r5, r6, r7, r8, r9]) ?_
    simp only [Act.put, List.setIfInBounds_toArray, List.set_cons_zero, List.set_cons_succ]
    refine q_call 33 #[AO h (.slice ao na ca) (.slice so ns cs)] (.int .i64 R) (by kernel_rfl) (fun w3 hw3 => by simp [go_sem]) (fun w3 hw3 => (HB.out.2 w3 (below_step HB1.out hw3)).mono (fun e w4 ⟨he, hb⟩ => ⟨he, Below.trans hw3 (hb.mono (Below.size hw3))⟩)) ?_
    simp only [Act.put, List.setIfInBounds_toArray, List.set_cons_zero, List.set_cons_succ]
    refine q_op (.bool true) (by kernel_rfl) (fun w3 hw3 => by simp [go_sem]) ?_
    simp only [Act.put, List.setIfInBounds_toArray, List.set_cons_zero, List.set_cons_succ]
    refine q_op (.bool true) (by kernel_rfl) (fun w3 hw3 => by simp [go_sem]) ?_
    simp only [Act.put, List.setIfInBounds_toArray, List.set_cons_zero, List.set_cons_succ]
    refine q_call 22 #[] (.bool true) (by kernel_rfl) (fun w3 hw3 => by simp [go_sem]) (fun w3 hw3 => (alive_any w3).mono (fun e w4 ⟨he, hb⟩ => ⟨he, Below.trans hw3 (hb.mono (Below.size hw3))⟩)) ?_
    simp only [Act.put, List.setIfInBounds_toArray, List.set_cons_zero, List.set_cons_succ]
    refine q_op (.bool true) (by kernel_rfl) (fun w3 hw3 => by simp [go_sem]) ?_
    simp only [Act.put, List.setIfInBounds_toArray, List.set_cons_zero, List.set_cons_succ]
    refine q_op (.bool true) (by kernel_rfl) (fun w3 hw3 => by simp [go_sem]) ?_
    simp only [Act.put, List.setIfInBounds_toArray, List.set_cons_zero, List.set_cons_succ]
    refine wpQuiet_nil ?_
    intro w3 H3
    have HB3 : Hid (Below w.heap.size w w3) := below_step HB1.out H3
    clear H3
    go_wp2
    go_ret
    exact ⟨rfl, HB3.out⟩
  · rw [show decide (zs.length ≤ 300 ∧ ps.length ≤ 300) = false by simp only [decide_eq_false hs]] at HSm
    clear ha hI hR hp hq hs hS hna hns
    subst hav
    subst hsv
    go_enter Try.func7, Try.ntmps7
    go_wp2_with fail
    refine (HSm.out _).mono ?_
    rintro e w1 ⟨rfl, hb1⟩
    have HB1 : Hid (Below w.heap.size w w1) := ((Below.refl _ _).alloc (Nat.le_refl _) _).trans (hb1.mono (by simp))
    clear hb1 HSm
    go_wp2_with fail
    refine (alive_any _).mono ?_
    rintro e w6 ⟨rfl, hb6⟩
    have HB6 : Hid (Below w.heap.size w w6) := HB1.out.trans (hb6.mono HB1.out.size)
    clear hb6
    go_wp2
    go_ret
    exact ⟨rfl, HB6.out⟩
end Go.Proofs.Ytnmchcanijkggaa
