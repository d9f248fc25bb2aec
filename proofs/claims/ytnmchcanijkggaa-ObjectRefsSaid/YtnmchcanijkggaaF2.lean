/- ObjectRefs: the document's Refs, and the walk. -/
import Derived.Test.YtnmchcanijkggaaF1
namespace Go.Proofs.Ytnmchcanijkggaa
open Go.RowKit Go.Lib
set_option linter.unusedVariables false
set_option linter.unusedSimpArgs false

set_option maxHeartbeats 4000000 in
theorem RRefs_any (h : Hd) (ao so : Option Addr) (na ca ns cs : Nat) (ps : List (Int × Int)) (w : World) (hp : PairsIs w (.slice so ns cs) ps) (l2 : ps.length = ns) (h2 : ns ≤ 100000) :
    Calls Try.prog 36 #[AO h (.slice ao na ca) (.slice so ns cs)] w fun e w' => (∃ v, e = .returned v ∧ Row3 w' w.heap.size v (refsL ps)) ∧ Below w.heap.size w w' := by
  have HQ : Hid (∀ W, Below w.heap.size w W → PairsIs W (.slice so ns cs) ps) := fun W hb => hp.later hb
  have HL : Hid (ps.length = ns) := l2
  clear hp l2
  go_enter Try.func36, Try.ntmps36
  go_wp2_with fail
  have HW0 : Hid (∃ W0, W0 = w.alloc (.cells #[.int .i64 h.k, .int .i64 h.c, .int .i64 h.a, .int .i64 h.w, .int .i64 h.s, .int .i64 h.f, .int .i64 h.x, .int .i64 h.l, .slice ao na ca, .slice so ns cs] 43)) := ⟨_, rfl⟩
  obtain ⟨W0, hW0⟩ := HW0.out
  have HS0 : Hid (SeenO w.heap.size h (.slice ao na ca) (.slice so ns cs) W0) := by rw [hW0]; exact seenO_new h _ _ w
  have HB0 : Hid (Below w.heap.size w W0) := by rw [hW0]; exact (Below.refl _ _).alloc (Nat.le_refl _) _
  rw [← hW0]
  clear hW0 HW0
  have hz0 : w.heap.size ≤ W0.heap.size := HB0.out.size
  go_loopw [3, 4] (fun l i wr => ∃ k : Nat, k ≤ ns ∧ i = .int .i64 k ∧ Hid (Row3 wr W0.heap.size l (refsL (ps.take k))) ∧ Hid (Below W0.heap.size W0 wr)) (fun _ i _ => ns - (intOf i).toNat)
  case atStart => exact ⟨0, Nat.zero_le _, rfl, World.ownsRow_nil _ _ _ _, Below.refl _ _⟩
  case round =>
    obtain ⟨k, hk, rfl, HO, HB⟩ := hrel
    have hbr : W0.heap.size ≤ wr.heap.size := HB.out.size
    obtain ⟨_, _, _, _, _, _, _, _, _, q9⟩ := seenO_keep HS0.out HB.out
    by_cases hlt : k < ns
    · have hlen : ps.length = ns := HL.out
      obtain ⟨t, ht⟩ : ∃ t, t = (ps.getD k (0, 0)).1 := ⟨_, rfl⟩
      obtain ⟨n, hn⟩ : ∃ n, n = (ps.getD k (0, 0)).2 := ⟨_, rfl⟩
      obtain ⟨b, off, hso, e1, e2⟩ := (HQ.out wr (HB0.out.trans (HB.out.mono hz0))).at' (k := k) (by omega)
      subst hso
      have c1 : wr.cell? ⟨b, off + k * 2, none⟩ = some (.int .i64 t) := by rw [ht]; exact e1
      have c2 : wr.cell? ⟨b, off + k * 2 + 1, none⟩ = some (.int .i64 n) := by rw [hn]; exact e2
      have k1 : (0 : Int) ≤ (k : Int) := by omega
      have k2 : (k : Int) < (ns : Int) := by omega
      have HX : Hid (obB (ps.getD k (0, 0)) = obB (t, n)) := by show _ = _; rw [ht, hn]
      have HY : Hid (obB (ps.getD k (0, 0)) = true → refsL (ps.take (k + 1)) = refsL (ps.take k) ++ [n]) := fun h => by rw [refs_yes (by omega) h, hn]
      have HZ : Hid (obB (ps.getD k (0, 0)) = false → refsL (ps.take (k + 1)) = refsL (ps.take k)) := fun h => refs_no (by omega) h
      have HLn : Hid ((refsL (ps.take k)).length + 1 ≤ 1000000) := by have := refs_len ps k; show _ ≤ _; omega
      clear ht hn e1 e2
      go_wp2_with fail
      refine (RObject_any _ _ _).mono ?_
      rintro e w2 ⟨rfl, hb2⟩
      have HB2 : Hid (Below W0.heap.size W0 w2) := HB.out.trans (hb2.mono hbr)
      have HO2 : Hid (Row3 w2 W0.heap.size u3 (refsL (ps.take k))) := World.ownsRow.below HO.out hb2
      have d2 : w2.cell? ⟨b, off + k * 2 + 1, none⟩ = some (.int .i64 n) := cell_later hb2 c2
      have d9 : w2.cell? ⟨w.heap.size, 9, none⟩ = some (.slice (some ⟨b, off, none⟩) ns cs) := cell_later hb2 q9
      have hz2 : W0.heap.size ≤ w2.heap.size := HB2.out.size
      clear hb2 HO c1 c2 q9
      cases hv : obB (t, n)
      · have HE : Hid (Row3 w2 W0.heap.size u3 (refsL (ps.take (k + 1)))) := by
          show Row3 _ _ _ _
          rw [HZ.out (by rw [HX.out, hv])]; exact HO2.out
        go_wp2
        go_roundw
        case rel => exact ⟨k + 1, by omega, by go_num, HE.out, HB2.out⟩
        case measure => simp [intOf]; omega
      · go_wp2_with (first | (at_builtin; refine app_one rfl _ _ rfl W0.heap.size u3 _ rfl (World.ownsRow.alloc HO2.out _) w2.heap.size rfl n (slice_one w2.heap.size rfl n) HLn.out ?_ ?_))
        · simp; omega
        intro v4 w4 HO4 hb4
        have HB4 : Hid (Below W0.heap.size W0 w4) := (HB2.out.alloc hz2 _).trans hb4.out
        have HE : Hid (Row3 w4 W0.heap.size v4 (refsL (ps.take (k + 1)))) := by
          show Row3 _ _ _ _
          rw [HY.out (by rw [HX.out, hv])]; exact HO4.out
        clear hb4 HO4 HO2 HB2 d2 d9
        go_wp2
        go_roundw
        case rel => exact ⟨k + 1, by omega, by go_num, HE.out, HB4.out⟩
        case measure => simp [intOf]; omega
    · have he : k = ns := by omega
      subst he
      have HE : Hid (Row3 wr w.heap.size u3 (refsL ps)) := by
        have h3 := HO.out
        rw [List.take_of_length_le (by rw [HL.out]; exact Nat.le_refl _)] at h3
        refine ⟨h3.1, h3.2.imp id ?_⟩
        rintro ⟨g, cap, cur, e, hg, r⟩
        exact ⟨g, cap, cur, e, Nat.le_trans hz0 hg, r⟩
      have HB9 : Hid (Below w.heap.size w wr) := HB0.out.trans (HB.out.mono hz0)
      clear HO HB
      go_wp2
      go_ret
      exact ⟨⟨_, rfl, HE.out⟩, HB9.out⟩

set_option maxHeartbeats 2000000 in
theorem ObjectRefs_any (h : Hd) (av sv : Value) (zs : List Int) (ps : List (Int × Int)) (w : World) (ha : SliceIs w av zs) (hI : Iall zs) (hR : RoomOK av) (hp : PairsIs w sv ps) (hq : Pall ps) :
    Calls Try.prog 8 #[AO h av sv] w fun e w' => e = .returned (.bool true) ∧ Below w.heap.size w w' := by
  have HSm : Hid (∀ W, Calls Try.prog 25 #[AO h av sv] W fun e w' => e = .returned (.bool (decide (zs.length ≤ 300 ∧ ps.length ≤ 300))) ∧ Below W.heap.size W w') := by
    obtain ⟨ao, ca, rfl⟩ := ha.form
    obtain ⟨so, cs, rfl⟩ := hp.form
    exact fun W => small_any h ao so _ ca _ cs W
  obtain ⟨ao, na, ca, hav⟩ : ∃ ao na ca, av = .slice ao na ca := by obtain ⟨a, c, e⟩ := ha.form; exact ⟨a, _, c, e⟩
  obtain ⟨so, ns, cs, hsv, hns⟩ : ∃ so ns cs, sv = .slice so ns cs ∧ ps.length = ns := by obtain ⟨a, c, e⟩ := hp.form; exact ⟨a, _, c, e, rfl⟩
  by_cases hs : zs.length ≤ 300 ∧ ps.length ≤ 300
  · rw [show decide (zs.length ≤ 300 ∧ ps.length ≤ 300) = true by simp [hs]] at HSm
    subst hav
    subst hsv
    have HC : Hid (∀ W, Below w.heap.size w W → Calls Try.prog 35 #[AO h (.slice ao na ca) (.slice so ns cs)] W fun e w' => (∃ v, e = .returned v ∧ SliceIs w' v (refsL ps)) ∧ Below W.heap.size W w') := fun W hb => (Refs_any h ao so na ca ns cs ps W (hp.later hb) hns hq (by omega)).mono fun e w' ⟨⟨v, he, hr⟩, hb'⟩ => ⟨⟨v, he, hr.slice⟩, hb'⟩
    have HD : Hid (∀ W, Below w.heap.size w W → Calls Try.prog 36 #[AO h (.slice ao na ca) (.slice so ns cs)] W fun e w' => (∃ v, e = .returned v ∧ SliceIs w' v (refsL ps)) ∧ Below W.heap.size W w') := fun W hb => (RRefs_any h ao so na ca ns cs ps W (hp.later hb) hns (by omega)).mono fun e w' ⟨⟨v, he, hr⟩, hb'⟩ => ⟨⟨v, he, hr.slice⟩, hb'⟩
    have HSa : Hid (∀ (W : World) (a b : Value), SliceIs W a (refsL ps) → SliceIs W b (refsL ps) → Calls Try.prog 34 #[a, b] W fun e w' => e = .returned (.bool true) ∧ Below W.heap.size W w') := by
      intro W a b h1 h2
      have hl := refs_len ps ps.length
      rw [List.take_length] at hl
      have := Ints_any a b (refsL ps) (refsL ps) W h1 h2 (by omega)
      rwa [show decide (refsL ps = refsL ps) = true by simp] at this
    clear ha hI hR hp hq hs hns
    go_enter Try.func8, Try.ntmps8
    go_wp2_with fail
    refine (HSm.out _).mono ?_
    rintro e w1 ⟨rfl, hb1⟩
    have HS1 : Hid (SeenO w.heap.size h (.slice ao na ca) (.slice so ns cs) w1) := seenO_keep (seenO_new h _ _ w) hb1
    have HB1 : Hid (Below w.heap.size w w1) := ((Below.refl _ _).alloc (Nat.le_refl _) _).trans (hb1.mono (by simp))
    clear hb1 HSm
    go_wp2_with fail
    have HS1' : Hid (SeenO w.heap.size h (.slice ao na ca) (.slice so ns cs) w1.drew) := HS1.out
    have HB1' : Hid (Below w.heap.size w w1.drew) := HB1.out.drew
    clear HB1
    refine wp_region_held (S := fun w' => SeenO w.heap.size h (.slice ao na ca) (.slice so ns cs) w') (by kernel_rfl) ?_
    refine wpAnyH_take (i := 0) (v := AO h (.slice ao na ca) (.slice so ns cs)) rfl (by kernel_rfl) (by kernel_rfl) (by kernel_rfl) (fun _ _ _ h => h) (Or.inl ⟨by kernel_rfl, ?_⟩) HS1'.out ?_
    · rintro w' ⟨r0, r1, r2, r3, r4, r5, r6, r7, r8, r9⟩; simp [go_sem, r0, r1, r2, r3, r4, r5, r6, r7, r8, r9]
    try simp only [Act.put, List.setIfInBounds_toArray, List.set_cons_zero, List.set_cons_succ, List.getElem_toArray, List.getElem_cons_zero, List.getElem_cons_succ]
    refine wpAnyH_take (i := 2) (v := AO h (.slice ao na ca) (.slice so ns cs)) rfl (by kernel_rfl) (by kernel_rfl) (by kernel_rfl) (fun _ _ _ h => h) (Or.inl ⟨by kernel_rfl, ?_⟩) HS1'.out ?_
    · rintro w' ⟨r0, r1, r2, r3, r4, r5, r6, r7, r8, r9⟩; simp [go_sem, r0, r1, r2, r3, r4, r5, r6, r7, r8, r9]
    try simp only [Act.put, List.setIfInBounds_toArray, List.set_cons_zero, List.set_cons_succ, List.getElem_toArray, List.getElem_cons_zero, List.getElem_cons_succ]
    refine wpAnyH_ready (rs := [1]) (by kernel_rfl) (by simp) ?_
    refine AllReadyH.cons rfl (fun K hK => ?_) AllReadyH.nil
    go_simp
    refine (HC.out _ HB1'.out).mono ?_
    rintro e w2 ⟨⟨v2, rfl, s2⟩, hb2⟩
    have HB2 : Hid (Below w.heap.size w w2) := HB1'.out.trans (hb2.mono HB1'.out.size)
    have HS2 : Hid (SeenO w.heap.size h (.slice ao na ca) (.slice so ns cs) w2) := seenO_keep HS1'.out hb2
    have HX2 : Hid (SliceIs w2 v2 (refsL ps)) := s2
    clear hb2 s2 HC HB1' HS1' HS1
    refine hK.out _ _ HS2.out (fun _ => ?_)
    clear hK
    try simp only [Act.put, List.setIfInBounds_toArray, List.set_cons_zero, List.set_cons_succ, List.getElem_toArray, List.getElem_cons_zero, List.getElem_cons_succ]
    refine wpAnyH_ready (rs := [3]) (by kernel_rfl) (by simp) ?_
    refine AllReadyH.cons rfl (fun K hK => ?_) AllReadyH.nil
    go_simp
    refine (HD.out _ HB2.out).mono ?_
    rintro e w3 ⟨⟨v3, rfl, s3⟩, hb3⟩
    have HB3 : Hid (Below w.heap.size w w3) := HB2.out.trans (hb3.mono HB2.out.size)
    have HS3 : Hid (SeenO w.heap.size h (.slice ao na ca) (.slice so ns cs) w3) := seenO_keep HS2.out hb3
    have HX3 : Hid (SliceIs w3 v2 (refsL ps) ∧ SliceIs w3 v3 (refsL ps)) := ⟨HX2.out.later hb3, s3⟩
    clear hb3 s3 HD HB2 HS2 HX2
    refine hK.out _ _ HS3.out (fun _ => ?_)
    clear hK
    try simp only [Act.put, List.setIfInBounds_toArray, List.set_cons_zero, List.set_cons_succ, List.getElem_toArray, List.getElem_cons_zero, List.getElem_cons_succ]
    refine wpAnyH_ready (rs := [4]) (by kernel_rfl) (by simp) ?_
    refine AllReadyH.cons rfl (fun K hK => ?_) AllReadyH.nil
    go_simp
    refine (HSa.out _ v2 v3 HX3.out.1 HX3.out.2).mono ?_
    rintro e w4 ⟨rfl, hb4⟩
    have HB4 : Hid (Below w.heap.size w w4) := HB3.out.trans (hb4.mono HB3.out.size)
    have HS4 : Hid (SeenO w.heap.size h (.slice ao na ca) (.slice so ns cs) w4) := seenO_keep HS3.out hb4
    clear hb4 HSa HB3 HS3 HX3
    refine hK.out _ _ HS4.out (fun _ => ?_)
    clear hK
    try simp only [Act.put, List.setIfInBounds_toArray, List.set_cons_zero, List.set_cons_succ, List.getElem_toArray, List.getElem_cons_zero, List.getElem_cons_succ]
    refine wpAnyH_take (i := 5) (v := .bool true) rfl (by kernel_rfl) (by kernel_rfl) (by kernel_rfl) (fun _ _ _ h => h) (Or.inl ⟨by kernel_rfl, ?_⟩) HS4.out ?_
    · intro w' _; rfl
    try simp only [Act.put, List.setIfInBounds_toArray, List.set_cons_zero, List.set_cons_succ, List.getElem_toArray, List.getElem_cons_zero, List.getElem_cons_succ]
    refine wpAnyH_ready (rs := [6]) (by kernel_rfl) (by simp) ?_
    refine AllReadyH.cons rfl (fun K hK => ?_) AllReadyH.nil
    go_simp
    refine (alive_any _).mono ?_
    rintro e w5 ⟨rfl, hb5⟩
    have HB5 : Hid (Below w.heap.size w w5) := HB4.out.trans (hb5.mono HB4.out.size)
    have HS5 : Hid (SeenO w.heap.size h (.slice ao na ca) (.slice so ns cs) w5) := seenO_keep HS4.out hb5
    clear hb5 HB4 HS4
    refine hK.out _ _ HS5.out (fun _ => ?_)
    clear hK
    try simp only [Act.put, List.setIfInBounds_toArray, List.set_cons_zero, List.set_cons_succ, List.getElem_toArray, List.getElem_cons_zero, List.getElem_cons_succ]
    refine wpAnyH_take (i := 7) (v := .bool true) rfl (by kernel_rfl) (by kernel_rfl) (by kernel_rfl) (fun _ _ _ h => h) (Or.inl ⟨by kernel_rfl, ?_⟩) HS5.out ?_
    · intro w' _; simp [go_sem]
    try simp only [Act.put, List.setIfInBounds_toArray, List.set_cons_zero, List.set_cons_succ, List.getElem_toArray, List.getElem_cons_zero, List.getElem_cons_succ]
    refine wpAnyH_take (i := 8) (v := .bool true) rfl (by kernel_rfl) (by kernel_rfl) (by kernel_rfl) (fun _ _ _ h => h) (Or.inl ⟨by kernel_rfl, ?_⟩) HS5.out ?_
    · intro w' _; rfl
    try simp only [Act.put, List.setIfInBounds_toArray, List.set_cons_zero, List.set_cons_succ, List.getElem_toArray, List.getElem_cons_zero, List.getElem_cons_succ]
    refine wpAnyH_done (by kernel_rfl) ?_ _
    go_wp2
    go_ret
    exact ⟨rfl, HB5.out⟩
  · rw [show decide (zs.length ≤ 300 ∧ ps.length ≤ 300) = false by simp only [decide_eq_false hs]] at HSm
    clear ha hI hR hp hq hs hns
    subst hav
    subst hsv
    go_enter Try.func8, Try.ntmps8
    go_wp2_with fail
    refine (HSm.out _).mono ?_
    rintro e w1 ⟨rfl, hb1⟩
    have HB1 : Hid (Below w.heap.size w w1) := ((Below.refl _ _).alloc (Nat.le_refl _) _).trans (hb1.mono (by simp))
    clear hb1 HSm
    go_wp2_with fail
    refine (alive_any _).mono ?_
    rintro e w6 ⟨rfl, hb6⟩
    have HB6 : Hid (Below w.heap.size w w6) := HB1.out.trans (hb6.mono HB1.out.size)
    clear hb6
    go_wp2
    go_ret
    exact ⟨rfl, HB6.out⟩
end Go.Proofs.Ytnmchcanijkggaa
