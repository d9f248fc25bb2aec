/- The document's Cells. -/
import Derived.Test.YtnmchcanijkggaaQ1
namespace Go.Proofs.Ytnmchcanijkggaa
open Go.RowKit Go.Lib
set_option linter.unusedVariables false
set_option linter.unusedSimpArgs false

set_option maxHeartbeats 2000000 in
theorem RCells_right (h : Hd) (ao so : Option Addr) (na ca ns cs : Nat) (w : World) (hr : rightE h ≠ 0) :
    Calls Try.prog 27 #[AO h (.slice ao na ca) (.slice so ns cs)] w fun e w' => e = .returned (.tuple #[.slice none 0 0, .int .i64 (rightE h)]) ∧ Below w.heap.size w w' := by
  have hr' : (rightE h != 0) = true := by simp [hr]
  clear hr
  go_enter Try.func27, Try.ntmps27
  go_wp2_with fail
  refine (RRight_any _ _).mono ?_
  rintro e w1 ⟨rfl, hb1⟩
  go_wp2
  go_ret2
  exact ⟨rfl, ((Below.refl _ _).alloc (Nat.le_refl _) _).trans (hb1.mono (by simp))⟩

set_option maxHeartbeats 2000000 in
theorem RCells_num (h : Hd) (ao so : Option Addr) (na ca ns cs : Nat) (w : World) (hr : rightE h = 0) (hn : ¬ (h.x = na ∧ h.l = ns)) :
    Calls Try.prog 27 #[AO h (.slice ao na ca) (.slice so ns cs)] w fun e w' => e = .returned (.tuple #[.slice none 0 0, .int .i64 1]) ∧ Below w.heap.size w w' := by
  have hcase : (h.x != (na : Int)) = true ∨ ((h.x != (na : Int)) = false ∧ (h.l != (ns : Int)) = true) := by
    by_cases h1 : h.x = na
    · by_cases h2 : h.l = ns
      · exact absurd ⟨h1, h2⟩ hn
      · exact Or.inr ⟨by simp [h1], by simp [h2]⟩
    · exact Or.inl (by simp [h1])
  clear hn
  go_enter Try.func27, Try.ntmps27
  go_wp2_with fail
  refine (RRight_any _ _).mono ?_
  rintro e w1 ⟨rfl, hb1⟩
  rw [hr]
  have HS1 : Hid (SeenO w.heap.size h (.slice ao na ca) (.slice so ns cs) w1) := seenO_keep (seenO_new h _ _ w) hb1
  have HB1 : Hid (Below w.heap.size w w1) := ((Below.refl _ _).alloc (Nat.le_refl _) _).trans (hb1.mono (by simp))
  clear hb1
  obtain ⟨q0, q1, q2, q3, q4, q5, q6, q7, q8, q9⟩ := HS1.out
  rcases hcase with hc | ⟨hc, hc'⟩
  all_goals (
    go_wp2
    go_ret2
    exact ⟨rfl, HB1.out⟩)

set_option maxHeartbeats 4000000 in
theorem RCells_ok (h : Hd) (ao so : Option Addr) (na ca ns cs : Nat) (zs : List Int) (ps : List (Int × Int)) (w : World) (ha : SliceIs w (.slice ao na ca) zs) (hp : PairsIs w (.slice so ns cs) ps) (l1 : zs.length = na) (l2 : ps.length = ns) (hq : Pall ps) (h1 : na ≤ 100000) (h2 : ns ≤ 100000)
    (hr : rightE h = 0) (hx : h.x = na) (hl : h.l = ns) :
    Calls Try.prog 27 #[AO h (.slice ao na ca) (.slice so ns cs)] w fun e w' => ((allB ps = true ∧ ∃ v, e = .returned (.tuple #[v, .int .i64 0]) ∧ Row w' w.heap.size v (cellsL h zs ps)) ∨ (allB ps = false ∧ e = .returned (.tuple #[.slice none 0 0, .int .i64 6]))) ∧ Below w.heap.size w w' := by
  obtain ⟨x, hx1⟩ : ∃ x, x = c1 h := ⟨_, rfl⟩
  obtain ⟨y, hy1⟩ : ∃ y, y = c2 h := ⟨_, rfl⟩
  have HF : Hid (∀ W, Calls Try.prog 18 #[AH h] W fun e w' => e = .returned (.int .i64 x) ∧ Below W.heap.size W w') := fun W => by rw [hx1]; exact First_any h W hr
  have HG : Hid (∀ W, Calls Try.prog 19 #[AH h] W fun e w' => e = .returned (.int .i64 y) ∧ Below W.heap.size W w') := fun W => by rw [hy1]; exact Second_any h W hr
  have HXY : Hid (cellsL h zs ps = [x, y] ++ zs ++ flatP ps) := by show _ = _; rw [hx1, hy1]; rfl
  have HRR : Hid (∀ W, Calls Try.prog 13 #[AH h] W fun e w' => e = .returned (.int .i64 0) ∧ Below W.heap.size W w') := fun W => by rw [← hr]; exact RRight_any h W
  have HQ : Hid (∀ W, Below w.heap.size w W → SliceIs W (.slice ao na ca) zs ∧ PairsIs W (.slice so ns cs) ps) := fun W hb => ⟨ha.later hb, hp.later hb⟩
  have HL : Hid (zs.length = na ∧ ps.length = ns ∧ Pall ps) := ⟨l1, l2, hq⟩
  have e1 : (h.x != (na : Int)) = false := by simp [hx]
  have e2 : (h.l != (ns : Int)) = false := by simp [hl]
  clear ha hp l1 l2 hq hr hx hl hx1 hy1
  go_enter Try.func27, Try.ntmps27
  go_wp2_with fail
  refine (HRR.out _).mono ?_
  rintro e w1 ⟨rfl, hb1⟩
  have HS1 : Hid (SeenO w.heap.size h (.slice ao na ca) (.slice so ns cs) w1) := seenO_keep (seenO_new h _ _ w) hb1
  have HB1 : Hid (Below w.heap.size w w1) := ((Below.refl _ _).alloc (Nat.le_refl _) _).trans (hb1.mono (by simp))
  have hz1 : w.heap.size < w1.heap.size := by have := hb1.size; simp at this; omega
  clear hb1 HRR
  obtain ⟨q0, q1, q2, q3, q4, q5, q6, q7, q8, q9⟩ := HS1.out
  go_wp2_with fail
  clear q0 q1 q2 q3 q4 q5 q6 q7 q8 q9 e1 e2
  have HS1' : Hid (SeenO w.heap.size h (.slice ao na ca) (.slice so ns cs) w1.drew) := HS1.out
  refine wp_region_held (S := fun w' => SeenO w.heap.size h (.slice ao na ca) (.slice so ns cs) w') (by kernel_rfl) ?_
  refine wpAnyH_take (i := 0) (v := .slice none 0 0) rfl (by kernel_rfl) (by kernel_rfl) (by kernel_rfl) (fun _ _ _ h => h) (Or.inl ⟨by kernel_rfl, ?_⟩) HS1'.out ?_
  · intro w' _; rfl
  try simp only [Act.put, List.setIfInBounds_toArray, List.set_cons_zero, List.set_cons_succ, List.getElem_toArray, List.getElem_cons_zero, List.getElem_cons_succ]
  refine wpAnyH_take (i := 1) (v := .pointer (some ⟨w.heap.size, 0, none⟩)) rfl (by kernel_rfl) (by kernel_rfl) (by kernel_rfl) (fun _ _ _ h => h) (Or.inl ⟨by kernel_rfl, ?_⟩) HS1'.out ?_
  · intro w' _; simp [go_sem]
  try simp only [Act.put, List.setIfInBounds_toArray, List.set_cons_zero, List.set_cons_succ, List.getElem_toArray, List.getElem_cons_zero, List.getElem_cons_succ]
  refine wpAnyH_take (i := 2) (v := AH h) rfl (by kernel_rfl) (by kernel_rfl) (by kernel_rfl) (fun _ _ _ h => h) (Or.inl ⟨by kernel_rfl, ?_⟩) HS1'.out ?_
  · rintro w' ⟨r0, r1, r2, r3, r4, r5, r6, r7, r8, r9⟩; simp [go_sem, r0, r1, r2, r3, r4, r5, r6, r7]
  try simp only [Act.put, List.setIfInBounds_toArray, List.set_cons_zero, List.set_cons_succ, List.getElem_toArray, List.getElem_cons_zero, List.getElem_cons_succ]
  refine wpAnyH_take (i := 4) (v := .pointer (some ⟨w.heap.size, 0, none⟩)) rfl (by kernel_rfl) (by kernel_rfl) (by kernel_rfl) (fun _ _ _ h => h) (Or.inl ⟨by kernel_rfl, ?_⟩) HS1'.out ?_
  · intro w' _; simp [go_sem]
  try simp only [Act.put, List.setIfInBounds_toArray, List.set_cons_zero, List.set_cons_succ, List.getElem_toArray, List.getElem_cons_zero, List.getElem_cons_succ]
  refine wpAnyH_take (i := 5) (v := AH h) rfl (by kernel_rfl) (by kernel_rfl) (by kernel_rfl) (fun _ _ _ h => h) (Or.inl ⟨by kernel_rfl, ?_⟩) HS1'.out ?_
  · rintro w' ⟨r0, r1, r2, r3, r4, r5, r6, r7, r8, r9⟩; simp [go_sem, r0, r1, r2, r3, r4, r5, r6, r7]
  try simp only [Act.put, List.setIfInBounds_toArray, List.set_cons_zero, List.set_cons_succ, List.getElem_toArray, List.getElem_cons_zero, List.getElem_cons_succ]
  refine wpAnyH_ready (rs := [3]) (by kernel_rfl) (by simp) ?_
  refine AllReadyH.cons rfl (fun K hK => ?_) AllReadyH.nil
  go_simp
  refine (HF.out _).mono ?_
  rintro e w2 ⟨rfl, hb2⟩
  have HB12 : Hid (Below w1.heap.size w1 w2) := ((Below.refl _ _).drew).trans hb2
  have HS2 : Hid (SeenO w.heap.size h (.slice ao na ca) (.slice so ns cs) w2) := seenO_keep HS1.out HB12.out
  clear hb2 HF
  refine hK.out _ _ HS2.out (fun _ => ?_)
  clear hK
  try simp only [Act.put, List.setIfInBounds_toArray, List.set_cons_zero, List.set_cons_succ, List.getElem_toArray, List.getElem_cons_zero, List.getElem_cons_succ]
  refine wpAnyH_ready (rs := [6]) (by kernel_rfl) (by simp) ?_
  refine AllReadyH.cons rfl (fun K hK => ?_) AllReadyH.nil
  go_simp
  refine (HG.out _).mono ?_
  rintro e w3 ⟨rfl, hb3⟩
  have HB13 : Hid (Below w1.heap.size w1 w3) := HB12.out.trans (hb3.mono HB12.out.size)
  have HS3 : Hid (SeenO w.heap.size h (.slice ao na ca) (.slice so ns cs) w3) := seenO_keep HS1.out HB13.out
  clear hb3 HG HS2 HB12
  refine hK.out _ _ HS3.out (fun _ => ?_)
  clear hK
  try simp only [Act.put, List.setIfInBounds_toArray, List.set_cons_zero, List.set_cons_succ, List.getElem_toArray, List.getElem_cons_zero, List.getElem_cons_succ]
  have HW3 : Hid (∀ o, Below w1.heap.size w1 (w3.alloc o) ∧ SeenO w.heap.size h (.slice ao na ca) (.slice so ns cs) (w3.alloc o)) := fun o => ⟨HB13.out.alloc HB13.out.size o, seenO_keep HS3.out ((Below.refl _ _).alloc (Nat.le_refl _) o)⟩
  refine wpAnyH_ready (rs := [7]) (by kernel_rfl) (by simp) ?_
  refine AllReadyH.cons rfl (fun K hK => ?_) AllReadyH.nil
  go_simp
  refine hK.out _ _ (HW3.out _).2 (fun _ => ?_)
  clear hK
  try simp only [Act.put, List.setIfInBounds_toArray, List.set_cons_zero, List.set_cons_succ, List.getElem_toArray, List.getElem_cons_zero, List.getElem_cons_succ]
  refine wpAnyH_ready (rs := [8]) (by kernel_rfl) (by simp) ?_
  refine AllReadyH.cons rfl (fun K hK => ?_) AllReadyH.nil
  refine step_app rfl _ _ rfl w1.heap.size (.slice none 0 0) [] rfl (World.ownsRow_nil _ _ _ _) w3.heap.size x y rfl (slice_two w3.heap.size rfl x y) (by decide) (HW3.out _).1.size ?_
  intro v4 w4 HO4 hb4
  have HB14 : Hid (Below w1.heap.size w1 w4) := (HW3.out _).1.trans hb4.out
  have HS4 : Hid (SeenO w.heap.size h (.slice ao na ca) (.slice so ns cs) w4) := seenO_keep HS1.out HB14.out
  clear hb4 HW3 HB13 HS3
  refine hK.out _ _ HS4.out (fun hS4 => ?_)
  clear hK
  try simp only [Act.put, List.setIfInBounds_toArray, List.set_cons_zero, List.set_cons_succ, List.getElem_toArray, List.getElem_cons_zero, List.getElem_cons_succ]
  refine wpAnyH_take (i := 9) (v := v4) rfl (by kernel_rfl) (by kernel_rfl) (by kernel_rfl) (fun _ _ _ h => h) (Or.inl ⟨by kernel_rfl, ?_⟩) hS4 ?_
  · intro w' _; rfl
  try simp only [Act.put, List.setIfInBounds_toArray, List.set_cons_zero, List.set_cons_succ, List.getElem_toArray, List.getElem_cons_zero, List.getElem_cons_succ]
  refine wpAnyH_done (by kernel_rfl) ?_ _
  clear hS4
  have HA4 : Hid (SliceIs w4 (.slice ao na ca) zs) := (HQ.out _ (HB1.out.trans (HB14.out.mono HB1.out.size))).1
  have hz4 : w1.heap.size ≤ w4.heap.size := HB14.out.size
  obtain ⟨q0, q1, q2, q3, q4, q5, q6, q7, q8, q9⟩ := HS4.out
  clear q0 q1 q2 q3 q4 q5 q6 q7
  go_wp2_with (first | (at_builtin; refine app_slice rfl _ _ rfl w1.heap.size _ [x, y] rfl HO4.out _ rfl zs HA4.out ?_ ?_ ?_))
  · have := HL.out.1; simp only [List.length_cons, List.length_nil]; omega
  · exact hz4
  intro v6 w6 HO6 hb6 _
  have HB6 : Hid (Below w1.heap.size w1 w6) := HB14.out.trans hb6.out
  have HS6 : Hid (SeenO w.heap.size h (.slice ao na ca) (.slice so ns cs) w6) := seenO_keep HS1.out HB6.out
  clear hb6 HO4 HB14 HA4 q8 q9 HS4 hz4
  go_wp2_with fail
  go_loopw [5, 6] (fun l i wr => ∃ k : Nat, k ≤ ns ∧ i = .int .i64 k ∧ Hid (Row wr w1.heap.size l ([x, y] ++ zs ++ flatP (ps.take k))) ∧ Hid (allB (ps.take k) = true) ∧ Hid (Below w1.heap.size w1 wr)) (fun _ i _ => ns - (intOf i).toNat)
  case atStart => exact ⟨0, Nat.zero_le _, rfl, by show Row _ _ _ _; rw [List.take_zero]; simpa [flatP] using HO6.out, rfl, HB6.out⟩
  case round =>
    obtain ⟨k, hk, rfl, HO, HAl, HB⟩ := hrel
    have hbr : w1.heap.size ≤ wr.heap.size := HB.out.size
    obtain ⟨q0, q1, q2, q3, q4, q5, q6, q7, q8, q9⟩ := seenO_keep HS1.out HB.out
    clear q0 q1 q2 q3 q4 q5 q6 q7 q8
    by_cases hlt : k < ns
    · have hlen : ps.length = ns := HL.out.2.1
      obtain ⟨t, ht⟩ : ∃ t, t = (ps.getD k (0, 0)).1 := ⟨_, rfl⟩
      obtain ⟨n, hn⟩ : ∃ n, n = (ps.getD k (0, 0)).2 := ⟨_, rfl⟩
      obtain ⟨b, off, hso, e1, e2⟩ := (HQ.out wr (HB1.out.trans (HB.out.mono HB1.out.size))).2.at' (k := k) (by omega)
      subst hso
      have c1 : wr.cell? ⟨b, off + k * 2, none⟩ = some (.int .i64 t) := by rw [ht]; exact e1
      have c2 : wr.cell? ⟨b, off + k * 2 + 1, none⟩ = some (.int .i64 n) := by rw [hn]; exact e2
      have k1 : (0 : Int) ≤ (k : Int) := by omega
      have k2 : (k : Int) < (ns : Int) := by omega
      have HX : Hid (valB t n = valB (ps.getD k (0, 0)).1 (ps.getD k (0, 0)).2) := by show _ = _; rw [ht, hn]
      have HF : Hid (flatP (ps.take (k + 1)) = flatP (ps.take k) ++ [t, n]) := by show _ = _; rw [flat_snoc (by omega), ht, hn]
      clear ht hn e1 e2
      go_wp2_with fail
      refine (RValue_any _ _ _).mono ?_
      rintro e w7 ⟨rfl, hb7⟩
      have HB7 : Hid (Below w1.heap.size w1 w7) := HB.out.trans (hb7.mono hbr)
      have HO7 : Hid (Row w7 w1.heap.size u5 ([x, y] ++ zs ++ flatP (ps.take k))) := World.ownsRow.below HO.out hb7
      have d1 : w7.cell? ⟨b, off + k * 2, none⟩ = some (.int .i64 t) := cell_later hb7 c1
      have d2 : w7.cell? ⟨b, off + k * 2 + 1, none⟩ = some (.int .i64 n) := cell_later hb7 c2
      have d9 : w7.cell? ⟨w.heap.size, 9, none⟩ = some (.slice (some ⟨b, off, none⟩) ns cs) := cell_later hb7 q9
      clear hb7 HO c1 c2 q9
      cases hvb : valB t n
      · go_wp2
        go_ret2
        exact ⟨Or.inr ⟨all_not (by omega) (HX.out.symm.trans hvb), rfl⟩, HB1.out.trans (HB7.out.mono HB1.out.size)⟩
      · have HA2 : Hid (allB (ps.take (k + 1)) = true) := all_snoc (by omega) HAl.out (HX.out.symm.trans hvb)
        go_wp2
        have HS7 : Hid (w7.drew.cell? ⟨w.heap.size, 9, none⟩ = some (.slice (some ⟨b, off, none⟩) ns cs) ∧ w7.drew.cell? ⟨b, off + k * 2, none⟩ = some (.int .i64 t) ∧ w7.drew.cell? ⟨b, off + k * 2 + 1, none⟩ = some (.int .i64 n)) := ⟨d9, d1, d2⟩
        have HLn : Hid (([x, y] ++ zs ++ flatP (ps.take k)).length + 2 ≤ 1000000) := by
          have h3 := HL.out.1
          show _ ≤ _
          simp only [List.length_append, flat_len, List.length_take, List.length_cons, List.length_nil]
          have := Nat.min_le_left k ps.length
          omega
        refine wp_region_held (S := fun w' => w'.cell? ⟨w.heap.size, 9, none⟩ = some (.slice (some ⟨b, off, none⟩) ns cs) ∧ w'.cell? ⟨b, off + k * 2, none⟩ = some (.int .i64 t) ∧ w'.cell? ⟨b, off + k * 2 + 1, none⟩ = some (.int .i64 n)) (by kernel_rfl) ?_
        refine wpAnyH_take (i := 0) (v := u5) rfl (by kernel_rfl) (by kernel_rfl) (by kernel_rfl) (fun _ _ _ h => h) (Or.inl ⟨by kernel_rfl, ?_⟩) HS7.out ?_
        · intro w' _; rfl
        try simp only [Act.put, List.setIfInBounds_toArray, List.set_cons_zero, List.set_cons_succ, List.getElem_toArray, List.getElem_cons_zero, List.getElem_cons_succ]
        refine wpAnyH_take (i := 1) (v := .pointer (some ⟨w.heap.size, 9, none⟩)) rfl (by kernel_rfl) (by kernel_rfl) (by kernel_rfl) (fun _ _ _ h => h) (Or.inl ⟨by kernel_rfl, ?_⟩) HS7.out ?_
        · intro w' _; simp [go_sem]
        try simp only [Act.put, List.setIfInBounds_toArray, List.set_cons_zero, List.set_cons_succ, List.getElem_toArray, List.getElem_cons_zero, List.getElem_cons_succ]
        refine wpAnyH_take (i := 2) (v := .slice (some ⟨b, off, none⟩) ns cs) rfl (by kernel_rfl) (by kernel_rfl) (by kernel_rfl) (fun _ _ _ h => h) (Or.inl ⟨by kernel_rfl, ?_⟩) HS7.out ?_
        · rintro w' ⟨r0, r1, r2⟩; simp [go_sem, r0]
        try simp only [Act.put, List.setIfInBounds_toArray, List.set_cons_zero, List.set_cons_succ, List.getElem_toArray, List.getElem_cons_zero, List.getElem_cons_succ]
        refine wpAnyH_take (i := 3) (v := .int .i64 (k : Int)) rfl (by kernel_rfl) (by kernel_rfl) (by kernel_rfl) (fun _ _ _ h => h) (Or.inl ⟨by kernel_rfl, ?_⟩) HS7.out ?_
        · intro w' _; rfl
        try simp only [Act.put, List.setIfInBounds_toArray, List.set_cons_zero, List.set_cons_succ, List.getElem_toArray, List.getElem_cons_zero, List.getElem_cons_succ]
        refine wpAnyH_take (i := 4) (v := .pointer (some ⟨b, off + k * 2, none⟩)) rfl (by kernel_rfl) (by kernel_rfl) (by kernel_rfl) (fun _ _ _ h => h) (Or.inl ⟨by kernel_rfl, ?_⟩) HS7.out ?_
        · intro w' _; simp [go_sem, k1, k2]
        try simp only [Act.put, List.setIfInBounds_toArray, List.set_cons_zero, List.set_cons_succ, List.getElem_toArray, List.getElem_cons_zero, List.getElem_cons_succ]
        refine wpAnyH_take (i := 5) (v := .pointer (some ⟨b, off + k * 2, none⟩)) rfl (by kernel_rfl) (by kernel_rfl) (by kernel_rfl) (fun _ _ _ h => h) (Or.inl ⟨by kernel_rfl, ?_⟩) HS7.out ?_
        · intro w' _; simp [go_sem]
        try simp only [Act.put, List.setIfInBounds_toArray, List.set_cons_zero, List.set_cons_succ, List.getElem_toArray, List.getElem_cons_zero, List.getElem_cons_succ]
        refine wpAnyH_take (i := 6) (v := .int .i64 t) rfl (by kernel_rfl) (by kernel_rfl) (by kernel_rfl) (fun _ _ _ h => h) (Or.inl ⟨by kernel_rfl, ?_⟩) HS7.out ?_
        · rintro w' ⟨r0, r1, r2⟩; simp [go_sem, r1]
        try simp only [Act.put, List.setIfInBounds_toArray, List.set_cons_zero, List.set_cons_succ, List.getElem_toArray, List.getElem_cons_zero, List.getElem_cons_succ]
        refine wpAnyH_take (i := 7) (v := .pointer (some ⟨w.heap.size, 9, none⟩)) rfl (by kernel_rfl) (by kernel_rfl) (by kernel_rfl) (fun _ _ _ h => h) (Or.inl ⟨by kernel_rfl, ?_⟩) HS7.out ?_
        · intro w' _; simp [go_sem]
        try simp only [Act.put, List.setIfInBounds_toArray, List.set_cons_zero, List.set_cons_succ, List.getElem_toArray, List.getElem_cons_zero, List.getElem_cons_succ]
        refine wpAnyH_take (i := 8) (v := .slice (some ⟨b, off, none⟩) ns cs) rfl (by kernel_rfl) (by kernel_rfl) (by kernel_rfl) (fun _ _ _ h => h) (Or.inl ⟨by kernel_rfl, ?_⟩) HS7.out ?_
        · rintro w' ⟨r0, r1, r2⟩; simp [go_sem, r0]
        try simp only [Act.put, List.setIfInBounds_toArray, List.set_cons_zero, List.set_cons_succ, List.getElem_toArray, List.getElem_cons_zero, List.getElem_cons_succ]
        refine wpAnyH_take (i := 9) (v := .int .i64 (k : Int)) rfl (by kernel_rfl) (by kernel_rfl) (by kernel_rfl) (fun _ _ _ h => h) (Or.inl ⟨by kernel_rfl, ?_⟩) HS7.out ?_
        · intro w' _; rfl
        try simp only [Act.put, List.setIfInBounds_toArray, List.set_cons_zero, List.set_cons_succ, List.getElem_toArray, List.getElem_cons_zero, List.getElem_cons_succ]
        refine wpAnyH_take (i := 10) (v := .pointer (some ⟨b, off + k * 2, none⟩)) rfl (by kernel_rfl) (by kernel_rfl) (by kernel_rfl) (fun _ _ _ h => h) (Or.inl ⟨by kernel_rfl, ?_⟩) HS7.out ?_
        · intro w' _; simp [go_sem, k1, k2]
        try simp only [Act.put, List.setIfInBounds_toArray, List.set_cons_zero, List.set_cons_succ, List.getElem_toArray, List.getElem_cons_zero, List.getElem_cons_succ]
        refine wpAnyH_take (i := 11) (v := .pointer (some ⟨b, off + k * 2 + 1, none⟩)) rfl (by kernel_rfl) (by kernel_rfl) (by kernel_rfl) (fun _ _ _ h => h) (Or.inl ⟨by kernel_rfl, ?_⟩) HS7.out ?_
        · intro w' _; simp [go_sem]
        try simp only [Act.put, List.setIfInBounds_toArray, List.set_cons_zero, List.set_cons_succ, List.getElem_toArray, List.getElem_cons_zero, List.getElem_cons_succ]
        refine wpAnyH_take (i := 12) (v := .int .i64 n) rfl (by kernel_rfl) (by kernel_rfl) (by kernel_rfl) (fun _ _ _ h => h) (Or.inl ⟨by kernel_rfl, ?_⟩) HS7.out ?_
        · rintro w' ⟨r0, r1, r2⟩; simp [go_sem, r2]
        try simp only [Act.put, List.setIfInBounds_toArray, List.set_cons_zero, List.set_cons_succ, List.getElem_toArray, List.getElem_cons_zero, List.getElem_cons_succ]
        have hz7 : w1.heap.size ≤ w7.heap.size := HB7.out.size
        have HW7 : Hid (∀ o, Row (w7.drew.alloc o) w1.heap.size u5 ([x, y] ++ zs ++ flatP (ps.take k)) ∧ Below w1.heap.size w1 (w7.drew.alloc o) ∧ ((w7.drew.alloc o).cell? ⟨w.heap.size, 9, none⟩ = some (.slice (some ⟨b, off, none⟩) ns cs) ∧ (w7.drew.alloc o).cell? ⟨b, off + k * 2, none⟩ = some (.int .i64 t) ∧ (w7.drew.alloc o).cell? ⟨b, off + k * 2 + 1, none⟩ = some (.int .i64 n))) := fun o => ⟨(HO7.out.drew).alloc o, HB7.out.drew.alloc hz7 o, cell_later ((Below.refl w7.drew.heap.size w7.drew).alloc (Nat.le_refl _) o) HS7.out.1, cell_later ((Below.refl w7.drew.heap.size w7.drew).alloc (Nat.le_refl _) o) HS7.out.2.1, cell_later ((Below.refl w7.drew.heap.size w7.drew).alloc (Nat.le_refl _) o) HS7.out.2.2⟩
        refine wpAnyH_ready (rs := [13]) (by kernel_rfl) (by simp) ?_
        refine AllReadyH.cons rfl (fun K hK => ?_) AllReadyH.nil
        go_simp
        refine hK.out _ _ (HW7.out _).2.2 (fun _ => ?_)
        clear hK
        try simp only [Act.put, List.setIfInBounds_toArray, List.set_cons_zero, List.set_cons_succ, List.getElem_toArray, List.getElem_cons_zero, List.getElem_cons_succ]
        refine wpAnyH_ready (rs := [14]) (by kernel_rfl) (by simp) ?_
        refine AllReadyH.cons rfl (fun K hK => ?_) AllReadyH.nil
        refine step_app rfl _ _ rfl w1.heap.size u5 _ rfl (HW7.out _).1 w7.heap.size t n rfl (slice_two w7.heap.size rfl t n) HLn.out (HW7.out _).2.1.size ?_
        intro v8 w8 HO8 hb8
        have HB8 : Hid (Below w1.heap.size w1 w8) := (HW7.out _).2.1.trans hb8.out
        have HS8 : Hid (w8.cell? ⟨w.heap.size, 9, none⟩ = some (.slice (some ⟨b, off, none⟩) ns cs) ∧ w8.cell? ⟨b, off + k * 2, none⟩ = some (.int .i64 t) ∧ w8.cell? ⟨b, off + k * 2 + 1, none⟩ = some (.int .i64 n)) := by
          have hq := (HQ.out w8 (HB1.out.trans (HB8.out.mono HB1.out.size))).2
          have hq7 := (HQ.out w7 (HB1.out.trans (HB7.out.mono HB1.out.size))).2
          obtain ⟨b', off', hso', e1', e2'⟩ := hq.at' (k := k) (by have := HL.out.2.1; omega)
          obtain ⟨b'', off'', hso'', e1'', e2''⟩ := hq7.at' (k := k) (by have := HL.out.2.1; omega)
          injection hso' with hs1
          injection hs1 with hb1' ho1'
          injection hso'' with hs2
          injection hs2 with hb2' ho2'
          subst hb1'; subst ho1'; subst hb2'; subst ho2'
          rw [d1] at e1''
          rw [d2] at e2''
          obtain ⟨_, _, _, _, _, _, _, _, _, q9'⟩ := seenO_keep HS1.out HB8.out
          exact ⟨q9', by rw [e1', ← e1''], by rw [e2', ← e2'']⟩
        have HO9 : Hid (Row w8 w1.heap.size v8 ([x, y] ++ zs ++ flatP (ps.take (k + 1)))) := by
          show Row _ _ _ _
          rw [HF.out]; simpa using HO8.out
        clear hb8 HO8 HW7 HB7 HO7 HS7 d1 d2 d9
        refine hK.out _ _ HS8.out (fun hS8 => ?_)
        clear hK
        try simp only [Act.put, List.setIfInBounds_toArray, List.set_cons_zero, List.set_cons_succ, List.getElem_toArray, List.getElem_cons_zero, List.getElem_cons_succ]
        refine wpAnyH_take (i := 15) (v := v8) rfl (by kernel_rfl) (by kernel_rfl) (by kernel_rfl) (fun _ _ _ h => h) (Or.inl ⟨by kernel_rfl, ?_⟩) hS8 ?_
        · intro w' _; rfl
        try simp only [Act.put, List.setIfInBounds_toArray, List.set_cons_zero, List.set_cons_succ, List.getElem_toArray, List.getElem_cons_zero, List.getElem_cons_succ]
        clear hS8
        refine wpAnyH_done (by kernel_rfl) ?_ _
        go_wp2
        go_roundw
        case rel => exact ⟨k + 1, by omega, by go_num, HO9.out, HA2.out, HB8.out⟩
        case measure => simp [intOf]; omega
    · have he : k = ns := by omega
      subst he
      have HE : Hid (Row wr w.heap.size u5 (cellsL h zs ps)) := by
        show Row _ _ _ _
        have h3 := HO.out
        rw [List.take_of_length_le (by rw [HL.out.2.1]; exact Nat.le_refl _)] at h3
        rw [HXY.out]
        exact h3.mono HB1.out.size
      have HA : Hid (allB ps = true) := by
        have h3 := HAl.out
        rw [List.take_of_length_le (by rw [HL.out.2.1]; exact Nat.le_refl _)] at h3
        exact h3
      have HB9 : Hid (Below w.heap.size w wr) := HB1.out.trans (HB.out.mono HB1.out.size)
      clear HO HB HAl
      go_wp2
      go_ret2
      exact ⟨Or.inl ⟨HA.out, _, rfl, HE.out⟩, HB9.out⟩
end Go.Proofs.Ytnmchcanijkggaa
