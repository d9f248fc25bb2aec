/- StrtabPlays. -/
import Derived.Test.YtnfamebihpnjlaaNa
import Derived.Deep.RegionHeld3
namespace Go.Proofs.Ytnfamebihpnjlaa
open Go.RowKit
set_option linter.unusedSimpArgs false
set_option linter.unusedVariables false

theorem actO_le (n p : Nat) (L : List Ent) (a : Ac) : (actO n p L a).2.2.1 ≤ p + 1 := by
  unfold actO putO dropO
  repeat' split
  all_goals simp

section
variable {P : Program} {md : Region.Mode} {ops : Array Oper} {Q : Exit → Act → World → Prop}
/-- More may be held. -/
theorem wpAnyH_mono {S S' : World → Prop} (hS : ∀ w, S w → S' w) : ∀ (fuel : Nat) (listed : Array Bool) (a : Act) (w : World), wpAnyH P md ops Q S fuel listed a w → wpAnyH P md ops Q S' fuel listed a w
  | 0, _, _, _, h => h
  | fuel + 1, _, _, _, h => ⟨h.1, fun i hi => wpOp_mono (fun a' w' h' => ⟨hS _ h'.1, wpAnyH_mono hS fuel _ a' w' h'.2⟩) (h.2 i hi)⟩
end
/-- What is looked at behind a call. -/
theorem DS.looks {w0 w : World} {A T n p m : Nat} {L K : List Ent} (h : DS w0 w A T n p L m K) : ∃ so sc, w.cell? ⟨T, 0, none⟩ = some (.slice so K.length sc) ∧ w.cell? ⟨T, 1, none⟩ = some (.int .i64 (m : Int)) ∧
    Hid (Calls Try.prog 15 #[.pointer (some ⟨A, 0, none⟩)] w fun e w' => e = .returned (.int .i64 (L.length : Nat)) ∧ w = w') ∧ Hid (Calls Try.prog 16 #[.pointer (some ⟨A, 0, none⟩)] w fun e w' => e = .returned (.int .i64 n) ∧ w = w') := by
  obtain ⟨C, M, vs, v, h1, h2, h3⟩ := h
  obtain ⟨so, sc, e⟩ := SRow.form h2.row
  obtain ⟨c0, c1⟩ := h2.cells
  rw [e] at c0
  exact ⟨so, sc, c0, c1, Len_any w h1.hA h1.map, Buckets_any w h1.hA⟩

set_option maxRecDepth 100000 in
set_option maxHeartbeats 8000000 in
theorem StrtabPlays_any (v : Value) (La : List Ac) (s : ByteArray) (h : Int) (w : World) (hL : Acts w v La) (hs : s.size ≤ maxLen) (hh : wf h) :
    Calls Try.prog 3 #[v, .string s, .int .i64 h] w fun e w' => e = .returned (.bool true) ∧ Kept No w w' := by
  have mixed : Try.prog.follows .mixedOrders = true := by kernel_rfl
  have HAc : Hid (Acts w v La) := hL
  obtain ⟨ao, cap, rfl, hwf, hcl⟩ := hL
  have HWf : Hid (∀ a ∈ La, wf a.h ∧ a.s.size ≤ maxLen) := hwf
  have HSH : Hid (s.size ≤ maxLen ∧ wf h) := ⟨hs, hh⟩
  clear hwf hcl hh
  unfold maxLen at hs
  go_enter Try.func3, Try.ntmps3
  go_wp2_with fail
  refine (New_any _).mono ?_
  rintro e w1 ⟨A, C, M, rfl, h1, h2⟩
  have H1 : Hid (Rep w1 w.heap.size A C M 4 0 0 (List.replicate 4 nilS) [] ∧ Kept No w w1) := ⟨h1, h2⟩
  clear h1 h2
  go_wp2_with fail
  refine (RNew_any _).mono ?_
  rintro e w2 ⟨rfl, h3, h4⟩
  have HD0 : Hid (DS w w2 A w1.heap.size 4 0 [] 4 []) := ⟨C, M, _, _, H1.out.1.no h4, ⟨h3.hT, h3.row.base H1.out.2.size, H1.out.2.size⟩, H1.out.2.trans h4⟩
  clear h3 h4 H1
  generalize w1.heap.size = T at HD0 ⊢
  go_wp2_with fail
  refine (alive_any _).mono ?_
  rintro e w3 ⟨rfl, hk3⟩
  have HD1 : Hid (DS w w3 A T 4 0 [] 4 []) := HD0.out.no hk3
  clear hk3 HD0
  have HLg : Hid _ := long_any (HAc.out.kept HD1.out.since)
  go_wp2_with fail
  refine Calls.mono HLg.out ?_
  rintro e w4 ⟨t, rfl, hl, rfl⟩
  clear HLg
  cases t with
  | true =>
    go_wp2
    go_ret
    exact ⟨rfl, HD1.out.since⟩
  | false =>
  have hl100 : La.length ≤ 100 := hl rfl
  clear hl
  by_cases h5 : (5000 : Int) < (s.size : Int)
  · go_wp2
    go_ret
    exact ⟨rfl, HD1.out.since⟩
  go_wp2_with fail
  go_loopw [9, 10, 11, 12, 13, 14, 15, 16, 17, 18] (fun i _ _ _ _ _ _ _ _ _ wr => ∃ j : Nat, j ≤ La.length ∧ i = .int .i64 (j : Int) ∧ Hid (∃ n p L, DS w wr A T n p L n L ∧ WfT n p L ∧ p ≤ j)) (fun i _ _ _ _ _ _ _ _ _ _ => La.length - (ivO i).toNat)
  case atStart => exact ⟨0, Nat.zero_le _, rfl, 4, 0, [], HD1.out, WfT.start, Nat.le_refl _⟩
  case round =>
    clear HD1
    obtain ⟨j, hj, rfl, HJ⟩ := hrel
    by_cases hlt : j < La.length
    · obtain ⟨n, p, L, hd, hwft, hpj⟩ := HJ.out
      obtain ⟨x, hx⟩ : ∃ x, La[j]? = some x := ⟨La[j]'hlt, List.getElem?_eq_getElem _⟩
      have hI := HWf.out x (List.mem_of_getElem? hx)
      have HD : Hid (DS w wr A T n p L n L) := hd
      obtain ⟨ao', cap', hv', _, hc'⟩ := HAc.out
      injection hv' with e1 e2 e3
      subst e1
      obtain ⟨b, off, rfl, hc⟩ := hc' (by omega)
      have HCl : Hid _ := hc j x hx
      have hbds : n ≤ 100000 ∧ L.length ≤ p := by
        obtain ⟨C, M, vs, v, g1, _⟩ := hd
        exact ⟨g1.n2, g1.map.le⟩
      obtain ⟨hn5, hlp⟩ := hbds
      have HDo : Hid (∀ W, Kept No wr W → Calls Try.prog 13 #[.pointer (some ⟨A, 0, none⟩), acV x] W fun e w' => e = .returned (.int .i64 (actO n p L x).1) ∧ DS w w' A T (actO n p L x).2.1 (actO n p L x).2.2.1 (actO n p L x).2.2.2 n L ∧ WfT (actO n p L x).2.1 (actO n p L x).2.2.1 (actO n p L x).2.2.2) := fun W hW => (hd.no hW).do hwft (by omega) x hI.1 hI.2
      have HAs : Hid (∀ W, DS w W A T (actO n p L x).2.1 (actO n p L x).2.2.1 (actO n p L x).2.2.2 n L → Calls Try.prog 14 #[.pointer (some ⟨T, 0, none⟩), acV x] W fun e w' => e = .returned (.int .i64 (actO n p L x).1) ∧ DS w w' A T (actO n p L x).2.1 (actO n p L x).2.2.1 (actO n p L x).2.2.2 (actO n p L x).2.1 (actO n p L x).2.2.2) := fun W hW => hW.asked (by omega) hn5 p x
      have hple := actO_le n p L x
      clear hd hwft hx hI hc hc' e2 e3 HJ
      generalize actO n p L x = R at HDo HAs hple
      obtain ⟨r, n', p', L'⟩ := R
      dsimp only at HDo HAs hple
      obtain ⟨kd, xs, xh⟩ := x
      obtain ⟨c0w, c1w, c2w⟩ := HCl.out
      have HCw : Hid (∀ W, Kept No w W → W.cell? ⟨b, off + j * 3, none⟩ = some (.int .i64 kd) ∧ W.cell? ⟨b, off + j * 3 + 1, none⟩ = some (.string xs) ∧ W.cell? ⟨b, off + j * 3 + 2, none⟩ = some (.int .i64 xh)) := fun W hW => ⟨hW.cell c0w, hW.cell c1w, hW.cell c2w⟩
      clear c0w c1w c2w HCl
      have j1 : (j : Int) < (La.length : Int) := by omega
      obtain ⟨c0, c1, c2⟩ := HCw.out wr HD.out.since
      go_upto_region 9 with fail
      go_cut [71] (fun v wx => v = .bool false ∧ Hid (DS w wx A T n' p' L' n' L' ∧ WfT n' p' L'))
      case first =>
        have HS0 : wr.drew.cell? ⟨b, off + j * 3, none⟩ = some (.int .i64 kd) ∧ wr.drew.cell? ⟨b, off + j * 3 + 1, none⟩ = some (.string xs) ∧ wr.drew.cell? ⟨b, off + j * 3 + 2, none⟩ = some (.int .i64 xh) := ⟨c0, c1, c2⟩
        refine wp_region_noPanic ?_
        refine wp_region_held_drew (S := fun w' => w'.cell? ⟨b, off + j * 3, none⟩ = some (.int .i64 kd) ∧ w'.cell? ⟨b, off + j * 3 + 1, none⟩ = some (.string xs) ∧ w'.cell? ⟨b, off + j * 3 + 2, none⟩ = some (.int .i64 xh)) (by kernel_rfl) HS0 (fun hHeld => ?_)
        clear HS0
        refine wpAnyH_take (i := 0) (v := ?vTk0) rfl (by kernel_rfl) (by kernel_rfl) (by kernel_rfl) (fun _ _ _ h => h) (Or.inl ⟨by rfl, ?yTk0⟩) (by assumption) ?rTk0
        case yTk0 => (intro w' hSw; obtain ⟨q0, q1, q2⟩ := hSw; go_simp; try with_reducible rfl)
        case rTk0 =>
        try simp only [Act.put, List.setIfInBounds_toArray, List.set_cons_zero, List.set_cons_succ, List.getElem_toArray, List.getElem_cons_zero, List.getElem_cons_succ]
        refine wpAnyH_take (i := 1) (v := ?vTk1) rfl (by kernel_rfl) (by kernel_rfl) (by kernel_rfl) (fun _ _ _ h => h) (Or.inl ⟨by rfl, ?yTk1⟩) (by assumption) ?rTk1
        case yTk1 => (intro w' hSw; obtain ⟨q0, q1, q2⟩ := hSw; go_simp; try with_reducible rfl)
        case rTk1 =>
        try simp only [Act.put, List.setIfInBounds_toArray, List.set_cons_zero, List.set_cons_succ, List.getElem_toArray, List.getElem_cons_zero, List.getElem_cons_succ]
        refine wpAnyH_take (i := 2) (v := ?vTk2) rfl (by kernel_rfl) (by kernel_rfl) (by kernel_rfl) (fun _ _ _ h => h) (Or.inl ⟨by rfl, ?yTk2⟩) (by assumption) ?rTk2
        case yTk2 => (intro w' hSw; obtain ⟨q0, q1, q2⟩ := hSw; go_simp; try with_reducible rfl)
        case rTk2 =>
        try simp only [Act.put, List.setIfInBounds_toArray, List.set_cons_zero, List.set_cons_succ, List.getElem_toArray, List.getElem_cons_zero, List.getElem_cons_succ]
        refine wpAnyH_take (i := 3) (v := ?vTk3) rfl (by kernel_rfl) (by kernel_rfl) (by kernel_rfl) (fun _ _ _ h => h) (Or.inl ⟨by rfl, ?yTk3⟩) (by assumption) ?rTk3
        case yTk3 => (intro w' hSw; obtain ⟨q0, q1, q2⟩ := hSw; go_simp; try with_reducible rfl)
        case rTk3 =>
        try simp only [Act.put, List.setIfInBounds_toArray, List.set_cons_zero, List.set_cons_succ, List.getElem_toArray, List.getElem_cons_zero, List.getElem_cons_succ]
        refine wpAnyH_take (i := 4) (v := ?vTk4) rfl (by kernel_rfl) (by kernel_rfl) (by kernel_rfl) (fun _ _ _ h => h) (Or.inl ⟨by rfl, ?yTk4⟩) (by assumption) ?rTk4
        case yTk4 => (intro w' hSw; obtain ⟨q0, q1, q2⟩ := hSw; go_simp; try with_reducible rfl)
        case rTk4 =>
        try simp only [Act.put, List.setIfInBounds_toArray, List.set_cons_zero, List.set_cons_succ, List.getElem_toArray, List.getElem_cons_zero, List.getElem_cons_succ]
        refine wpAnyH_take (i := 6) (v := ?vTk6) rfl (by kernel_rfl) (by kernel_rfl) (by kernel_rfl) (fun _ _ _ h => h) (Or.inl ⟨by rfl, ?yTk6⟩) (by assumption) ?rTk6
        case yTk6 => (intro w' hSw; obtain ⟨q0, q1, q2⟩ := hSw; go_simp; try with_reducible rfl)
        case rTk6 =>
        try simp only [Act.put, List.setIfInBounds_toArray, List.set_cons_zero, List.set_cons_succ, List.getElem_toArray, List.getElem_cons_zero, List.getElem_cons_succ]
        refine wpAnyH_take (i := 7) (v := ?vTk7) rfl (by kernel_rfl) (by kernel_rfl) (by kernel_rfl) (fun _ _ _ h => h) (Or.inl ⟨by rfl, ?yTk7⟩) (by assumption) ?rTk7
        case yTk7 => (intro w' hSw; obtain ⟨q0, q1, q2⟩ := hSw; go_simp; try with_reducible rfl)
        case rTk7 =>
        try simp only [Act.put, List.setIfInBounds_toArray, List.set_cons_zero, List.set_cons_succ, List.getElem_toArray, List.getElem_cons_zero, List.getElem_cons_succ]
        refine wpAnyH_take (i := 8) (v := ?vTk8) rfl (by kernel_rfl) (by kernel_rfl) (by kernel_rfl) (fun _ _ _ h => h) (Or.inl ⟨by rfl, ?yTk8⟩) (by assumption) ?rTk8
        case yTk8 => (intro w' hSw; obtain ⟨q0, q1, q2⟩ := hSw; go_simp; try with_reducible rfl)
        case rTk8 =>
        try simp only [Act.put, List.setIfInBounds_toArray, List.set_cons_zero, List.set_cons_succ, List.getElem_toArray, List.getElem_cons_zero, List.getElem_cons_succ]
        refine wpAnyH_take (i := 9) (v := ?vTk9) rfl (by kernel_rfl) (by kernel_rfl) (by kernel_rfl) (fun _ _ _ h => h) (Or.inl ⟨by rfl, ?yTk9⟩) (by assumption) ?rTk9
        case yTk9 => (intro w' hSw; obtain ⟨q0, q1, q2⟩ := hSw; go_simp; try with_reducible rfl)
        case rTk9 =>
        try simp only [Act.put, List.setIfInBounds_toArray, List.set_cons_zero, List.set_cons_succ, List.getElem_toArray, List.getElem_cons_zero, List.getElem_cons_succ]
        refine wpAnyH_take (i := 10) (v := ?vTk10) rfl (by kernel_rfl) (by kernel_rfl) (by kernel_rfl) (fun _ _ _ h => h) (Or.inl ⟨by rfl, ?yTk10⟩) (by assumption) ?rTk10
        case yTk10 => (intro w' hSw; obtain ⟨q0, q1, q2⟩ := hSw; go_simp; try with_reducible rfl)
        case rTk10 =>
        try simp only [Act.put, List.setIfInBounds_toArray, List.set_cons_zero, List.set_cons_succ, List.getElem_toArray, List.getElem_cons_zero, List.getElem_cons_succ]
        refine wpAnyH_ready (rs := [5]) (by kernel_rfl) (by simp) ?_
        refine AllReadyH.cons rfl (fun K hK => ?_) AllReadyH.nil
        go_simp
        refine Calls.mono (HDo.out _ (Kept.refl _ _).drew) ?_
        rintro e w5 ⟨rfl, hd5, hw5⟩
        have HD5 : Hid (DS w w5 A T n' p' L' n L) := hd5
        have HW5 : Hid (WfT n' p' L') := hw5
        clear hd5 hw5 hHeld
        have hHeld := HCw.out w5 HD5.out.since
        try go_wp2_with fail
        refine hK.out _ _ hHeld (fun _ => ?_)
        clear hK K
        try simp only [Act.put, List.setIfInBounds_toArray, List.set_cons_zero, List.set_cons_succ, List.getElem_toArray, List.getElem_cons_zero, List.getElem_cons_succ]
        refine wpAnyH_ready (rs := [11]) (by kernel_rfl) (by simp) ?_
        refine AllReadyH.cons rfl (fun K hK => ?_) AllReadyH.nil
        go_simp
        refine Calls.mono (HAs.out _ HD5.out) ?_
        rintro e w6 ⟨rfl, hd6⟩
        have HD6 : Hid (DS w w6 A T n' p' L' n' L') := hd6
        obtain ⟨so, sc, t0, t1, HLn, HBk⟩ := hd6.looks
        clear hd6 hHeld HD5
        have hHeld := HCw.out w6 HD6.out.since
        try go_wp2_with fail
        refine hK.out _ _ hHeld (fun _ => ?_)
        clear hK K
        try simp only [Act.put, List.setIfInBounds_toArray, List.set_cons_zero, List.set_cons_succ, List.getElem_toArray, List.getElem_cons_zero, List.getElem_cons_succ]
        refine wpAnyH_mono (S := fun w' => (w'.cell? ⟨b, off + j * 3, none⟩ = some (.int .i64 kd) ∧ w'.cell? ⟨b, off + j * 3 + 1, none⟩ = some (.string xs) ∧ w'.cell? ⟨b, off + j * 3 + 2, none⟩ = some (.int .i64 xh)) ∧ w'.cell? ⟨T, 0, none⟩ = some (.slice so L'.length sc) ∧ w'.cell? ⟨T, 1, none⟩ = some (.int .i64 (n' : Int))) (fun _ h => h.1) _ _ _ _ ?_
        have hHeld2 : (w6.cell? ⟨b, off + j * 3, none⟩ = some (.int .i64 kd) ∧ w6.cell? ⟨b, off + j * 3 + 1, none⟩ = some (.string xs) ∧ w6.cell? ⟨b, off + j * 3 + 2, none⟩ = some (.int .i64 xh)) ∧ w6.cell? ⟨T, 0, none⟩ = some (.slice so L'.length sc) ∧ w6.cell? ⟨T, 1, none⟩ = some (.int .i64 (n' : Int)) := ⟨hHeld, t0, t1⟩
        refine wpAnyH_take (i := 12) (v := ?vTk12) rfl (by kernel_rfl) (by kernel_rfl) (by kernel_rfl) (fun _ _ _ h => h) (Or.inl ⟨by rfl, ?yTk12⟩) (by assumption) ?rTk12
        case yTk12 => (intro w' hSw; obtain ⟨⟨q0, q1, q2⟩, q3, q4⟩ := hSw; go_simp; try with_reducible rfl)
        case rTk12 =>
        try simp only [Act.put, List.setIfInBounds_toArray, List.set_cons_zero, List.set_cons_succ, List.getElem_toArray, List.getElem_cons_zero, List.getElem_cons_succ]
        refine wpAnyH_take (i := 13) (v := ?vTk13) rfl (by kernel_rfl) (by kernel_rfl) (by kernel_rfl) (fun _ _ _ h => h) (Or.inl ⟨by rfl, ?yTk13⟩) (by assumption) ?rTk13
        case yTk13 => (intro w' hSw; obtain ⟨⟨q0, q1, q2⟩, q3, q4⟩ := hSw; go_simp; try with_reducible rfl)
        case rTk13 =>
        try simp only [Act.put, List.setIfInBounds_toArray, List.set_cons_zero, List.set_cons_succ, List.getElem_toArray, List.getElem_cons_zero, List.getElem_cons_succ]
        refine wpAnyH_take (i := 14) (v := ?vTk14) rfl (by kernel_rfl) (by kernel_rfl) (by kernel_rfl) (fun _ _ _ h => h) (Or.inl ⟨by rfl, ?yTk14⟩) (by assumption) ?rTk14
        case yTk14 => (intro w' hSw; obtain ⟨⟨q0, q1, q2⟩, q3, q4⟩ := hSw; go_simp; try with_reducible rfl)
        case rTk14 =>
        try simp only [Act.put, List.setIfInBounds_toArray, List.set_cons_zero, List.set_cons_succ, List.getElem_toArray, List.getElem_cons_zero, List.getElem_cons_succ]
        refine wpAnyH_take (i := 16) (v := ?vTk16) rfl (by kernel_rfl) (by kernel_rfl) (by kernel_rfl) (fun _ _ _ h => h) (Or.inl ⟨by rfl, ?yTk16⟩) (by assumption) ?rTk16
        case yTk16 => (intro w' hSw; obtain ⟨⟨q0, q1, q2⟩, q3, q4⟩ := hSw; go_simp; try with_reducible rfl)
        case rTk16 =>
        try simp only [Act.put, List.setIfInBounds_toArray, List.set_cons_zero, List.set_cons_succ, List.getElem_toArray, List.getElem_cons_zero, List.getElem_cons_succ]
        refine wpAnyH_take (i := 17) (v := ?vTk17) rfl (by kernel_rfl) (by kernel_rfl) (by kernel_rfl) (fun _ _ _ h => h) (Or.inl ⟨by rfl, ?yTk17⟩) (by assumption) ?rTk17
        case yTk17 => (intro w' hSw; obtain ⟨⟨q0, q1, q2⟩, q3, q4⟩ := hSw; go_simp; try with_reducible rfl)
        case rTk17 =>
        try simp only [Act.put, List.setIfInBounds_toArray, List.set_cons_zero, List.set_cons_succ, List.getElem_toArray, List.getElem_cons_zero, List.getElem_cons_succ]
        refine wpAnyH_take (i := 18) (v := ?vTk18) rfl (by kernel_rfl) (by kernel_rfl) (by kernel_rfl) (fun _ _ _ h => h) (Or.inl ⟨by rfl, ?yTk18⟩) (by assumption) ?rTk18
        case yTk18 => (intro w' hSw; obtain ⟨⟨q0, q1, q2⟩, q3, q4⟩ := hSw; go_simp; try with_reducible rfl)
        case rTk18 =>
        try simp only [Act.put, List.setIfInBounds_toArray, List.set_cons_zero, List.set_cons_succ, List.getElem_toArray, List.getElem_cons_zero, List.getElem_cons_succ]
        refine wpAnyH_take (i := 19) (v := ?vTk19) rfl (by kernel_rfl) (by kernel_rfl) (by kernel_rfl) (fun _ _ _ h => h) (Or.inl ⟨by rfl, ?yTk19⟩) (by assumption) ?rTk19
        case yTk19 => (intro w' hSw; obtain ⟨⟨q0, q1, q2⟩, q3, q4⟩ := hSw; go_simp; try with_reducible rfl)
        case rTk19 =>
        try simp only [Act.put, List.setIfInBounds_toArray, List.set_cons_zero, List.set_cons_succ, List.getElem_toArray, List.getElem_cons_zero, List.getElem_cons_succ]
        refine wpAnyH_take (i := 20) (v := ?vTk20) rfl (by kernel_rfl) (by kernel_rfl) (by kernel_rfl) (fun _ _ _ h => h) (Or.inl ⟨by rfl, ?yTk20⟩) (by assumption) ?rTk20
        case yTk20 => (intro w' hSw; obtain ⟨⟨q0, q1, q2⟩, q3, q4⟩ := hSw; go_simp; try with_reducible rfl)
        case rTk20 =>
        try simp only [Act.put, List.setIfInBounds_toArray, List.set_cons_zero, List.set_cons_succ, List.getElem_toArray, List.getElem_cons_zero, List.getElem_cons_succ]
        refine wpAnyH_ready (rs := [15]) (by kernel_rfl) (by simp) ?_
        refine AllReadyH.cons rfl (fun K hK => ?_) AllReadyH.nil
        go_simp
        refine Calls.mono HLn.out ?_
        rintro e w7 ⟨rfl, rfl⟩
        try go_wp2_with fail
        refine hK.out _ _ hHeld2 (fun _ => ?_)
        clear hK K
        try simp only [Act.put, List.setIfInBounds_toArray, List.set_cons_zero, List.set_cons_succ, List.getElem_toArray, List.getElem_cons_zero, List.getElem_cons_succ]
        refine wpAnyH_take (i := 21) (v := ?vTk21) rfl (by kernel_rfl) (by kernel_rfl) (by kernel_rfl) (fun _ _ _ h => h) (Or.inl ⟨by rfl, ?yTk21⟩) (by assumption) ?rTk21
        case yTk21 => (intro w' hSw; obtain ⟨⟨q0, q1, q2⟩, q3, q4⟩ := hSw; go_simp; try with_reducible rfl)
        case rTk21 =>
        try simp only [Act.put, List.setIfInBounds_toArray, List.set_cons_zero, List.set_cons_succ, List.getElem_toArray, List.getElem_cons_zero, List.getElem_cons_succ]
        refine wpAnyH_take (i := 22) (v := ?vTk22) rfl (by kernel_rfl) (by kernel_rfl) (by kernel_rfl) (fun _ _ _ h => h) (Or.inl ⟨by rfl, ?yTk22⟩) (by assumption) ?rTk22
        case yTk22 => (intro w' hSw; obtain ⟨⟨q0, q1, q2⟩, q3, q4⟩ := hSw; go_simp; try with_reducible rfl)
        case rTk22 =>
        try simp only [Act.put, List.setIfInBounds_toArray, List.set_cons_zero, List.set_cons_succ, List.getElem_toArray, List.getElem_cons_zero, List.getElem_cons_succ]
        refine wpAnyH_take (i := 23) (v := ?vTk23) rfl (by kernel_rfl) (by kernel_rfl) (by kernel_rfl) (fun _ _ _ h => h) (Or.inl ⟨by rfl, ?yTk23⟩) (by assumption) ?rTk23
        case yTk23 => (intro w' hSw; obtain ⟨⟨q0, q1, q2⟩, q3, q4⟩ := hSw; go_simp; try with_reducible rfl)
        case rTk23 =>
        try simp only [Act.put, List.setIfInBounds_toArray, List.set_cons_zero, List.set_cons_succ, List.getElem_toArray, List.getElem_cons_zero, List.getElem_cons_succ]
        refine wpAnyH_take (i := 24) (v := ?vTk24) rfl (by kernel_rfl) (by kernel_rfl) (by kernel_rfl) (fun _ _ _ h => h) (Or.inl ⟨by rfl, ?yTk24⟩) (by assumption) ?rTk24
        case yTk24 => (intro w' hSw; obtain ⟨⟨q0, q1, q2⟩, q3, q4⟩ := hSw; go_simp; try with_reducible rfl)
        case rTk24 =>
        try simp only [Act.put, List.setIfInBounds_toArray, List.set_cons_zero, List.set_cons_succ, List.getElem_toArray, List.getElem_cons_zero, List.getElem_cons_succ]
        refine wpAnyH_take (i := 26) (v := ?vTk26) rfl (by kernel_rfl) (by kernel_rfl) (by kernel_rfl) (fun _ _ _ h => h) (Or.inl ⟨by rfl, ?yTk26⟩) (by assumption) ?rTk26
        case yTk26 => (intro w' hSw; obtain ⟨⟨q0, q1, q2⟩, q3, q4⟩ := hSw; go_simp; try with_reducible rfl)
        case rTk26 =>
        try simp only [Act.put, List.setIfInBounds_toArray, List.set_cons_zero, List.set_cons_succ, List.getElem_toArray, List.getElem_cons_zero, List.getElem_cons_succ]
        refine wpAnyH_take (i := 27) (v := ?vTk27) rfl (by kernel_rfl) (by kernel_rfl) (by kernel_rfl) (fun _ _ _ h => h) (Or.inl ⟨by rfl, ?yTk27⟩) (by assumption) ?rTk27
        case yTk27 => (intro w' hSw; obtain ⟨⟨q0, q1, q2⟩, q3, q4⟩ := hSw; go_simp; try with_reducible rfl)
        case rTk27 =>
        try simp only [Act.put, List.setIfInBounds_toArray, List.set_cons_zero, List.set_cons_succ, List.getElem_toArray, List.getElem_cons_zero, List.getElem_cons_succ]
        refine wpAnyH_take (i := 28) (v := ?vTk28) rfl (by kernel_rfl) (by kernel_rfl) (by kernel_rfl) (fun _ _ _ h => h) (Or.inl ⟨by rfl, ?yTk28⟩) (by assumption) ?rTk28
        case yTk28 => (intro w' hSw; obtain ⟨⟨q0, q1, q2⟩, q3, q4⟩ := hSw; go_simp; try with_reducible rfl)
        case rTk28 =>
        try simp only [Act.put, List.setIfInBounds_toArray, List.set_cons_zero, List.set_cons_succ, List.getElem_toArray, List.getElem_cons_zero, List.getElem_cons_succ]
        refine wpAnyH_take (i := 29) (v := ?vTk29) rfl (by kernel_rfl) (by kernel_rfl) (by kernel_rfl) (fun _ _ _ h => h) (Or.inl ⟨by rfl, ?yTk29⟩) (by assumption) ?rTk29
        case yTk29 => (intro w' hSw; obtain ⟨⟨q0, q1, q2⟩, q3, q4⟩ := hSw; go_simp; try with_reducible rfl)
        case rTk29 =>
        try simp only [Act.put, List.setIfInBounds_toArray, List.set_cons_zero, List.set_cons_succ, List.getElem_toArray, List.getElem_cons_zero, List.getElem_cons_succ]
        refine wpAnyH_ready (rs := [25]) (by kernel_rfl) (by simp) ?_
        refine AllReadyH.cons rfl (fun K hK => ?_) AllReadyH.nil
        go_simp
        refine Calls.mono HBk.out ?_
        rintro e w7 ⟨rfl, rfl⟩
        try go_wp2_with fail
        refine hK.out _ _ hHeld2 (fun _ => ?_)
        clear hK K
        try simp only [Act.put, List.setIfInBounds_toArray, List.set_cons_zero, List.set_cons_succ, List.getElem_toArray, List.getElem_cons_zero, List.getElem_cons_succ]
        refine wpAnyH_take (i := 30) (v := ?vTk30) rfl (by kernel_rfl) (by kernel_rfl) (by kernel_rfl) (fun _ _ _ h => h) (Or.inl ⟨by rfl, ?yTk30⟩) (by assumption) ?rTk30
        case yTk30 => (intro w' hSw; obtain ⟨⟨q0, q1, q2⟩, q3, q4⟩ := hSw; go_simp; try with_reducible rfl)
        case rTk30 =>
        try simp only [Act.put, List.setIfInBounds_toArray, List.set_cons_zero, List.set_cons_succ, List.getElem_toArray, List.getElem_cons_zero, List.getElem_cons_succ]
        refine wpAnyH_take (i := 31) (v := ?vTk31) rfl (by kernel_rfl) (by kernel_rfl) (by kernel_rfl) (fun _ _ _ h => h) (Or.inl ⟨by rfl, ?yTk31⟩) (by assumption) ?rTk31
        case yTk31 => (intro w' hSw; obtain ⟨⟨q0, q1, q2⟩, q3, q4⟩ := hSw; go_simp; try with_reducible rfl)
        case rTk31 =>
        try simp only [Act.put, List.setIfInBounds_toArray, List.set_cons_zero, List.set_cons_succ, List.getElem_toArray, List.getElem_cons_zero, List.getElem_cons_succ]
        refine wpAnyH_done (by kernel_rfl) ?_ _
        refine NoPanic.normal ?_
        go_wp2
        go_meet
        exact ⟨rfl, HD6.out, HW5.out⟩
      case rest =>
        clear c0 c1 c2 HD HDo HAs HCw
        obtain ⟨rfl, HE⟩ := hcut
        have HFi : Hid (∀ W, Kept No wc W → Calls Try.prog 17 #[.pointer (some ⟨A, 0, none⟩), .string s] W fun e w' => e = .returned (findV L' s) ∧ Kept No W w') := by
          intro W hW
          obtain ⟨C1, M1, vs1, v1, g1, g2, g3⟩ := HE.out.1.no hW
          exact (Find_any g1 s HSH.out.1).mono (fun e w' ⟨h1, m, h2⟩ => ⟨h1, by rw [h2]; exact (Kept.refl _ _).drewN m⟩)
        have hL' : L'.length ≤ p' := by
          obtain ⟨C1, M1, vs1, v1, g1, g2, g3⟩ := HE.out.1
          exact g1.map.le
        have HRF : Hid (∀ W, Kept No wc W → Calls Try.prog 18 #[.pointer (some ⟨T, 0, none⟩), .string s] W fun e w' => e = .returned (findV L' s) ∧ W = w') := by
          intro W hW
          obtain ⟨C1, M1, vs1, v1, g1, g2, g3⟩ := HE.out.1.no hW
          exact RFind_any g2 (by omega) s
        have HTx : Hid (∀ W, Kept No wc W → Calls Try.prog 19 #[.pointer (some ⟨A, 0, none⟩), .int .i64 h] W fun e w' => e = .returned (textV L' h) ∧ Kept No W w') := by
          intro W hW
          obtain ⟨C1, M1, vs1, v1, g1, g2, g3⟩ := HE.out.1.no hW
          exact Text_any g1 h HSH.out.2
        have HRT : Hid (∀ W, Kept No wc W → Calls Try.prog 20 #[.pointer (some ⟨T, 0, none⟩), .int .i64 h] W fun e w' => e = .returned (textV L' h) ∧ W = w') := by
          intro W hW
          obtain ⟨C1, M1, vs1, v1, g1, g2, g3⟩ := HE.out.1.no hW
          exact RText_any g2 (by omega) h
        obtain ⟨f1, f2, hf⟩ : ∃ f1 f2, findV L' s = .tuple #[.int .i64 f1, .bool f2] := ⟨_, _, rfl⟩
        obtain ⟨x1, x2, hx⟩ : ∃ x1 x2, textV L' h = .tuple #[.string x1, .bool x2] := ⟨_, _, rfl⟩
        rw [hf] at HFi HRF
        rw [hx] at HTx HRT
        clear hf hx
        go_wp2_with fail
        refine Calls.mono (HFi.out _ (Kept.refl _ _)) ?_
        rintro e W1 ⟨rfl, hk1⟩
        have HK1 : Hid (Kept No wc W1) := hk1
        clear hk1
        go_wp2_with fail
        refine Calls.mono (HRF.out _ HK1.out) ?_
        rintro e W2 ⟨rfl, rfl⟩
        go_wp2_with fail
        refine Calls.mono (HTx.out _ HK1.out) ?_
        rintro e W3 ⟨rfl, hk3⟩
        have HK3 : Hid (Kept No wc W3) := HK1.out.trans hk3
        clear hk3
        go_wp2_with fail
        refine Calls.mono (HRT.out _ HK3.out) ?_
        rintro e W4 ⟨rfl, rfl⟩
        have HD4 : Hid (DS w W3 A T n' p' L' n' L') := HE.out.1.no HK3.out
        have HWw : Hid (WfT n' p' L') := HE.out.2
        clear HFi HRF HTx HRT HK1 HK3 HE
        go_wp2_with fail
        go_loopw [18] (fun v wx => ∃ k : Nat, k ≤ n' + 2 ∧ v = .int .i64 ((k : Int) - 1) ∧ Hid (DS w wx A T n' p' L' n' L')) (fun v _ => ((n' : Int) + 1 - ivO v).toNat)
        case atStart => exact ⟨0, by omega, by first | rfl | go_num, HD4.out⟩
        case round =>
          clear HD4
          obtain ⟨k, hk, rfl, HDk⟩ := hrel
          obtain ⟨so, sc, t0, t1, _, _⟩ := HDk.out.looks
          have hn' : n' ≤ 100000 := by
            obtain ⟨C1, M1, vs1, v1, g1, g2, g3⟩ := HDk.out
            exact g1.n2
          by_cases hkn : (k : Int) - 1 ≤ (n' : Int)
          · obtain ⟨l, hl, hc⟩ := HDk.out.chains (by omega) (k := (k : Int) - 1) (by omega) hkn
            have HC : Hid _ := hc
            clear hc
            go_wp2_with fail
            refine Calls.mono HC.out ?_
            rintro e W5 ⟨v5, rfl, h5a, h5k, h5c⟩
            have H5 : Hid (IRow W5 wr.heap.size v5 l ∧ Kept No wr W5) := ⟨h5a, h5k⟩
            have H5c : Hid _ := h5c
            clear h5a h5k h5c HC t0 t1
            go_wp2_with fail
            refine Calls.mono H5c.out ?_
            rintro e W6 ⟨v6, rfl, h6a, h6k⟩
            have H6 : Hid (Kept No wr W6) := H5.out.2.trans h6k
            have HI6 : Hid _ := Ints_same (H5.out.1.no h6k) h6a hl
            clear h6a h6k H5 H5c
            go_wp2_with fail
            refine Calls.mono HI6.out ?_
            rintro e W7 ⟨rfl, h7⟩
            have HD7 : Hid (DS w W7 A T n' p' L' n' L') := HDk.out.no (H6.out.trans h7)
            clear h7 HI6 H6 HDk
            go_wp2
            go_round
            case rel => exact ⟨k + 1, by omega, by first | rfl | go_num | (congr 1; omega), HD7.out⟩
            case measure => simp [ivO] <;> omega
          · go_wp2
            go_round
            case rel => exact ⟨j + 1, by omega, by go_num, n', p', L', HDk.out, HWw.out, by omega⟩
            case measure => simp [ivO] <;> omega
    · obtain rfl : j = La.length := by omega
      have HKe : Hid (Kept No w wr) := by obtain ⟨n, p, L, hd, _⟩ := HJ.out; exact hd.since
      clear HJ
      go_wp2
      go_ret
      exact ⟨rfl, HKe.out⟩
end Go.Proofs.Ytnfamebihpnjlaa
