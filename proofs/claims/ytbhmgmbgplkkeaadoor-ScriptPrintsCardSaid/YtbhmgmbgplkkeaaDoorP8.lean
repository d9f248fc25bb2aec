/- Points or the source. -/
import Derived.Test.YtbhmgmbgplkkeaaDoorP7
import Derived.Test.YtbhmgmbgplkkeaaDoorRU
namespace Go.Proofs.YtbhmgmbgplkkeaaDoor
open Go.RowKit
set_option linter.unusedSimpArgs false
set_option linter.unusedVariables false

/-- A point is appended, in a region that draws its order. -/
theorem app_valO {o : Oper} {a : Act} {K : Act → World → Prop} {Q : Exit → Act → World → Prop} {w : World} (s x : Operand)
    (ho : o.op = .call { callee := .builtin .append, args := #[s, x], argTypes := #[23, 23] }) {base : Nat} {v : Value} {L : List V} (hs : a.eval s = v) (hrow : VRow w base v L)
    (N : Nat) (e : V) (hx : a.eval x = .slice (some ⟨N, 0, none⟩) 1 1) (hN : w.heap[N]? = some (.cells #[.int .i64 e.1, .int .i64 e.2] 45 (0, 0))) (hlen : L.length + 1 ≤ 1000000) (hbase : base ≤ w.heap.size)
    (h : ∀ v' w', VRow w' base v' (L ++ [e]) → w.grownBy w' v.ownBlock → (v'.ownBlock = v.ownBlock ∨ v'.ownBlock = some w.heap.size) → K (a.put o.dst v') w') : o.wp Tryd.prog a w K Q := by
  obtain ⟨i0, hi, hz0, hz1, hz2⟩ := info_parts info45
  obtain ⟨v', w', hr, h2, h3, h4, h5⟩ := run_append_own_at (P := Tryd.prog) w base 23 o.type 45 i0 (.agg #[.int .i64 0, .int .i64 0]) 2 16 Tryd.underlying23 hi hz0 hz1 hz2 rfl (by decide) v L.length (ic (flatV L)) hrow ⟨N, 0, none⟩ 1 1 (ic (flatV [e])) rfl
    (by
      intro j u hu
      have hc := cell_of hN
      rcases j with _ | _ | j
      · simp [ic, flatV] at hu; subst hu; simpa [Addr.add] using hc 0
      · simp [ic, flatV] at hu; subst hu; simpa [Addr.add] using hc 1
      · simp [ic, flatV] at hu) (ic_one _) (by unfold maxLen; omega) (by omega) hbase
  unfold Oper.wp execOp
  simp only [ho, resolve, invoke, builtin, Sem.run_bind, Sem.run_pure, Result.andThen_ok, List.map_toArray, List.map_cons, List.map_nil, hs, hx, hr]
  refine h v' w' ?_ h3 h5
  show World.ownsRow _ _ _ _ _ _ _
  rw [List.length_append, flatV_append, ic_append]; exact h2

/-- What lies at B or behind may turn. -/
abbrev KB (B : Nat) : Nat → Prop := fun k => B ≤ k
/-- While points are appended. -/
structure PtS (B c : Nat) (s src : ByteArray) (z n : Int) (nv : Value) (bx : Nat) (p : V) (w wr : World) (pv : Value) (L : List V) : Prop where
  rb : RB wr c s z n pv src nv
  row : VRow wr B pv L
  ne : ∀ g, pv.ownBlock = some g → g < wr.heap.size ∧ g ≠ bx ∧ g ≠ c
  box : wr.heap[bx]? = some (.cells #[.int .i64 p.1, .int .i64 p.2] 45 (0, 0))
  kp : Kept (KB B) w wr
  hc : B ≤ c ∧ B ≤ bx ∧ c ≠ bx

set_option maxRecDepth 20000 in
set_option maxHeartbeats 4000000 in
/-- The points of a line are appended. -/
theorem points_ok {w : World} {B c : Nat} {s src : ByteArray} {z n : Int} {pv nv : Value} {pts : List V} (hb : RB w c s z n pv src nv) (hrow : VRow w B pv pts) (hBc : B ≤ c) (hBw : B ≤ w.heap.size) (hpl : pts.length ≤ 4000) (hm : MaxIs w) (hr : RowsIs w)
    (line : List UInt8) (hl : line.length ≤ 90000) (hsr : line ≠ srW) (p : V) (k : Nat) (hlf : lineF line = some (p, k)) (hk : pts.length + k ≤ 4000) :
    Calls Tryd.prog 53 #[PT c, .string (mk line)] w fun e w' => e = .returned (.int .i64 0) ∧ (∃ pv', RB w' c s z n pv' src nv ∧ VRow w' B pv' (pts ++ List.replicate k p)) ∧ Kept (KB B) w w' := by
  have hcm : (line == [115, 111, 117, 114, 99, 101]) = false := by rw [beq_eq_false_iff_ne]; exact hsr
  have HP : Hid (Calls Tryd.prog 61 #[.string (mk line)] w fun e w' => e = .returned (.tuple #[.agg #[.int .i64 p.1, .int .i64 p.2], .int .i64 (k : Int), .bool true]) ∧ Kept No w w') := by
    have := pointsOf_any (mk line) (by rw [mk_size]; omega) w hm hr
    rw [bl_mk, hlf] at this
    refine Calls.mono this ?_
    rintro e w' ⟨⟨p', k', rfl, hq⟩, hk⟩
    have := hq _ rfl
    injection this with h1 h2
    subst h1 h2
    exact ⟨rfl, hk⟩
  have HB : Hid (RB w c s z n pv src nv) := hb
  have HRow : Hid (VRow w B pv pts) := hrow
  have HFm : Hid (∃ ao cp, pv = .slice ao pts.length cp) := hrow.form
  obtain ⟨p1, p2⟩ := p
  clear hm hr hlf hb hrow
  go_enter Tryd.func53, Tryd.ntmps53
  go_wp2_with fail
  refine Calls.mono HP.out ?_
  rintro e w1 ⟨rfl, hk1⟩
  obtain ⟨W, HW⟩ : ∃ W, Hid (W = w1.alloc (.cells #[.int .i64 p1, .int .i64 p2] 45)) := ⟨_, rfl⟩
  obtain ⟨bx, hbx⟩ : ∃ bx, Hid (bx = w1.heap.size) := ⟨_, rfl⟩
  have HPS : Hid (PtS B c s src z n nv bx (p1, p2) w W pv pts) := by
    have hkW : Kept No w W := by rw [HW.out]; exact Kept.trans hk1 ((Kept.refl No w1).alloc _)
    have hwz := hk1.size
    refine ⟨hkW.heap HB.out id, HRow.out.turn (fun q hq => hkW.block q (hp_lt (HRow.out.block hq).2.choose_spec) id), fun g hg => ?_, ?_, hkW.mono (fun _ e => e.elim), ⟨hBc, ?_, ?_⟩⟩
    · have h1 := hp_lt (HRow.out.block hg).2.choose_spec
      refine ⟨Nat.lt_of_lt_of_le h1 hkW.size, ?_, ?_⟩
      · have := hbx.out; omega
      · intro e
        subst e
        obtain ⟨_, cc, hcc⟩ := HRow.out.block hg
        have h2 := hcc.symm.trans HB.out
        injection h2 with h2
        injection h2 with _ h3
        exact absurd h3 (by decide)
    · rw [HW.out, hbx.out]; exact World.alloc_heap_new w1 _
    · have := hbx.out; omega
    · have := hp_lt HB.out
      have := hbx.out
      omega
  clear hk1 HP HB HRow
  obtain ⟨ao, cp, rfl⟩ := HFm.out
  have c3 : W.cell? ⟨c, 3, none⟩ = some (.slice ao pts.length cp) := by rw [cell_of HPS.out.rb]; rfl
  have i1 : ¬ ((4000 : Int) - (pts.length : Int) < (k : Int)) := by omega
  have HPS2 : Hid (∃ pv', PtS B c s src z n nv bx (p1, p2) w W pv' (pts ++ List.replicate 0 (p1, p2))) := ⟨_, by rw [List.replicate_zero, List.append_nil]; exact HPS.out⟩
  go_wp2_with (first | rw [← HW.out, ← hbx.out])
  clear HPS c3
  go_loopw [30] (fun v30 wr => ∃ i : Nat, i ≤ k ∧ v30 = .int .i64 i ∧ Hid (∃ pv', PtS B c s src z n nv bx (p1, p2) w wr pv' (pts ++ List.replicate i (p1, p2)))) (fun v30 _ => k - (intOf v30).toNat)
  case atStart => exact ⟨0, by omega, rfl, HPS2.out⟩
  case round =>
    clear HPS2 HFm HW
    obtain ⟨i, hi, rfl, HR⟩ := hrel
    obtain ⟨pv1, hR⟩ := HR.out
    have HS : Hid (PtS B c s src z n nv bx (p1, p2) w wr pv1 (pts ++ List.replicate i (p1, p2))) := hR
    obtain ⟨ao1, cp1, hpv⟩ := hR.row.form
    have hL : (pts ++ List.replicate i (p1, p2)).length = pts.length + i := by simp
    rw [hL] at hpv
    clear HR hR
    subst hpv
    by_cases hlt : i < k
    · have hik : (i : Int) < (k : Int) := by omega
      go_wp2_with fail
      have hS0 : (wr.drew.cell? ⟨c, 3, none⟩ = some (.slice ao1 (pts.length + i) cp1) ∧ wr.drew.cell? ⟨bx, 0, none⟩ = some (.int .i64 p1) ∧ wr.drew.cell? ⟨bx, 1, none⟩ = some (.int .i64 p2)) := by
        refine ⟨?_, ?_, ?_⟩
        · show wr.cell? _ = _
          rw [cell_of HS.out.rb]; rfl
        · show wr.cell? _ = _
          rw [cell_of HS.out.box]; rfl
        · show wr.cell? _ = _
          rw [cell_of HS.out.box]; rfl
      refine regionU (fun X => X.cell? ⟨c, 3, none⟩ = some (.slice ao1 (pts.length + i) cp1) ∧ X.cell? ⟨bx, 0, none⟩ = some (.int .i64 p1) ∧ X.cell? ⟨bx, 1, none⟩ = some (.int .i64 p2)) 12 hS0 (fun hS => ?_) mixed2
      clear hS0
      try simp only [Act.put, List.setIfInBounds_toArray, List.set_cons_zero, List.set_cons_succ, List.getElem_toArray, List.getElem_cons_zero, List.getElem_cons_succ]
      refine tkU 0 (PT c) rfl hS ?_
      try simp only [Act.put, List.setIfInBounds_toArray, List.set_cons_zero, List.set_cons_succ, List.getElem_toArray, List.getElem_cons_zero, List.getElem_cons_succ]
      refine tkU 1 (PT c) rfl hS ?_
      try simp only [Act.put, List.setIfInBounds_toArray, List.set_cons_zero, List.set_cons_succ, List.getElem_toArray, List.getElem_cons_zero, List.getElem_cons_succ]
      refine tkU 2 (PT c) rfl hS ?_
      try simp only [Act.put, List.setIfInBounds_toArray, List.set_cons_zero, List.set_cons_succ, List.getElem_toArray, List.getElem_cons_zero, List.getElem_cons_succ]
      refine tkU 3 (.pointer (some ⟨c, 1, none⟩)) rfl hS ?_
      try simp only [Act.put, List.setIfInBounds_toArray, List.set_cons_zero, List.set_cons_succ, List.getElem_toArray, List.getElem_cons_zero, List.getElem_cons_succ]
      refine tkU 4 (.pointer (some ⟨c, 3, none⟩)) rfl hS ?_
      try simp only [Act.put, List.setIfInBounds_toArray, List.set_cons_zero, List.set_cons_succ, List.getElem_toArray, List.getElem_cons_zero, List.getElem_cons_succ]
      refine tkU 5 (.slice ao1 (pts.length + i) cp1) rfl hS ?_ (hy := by intro w' hw; have g := hw.1; go_simp)
      try simp only [Act.put, List.setIfInBounds_toArray, List.set_cons_zero, List.set_cons_succ, List.getElem_toArray, List.getElem_cons_zero, List.getElem_cons_succ]
      refine tkU 6 (AV (p1, p2)) rfl hS ?_ (hy := by intro w' hw; have g := hw.2.1; have g2 := hw.2.2; go_simp)
      try simp only [Act.put, List.setIfInBounds_toArray, List.set_cons_zero, List.set_cons_succ, List.getElem_toArray, List.getElem_cons_zero, List.getElem_cons_succ]
      have hne : ∀ x : Nat, x = c ∨ x = bx → x < wr.heap.size := by
        rintro x (rfl | rfl)
        · exact hp_lt HS.out.rb
        · exact hp_lt HS.out.box
      refine rdU 7 rfl (fun K hK => ?_)
      rw [if_pos (by rfl)]
      go_simp
      have hS7 : ∀ o, ((wr.drew.alloc o).cell? ⟨c, 3, none⟩ = some (.slice ao1 (pts.length + i) cp1) ∧ (wr.drew.alloc o).cell? ⟨bx, 0, none⟩ = some (.int .i64 p1) ∧ (wr.drew.alloc o).cell? ⟨bx, 1, none⟩ = some (.int .i64 p2)) := fun o => by
        refine ⟨?_, ?_, ?_⟩
        · rw [cell_alloc_old wr.drew o c 3 (hne c (.inl rfl))]; exact hS.1
        · rw [cell_alloc_old wr.drew o bx 0 (hne bx (.inr rfl))]; exact hS.2.1
        · rw [cell_alloc_old wr.drew o bx 1 (hne bx (.inr rfl))]; exact hS.2.2
      refine hK.out _ _ (fun _ => hS7 _) ?_
      clear hK K
      try simp only [Act.put, List.setIfInBounds_toArray, List.set_cons_zero, List.set_cons_succ, List.getElem_toArray, List.getElem_cons_zero, List.getElem_cons_succ]
      refine rdU 8 rfl (fun K hK => ?_)
      rw [if_pos (by rfl)]
      refine app_valO (.tmp 37) (.tmp 39) rfl (v := .slice ao1 (pts.length + i) cp1) (L := pts ++ List.replicate i (p1, p2)) rfl (World.ownsRow.alloc HS.out.row _) wr.heap.size (p1, p2) rfl (World.alloc_heap_new wr _) (by rw [hL]; omega) (by have := HS.out.kp.size; show _ ≤ (wr.alloc _).heap.size; rw [World.size_alloc]; omega) (fun v6 w6 hr6 hg6 ho6 => ?_)
      have hb6 : ∀ x, x = c ∨ x = bx → w6.heap[x]? = wr.heap[x]? := fun x hx => by
        have hx1 := hne x hx
        have e1 := hg6.block x (by show x < (wr.alloc _).heap.size; rw [World.size_alloc]; omega) (fun e => ?_)
        · rw [e1]
          exact Below.heap_alloc wr _ x hx1
        · have := HS.out.ne x e.symm
          rcases hx with rfl | rfl
          · exact this.2.2 rfl
          · exact this.2.1 rfl
      have h6s : wr.heap.size + 1 ≤ w6.heap.size := by
        have h1 := hg6.size
        have h2 : (wr.drew.alloc (.cells #[.int .i64 p1, .int .i64 p2] 45)).heap.size = wr.heap.size + 1 := by show (wr.alloc _).heap.size = _; rw [World.size_alloc]
        rw [← h2]; exact h1
      have HS6 : Hid (PtS B c s src z n nv bx (p1, p2) w (w6.setCell ⟨c, 3, none⟩ v6) v6 (pts ++ List.replicate (i + 1) (p1, p2))) := by
        have hrb : RB w6 c s z n (.slice ao1 (pts.length + i) cp1) src nv := (hb6 c (.inl rfl)).trans HS.out.rb
        have hv6 : ∀ g, v6.ownBlock = some g → g < w6.heap.size ∧ g ≠ bx ∧ g ≠ c := fun g hg => by
          rcases ho6 with e | e
          · rw [e] at hg
            have := HS.out.ne g hg
            exact ⟨by omega, this.2⟩
          · rw [e] at hg
            injection hg with hg
            have h1 : (wr.drew.alloc (.cells #[.int .i64 p1, .int .i64 p2] 45)).heap.size = wr.heap.size + 1 := by show (wr.alloc _).heap.size = _; rw [World.size_alloc]
            have h2 := hr6.block (k := g) (by rw [e]; exact congrArg some hg)
            have h3 := hp_lt h2.2.choose_spec
            have h4 := hne bx (.inr rfl)
            have h5 := hne c (.inl rfl)
            have h6 : g = wr.heap.size + 1 := by rw [← hg]; exact h1
            exact ⟨h3, by omega, by omega⟩
        refine ⟨hp_set_same hrb 3 v6, ?_, fun g hg => ?_, hp_set_other ((hb6 bx (.inr rfl)).trans HS.out.box) 3 v6 (fun e => HS.out.hc.2.2 e.symm), ?_, HS.out.hc⟩
        · rw [show List.replicate (i + 1) (p1, p2) = List.replicate i (p1, p2) ++ [(p1, p2)] from List.replicate_succ', ← List.append_assoc]
          exact hr6.turn (fun g hg => Below.heap_setCell w6 _ _ g (fun e => (hv6 g hg).2.2 e))
        · have := hv6 g hg
          rw [size_set]; exact this
        · refine Kept.set (Kept.grown (HS.out.kp.drew.alloc _) hg6 (fun g hg => .inl (HS.out.row.block hg).1)) c 3 v6 (.inl HS.out.hc.1)
      have hS8 : (w6.cell? ⟨c, 3, none⟩ = some (.slice ao1 (pts.length + i) cp1) ∧ w6.cell? ⟨bx, 0, none⟩ = some (.int .i64 p1) ∧ w6.cell? ⟨bx, 1, none⟩ = some (.int .i64 p2)) := by
        refine ⟨?_, ?_, ?_⟩
        · rw [World.cell?_of_block (hb6 c (.inl rfl))]; exact hS.1
        · rw [World.cell?_of_block (hb6 bx (.inr rfl))]; exact hS.2.1
        · rw [World.cell?_of_block (hb6 bx (.inr rfl))]; exact hS.2.2
      have hf6 : ∀ o, w6.frozen? ⟨c, o, none⟩ = false := fun o => frozen_of ((hb6 c (.inl rfl)).trans HS.out.rb) o
      obtain ⟨ao6, cp6, rfl⟩ := hr6.form
      obtain ⟨ln6, hln6⟩ : ∃ ln6, (pts ++ List.replicate i (p1, p2) ++ [(p1, p2)]).length = ln6 := ⟨_, rfl⟩
      rw [hln6] at HS6 ⊢
      refine hK.out _ _ (fun _ => hS8) ?_
      clear hK K hr6 hg6 ho6 hS7 hS hb6 hne h6s HS hln6
      have hS := hS8
      try simp only [Act.put, List.setIfInBounds_toArray, List.set_cons_zero, List.set_cons_succ, List.getElem_toArray, List.getElem_cons_zero, List.getElem_cons_succ]
      refine tkU 9 (PT c) rfl hS ?_
      try simp only [Act.put, List.setIfInBounds_toArray, List.set_cons_zero, List.set_cons_succ, List.getElem_toArray, List.getElem_cons_zero, List.getElem_cons_succ]
      refine tkU 10 (.pointer (some ⟨c, 1, none⟩)) rfl hS ?_
      try simp only [Act.put, List.setIfInBounds_toArray, List.set_cons_zero, List.set_cons_succ, List.getElem_toArray, List.getElem_cons_zero, List.getElem_cons_succ]
      refine tkU 11 (.pointer (some ⟨c, 3, none⟩)) rfl hS ?_
      try simp only [Act.put, List.setIfInBounds_toArray, List.set_cons_zero, List.set_cons_succ, List.getElem_toArray, List.getElem_cons_zero, List.getElem_cons_succ]
      refine rdU 12 rfl (fun K hK => ?_)
      rw [if_pos (by rfl)]
      have g3 := hS8.1
      go_simp
      refine hK.out _ _ (fun e => absurd rfl e) ?_
      clear hK K g3 hS hS8 hf6
      try simp only [Act.put, List.setIfInBounds_toArray, List.set_cons_zero, List.set_cons_succ, List.getElem_toArray, List.getElem_cons_zero, List.getElem_cons_succ]
      refine dnU ?_ (by kernel_rfl) _
      go_wp2
      go_roundw
      case rel => exact ⟨i + 1, by omega, by go_num, _, HS6.out⟩
      case measure => simp [intOf] <;> omega
    · obtain rfl : i = k := by omega
      go_wp2
      go_ret
      exact ⟨rfl, ⟨_, HS.out.rb, HS.out.row⟩, HS.out.kp⟩
end Go.Proofs.YtbhmgmbgplkkeaaDoor
