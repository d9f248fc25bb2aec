/- Parse. -/
import Derived.Test.YtbhmgmbgplkkeaaDoorP10
namespace Go.Proofs.YtbhmgmbgplkkeaaDoor
open Go.RowKit
set_option linter.unusedSimpArgs false
set_option linter.unusedVariables false

/-- What Parse tells. -/
def ParsePost (B : Nat) (o : Out) (e : Ending) (w' : World) : Prop :=
  (∀ x, o = .ok x → ∃ pv, e = .returned (.tuple #[.agg #[.int .i64 x.size, .int .i64 x.steps, pv, .string (mk x.src)], .int .i64 0, .int .i64 0]) ∧ VRow w' B pv x.pts ∧ x.pts.length ≤ 4000) ∧
  (∀ a er, o = .err a er → e = .returned (.tuple #[.agg #[.int .i64 0, .int .i64 0, .slice none 0 0, .string ⟨#[]⟩], .int .i64 (a : Int), .int .i64 (er : Int)]))
theorem stepS_pos (st : St) (l : List UInt8) (e : Nat) (h : stepS st l = .inl e) : (e : Int) ≠ 0 ∧ e ≤ 7 := by
  have h2 : ∀ line rest, lineS st line rest = .inl e → (e : Int) ≠ 0 ∧ e ≤ 7 := by
    intro line rest h
    unfold lineS at h
    split at h
    · split at h
      · injection h with h; omega
      · split at h
        · injection h with h; omega
        · cases h
    · split at h
      · injection h with h; omega
      · split at h
        · injection h with h; omega
        · cases h
    · split at h
      · split at h
        · injection h with h; omega
        · cases h
      · split at h
        · injection h with h; omega
        · split at h
          · injection h with h; omega
          · cases h
    · injection h with h; omega
  unfold stepS at h
  split at h
  · injection h with h; omega
  · exact h2 _ _ h
theorem isDone (st : St) : (∃ x, st = .done x) ∨ (∀ x, st ≠ .done x) := by
  cases st with
  | done x => exact .inl ⟨x, rfl⟩
  | _ => exact .inr (fun x e => by cases e)
theorem nextV_mth (c : Nat) (st : St) (h : ∀ x, st ≠ .done x) : ∃ f : Nat, nextV c st = mth f c := by
  cases st with
  | done x => exact absurd rfl (h x)
  | s0 => exact ⟨36, rfl⟩
  | s1 z => exact ⟨47, rfl⟩
  | s2 z n p => exact ⟨53, rfl⟩
theorem RdSt.over {B : Nat} {w : World} {c : Nat} {st : St} {l : List UInt8} (h : RdSt B w c st l) (b : Bool) (hb : (b = true ∧ ∃ x, st = .done x) ∨ (b = false ∧ ∀ x, st ≠ .done x)) :
    Calls Tryd.prog 21 #[PT c] w fun e w' => e = .returned (.bool b) ∧ w = w' := by
  obtain ⟨pv, s, h1, _⟩ := h
  refine over_any h1 b ?_
  rcases hb with ⟨rfl, x, rfl⟩ | ⟨rfl, hn⟩
  · exact .inl ⟨rfl, rfl⟩
  · exact .inr ⟨rfl, nextV_mth c st hn⟩

set_option maxRecDepth 20000 in
set_option maxHeartbeats 4000000 in
theorem Parse_any (s : ByteArray) (hs : s.size ≤ 1000000) (w : World) (hm : MaxIs w) (hr : RowsIs w) :
    Calls Tryd.prog 10 #[.string s] w fun e w' => ParsePost w.heap.size (parseF (bl s)) e w' ∧ Kept No w w' := by
  obtain ⟨W, HW⟩ : ∃ W, Hid (W = w.alloc (.cells #[.int .i64 0, .int .i64 0, .slice none 0 0, .string ⟨#[]⟩] 25)) := ⟨_, rfl⟩
  have HK : Hid (Kept No w W) := by show Kept _ _ _; rw [HW.out]; exact (Kept.refl No w).alloc _
  obtain ⟨R, HR⟩ : ∃ R, Hid (w.heap.size = R) := ⟨_, rfl⟩
  have HB2 : Hid (W.heap[R]? = some (.cells #[.int .i64 0, .int .i64 0, .slice none 0 0, .string ⟨#[]⟩] 25 (0, 0))) := by show _ = _; rw [HW.out, ← HR.out]; exact World.alloc_heap_new w _
  have HWs : Hid (W.heap.size = R + 1) := by show _ = _; rw [HW.out, World.size_alloc, HR.out]
  have HR1 : Hid (1 < R) := by
    obtain ⟨m, hm⟩ := hm
    show _ < _
    rw [← HR.out]
    rcases Nat.lt_or_ge 1 w.heap.size with hb | hb
    · exact hb
    · simp [World.cell?, Array.getElem?_eq_none hb] at hm
  obtain ⟨O, HO⟩ : ∃ O, Hid (parseF (bl s) = O) := ⟨_, rfl⟩
  have HRw : Hid (w.heap.size ≤ R) := by rw [HR.out]; exact Nat.le_refl _
  have HPst : Hid (∀ e w', ParsePost R O e w' → Kept No w w' → ParsePost w.heap.size O e w' ∧ Kept No w w') := fun e w' h1 h2 => by
    rw [HR.out]; exact ⟨h1, h2⟩
  rw [HO.out]
  have HMx : Hid (MaxIs W ∧ RowsIs W) := ⟨hm.no HK.out, hr.no HK.out⟩
  clear hm hr
  by_cases hlong : 73728 < s.size
  · have i1 : (73728 : Int) < (s.size : Int) := by omega
    have hO : O = .err 0 3 := by rw [← HO.out]; unfold parseF; rw [if_pos (by rw [bl_len]; exact hlong)]
    have z0 : W.cell? ⟨R, 0, none⟩ = some (.int .i64 0) := by rw [cell_of HB2.out]; rfl
    have z1 : W.cell? ⟨R, 1, none⟩ = some (.int .i64 0) := by rw [cell_of HB2.out]; rfl
    have z2 : W.cell? ⟨R, 2, none⟩ = some (.slice none 0 0) := by rw [cell_of HB2.out]; rfl
    have z3 : W.cell? ⟨R, 3, none⟩ = some (.string ⟨#[]⟩) := by rw [cell_of HB2.out]; rfl
    have zf : ∀ o, W.frozen? ⟨R, o, none⟩ = false := fun o => frozen_of HB2.out o
    have zl : R < W.heap.size := hp_lt HB2.out
    go_enter Tryd.func10, Tryd.ntmps10
    go_wp2_with (first | rw [← HW.out, HR.out])
    refine bodyPost_ret (v := .tuple #[.agg #[.int .i64 0, .int .i64 0, .slice none 0 0, .string ⟨#[]⟩], .int .i64 0, .int .i64 3]) (by simp [results, Tryd.results10, go_sem, cell_alloc_old, size_set, zl, z0, z1, z2, z3]) rfl (HPst.out _ _ ⟨fun x e => ?_, fun a er e => ?_⟩ ?_)
    · rw [hO] at e; cases e
    · rw [hO] at e; injection e with e1 e2; subst e1 e2; rfl
    · exact (((HK.out.set _ _ _ (.inr HRw.out)).set _ _ _ (.inr HRw.out)).set _ _ _ (.inr HRw.out)).set _ _ _ (.inr HRw.out)
  have i1 : ¬ (73728 : Int) < (s.size : Int) := by omega
  have HO2 : Hid (outS .s0 0 (bl s) = O) := by show _ = _; rw [← HO.out]; unfold parseF; rw [if_neg (by rw [bl_len]; exact hlong)]
  have HL0 : Hid (0 + (bl s).length ≤ 73728) := by show _ ≤ _; rw [bl_len]; omega
  have hsb : s = mk (bl s) := (mk_bl s).symm
  have HNR : Hid (Calls Tryd.prog 20 #[.string s] W fun e w' => e = .returned (PT (R + 1)) ∧ RdSt (R + 1) w' (R + 1) .s0 (bl s) ∧ Kept No W w') := by
    have := newReader_any s W
    rw [HWs.out] at this
    refine Calls.mono this ?_
    rintro e w' ⟨rfl, h1, h2⟩
    exact ⟨rfl, ⟨_, s, h1, VRow.nil _ _, by simp [scOf, sc0], fun _ => hsb⟩, h2⟩
  clear HO hsb
  generalize bl s = L at HO2 HL0 HNR
  go_enter Tryd.func10, Tryd.ntmps10
  go_wp2_with fail
  rw [← HW.out, HR.out]
  refine Calls.mono HNR.out ?_
  rintro e w1 ⟨rfl, h1, h2⟩
  have HR1' : Hid (RdSt (R + 1) w1 (R + 1) .s0 L) := h1
  have HK1 : Hid (Kept (KB (R + 1)) W w1) := h2.no
  clear h1 h2 HNR
  go_wp2_with fail
  go_loopw [6] (fun v6 wr => ∃ a : Nat, a ≤ 73728 ∧ v6 = .int .i64 a ∧ Hid (∃ st l, RdSt (R + 1) wr (R + 1) st l ∧ outS st a l = O ∧ ((∃ x, st = .done x) ∨ a + l.length ≤ 73728) ∧ Kept (KB (R + 1)) W wr)) (fun v6 _ => 100000 - (intOf v6).toNat)
  case atStart => exact ⟨0, by omega, rfl, .s0, L, HR1'.out, HO2.out, .inr HL0.out, HK1.out⟩
  case round =>
    clear HR1' HK1 HO2 HL0
    obtain ⟨a, ha, rfl, HI⟩ := hrel
    obtain ⟨st, l, h1, h2, h3, h4⟩ := HI.out
    have HRd : Hid (RdSt (R + 1) wr (R + 1) st l) := h1
    have HOu : Hid (outS st a l = O) := h2
    have HLe : Hid ((∃ x, st = .done x) ∨ a + l.length ≤ 73728) := h3
    have HKr : Hid (Kept (KB (R + 1)) W wr) := h4
    clear h1 h2 h3 h4 HI
    have HRx : Hid (wr.heap[R]? = some (.cells #[.int .i64 0, .int .i64 0, .slice none 0 0, .string ⟨#[]⟩] 25 (0, 0))) := HKr.out.heap HB2.out (fun e => by have : R + 1 ≤ R := e; omega)
    have HKw : Hid (Kept No w wr) := by
      have h1 := HKr.out.os.trans HK.out.os
      refine ⟨h1, HKr.out.tape.trans HK.out.tape, HKr.out.output.trans HK.out.output, Nat.le_trans HK.out.size HKr.out.size, fun k hk _ => ?_⟩
      rw [HKr.out.block k (Nat.lt_of_lt_of_le hk HK.out.size) (fun e => by have h2 : R + 1 ≤ k := e; have := HRw.out; have := HR.out; omega)]
      exact HK.out.block k hk id
    rcases isDone st with ⟨x, rfl⟩ | hnd
    · have HOv : Hid (Calls Tryd.prog 21 #[PT (R + 1)] wr fun e w' => e = .returned (.bool true) ∧ wr = w') := HRd.out.over true (.inl ⟨rfl, x, rfl⟩)
      have hO : O = .ok x := by rw [← HOu.out, outS_done]
      obtain ⟨pv, s', hb, hrow, hpl, _⟩ := HRd.out
      replace hrow : VRow wr (R + 1) pv x.pts := hrow
      replace hpl : x.pts.length ≤ 4000 := hpl
      have c1 : wr.cell? ⟨R + 1, 1, none⟩ = some (.int .i64 x.size) := by rw [cell_of hb]; rfl
      have c2 : wr.cell? ⟨R + 1, 2, none⟩ = some (.int .i64 x.steps) := by rw [cell_of hb]; rfl
      have c3 : wr.cell? ⟨R + 1, 3, none⟩ = some pv := by rw [cell_of hb]; rfl
      have c4 : wr.cell? ⟨R + 1, 4, none⟩ = some (.string (mk x.src)) := by rw [cell_of hb]; rfl
      have HRow : Hid (VRow wr (R + 1) pv x.pts ∧ x.pts.length ≤ 4000) := ⟨hrow, hpl⟩
      obtain ⟨ao, cp, rfl⟩ := hrow.form
      clear hb hrow hpl HRd HOu HLe
      have z0 : wr.cell? ⟨R, 0, none⟩ = some (.int .i64 0) := by rw [cell_of HRx.out]; rfl
      have z1 : wr.cell? ⟨R, 1, none⟩ = some (.int .i64 0) := by rw [cell_of HRx.out]; rfl
      have z2 : wr.cell? ⟨R, 2, none⟩ = some (.slice none 0 0) := by rw [cell_of HRx.out]; rfl
      have z3 : wr.cell? ⟨R, 3, none⟩ = some (.string ⟨#[]⟩) := by rw [cell_of HRx.out]; rfl
      have zf : ∀ o, wr.frozen? ⟨R, o, none⟩ = false := fun o => frozen_of HRx.out o
      have zl : R < wr.heap.size := hp_lt HRx.out
      go_wp2_with (go_at_call 21; refine Calls.mono HOv.out ?_; rintro e w' ⟨rfl, rfl⟩)
      refine bodyPost_ret (v := .tuple #[.agg #[.int .i64 x.size, .int .i64 x.steps, .slice ao x.pts.length cp, .string (mk x.src)], .int .i64 0, .int .i64 0]) (by simp [results, Tryd.results10, go_sem, cell_alloc_old, size_set, zl, z0, z1, z2, z3]) rfl (HPst.out _ _ ⟨fun y e => ?_, fun a er e => ?_⟩ ?_)
      · rw [hO] at e
        injection e with e
        subst e
        refine ⟨_, rfl, ?_, HRow.out.2⟩
        refine (HRow.out.1.lower (Nat.le_succ R)).turn (fun g hg => ?_)
        have hgR : g ≠ R := by have := (HRow.out.1.block hg).1; omega
        rw [Below.heap_setCell _ _ _ g hgR, Below.heap_setCell _ _ _ g hgR, Below.heap_setCell _ _ _ g hgR, Below.heap_setCell _ _ _ g hgR]
      · rw [hO] at e; cases e
      · exact (((HKw.out.set _ _ _ (.inr HRw.out)).set _ _ _ (.inr HRw.out)).set _ _ _ (.inr HRw.out)).set _ _ _ (.inr HRw.out)
    · have hle : a + l.length ≤ 73728 := by
        rcases HLe.out with ⟨x, e⟩ | h
        · exact absurd e (hnd x)
        · exact h
      have HOv : Hid (Calls Tryd.prog 21 #[PT (R + 1)] wr fun e w' => e = .returned (.bool false) ∧ wr = w') := HRd.out.over false (.inr ⟨rfl, hnd⟩)
      have hmx := HMx.out.1.kb HKr.out (by have := HR1.out; omega)
      have hrx := HMx.out.2.kb HKr.out (by have := HR1.out; omega)
      have HLn : Hid (Calls Tryd.prog 22 #[PT (R + 1)] wr fun e w' => StP (R + 1) (R + 1) (stepS st l) e w' ∧ Kept (KB (R + 1)) wr w') := line_any HRd.out hnd (Nat.le_refl _) (by have := HR1.out; omega) (by omega) hmx hrx
      clear hmx hrx HLe
      cases hst : stepS st l with
      | inl er =>
        obtain ⟨he0, he7⟩ := stepS_pos st l er hst
        have hO : O = .err a er := by rw [← HOu.out, outS_err st a l er hnd hst]
        have ie : ((er : Int) == 0) = false := by rw [beq_eq_false_iff_ne]; exact he0
        rw [hst] at HLn
        clear hst HOu HRd
        go_wp2_with (go_at_call 21; refine Calls.mono HOv.out ?_; rintro e w' ⟨rfl, rfl⟩)
        refine Calls.mono HLn.out ?_
        rintro e w2 ⟨hst, hk2⟩
        obtain rfl := hst.1 er rfl
        have HRy : Hid (w2.heap[R]? = some (.cells #[.int .i64 0, .int .i64 0, .slice none 0 0, .string ⟨#[]⟩] 25 (0, 0))) := hk2.heap HRx.out (fun e => by have : R + 1 ≤ R := e; omega)
        have HKw2 : Hid (Kept No w w2) := by
          refine ⟨hk2.os.trans HKw.out.os, hk2.tape.trans HKw.out.tape, hk2.output.trans HKw.out.output, Nat.le_trans HKw.out.size hk2.size, fun k hk _ => ?_⟩
          rw [hk2.block k (Nat.lt_of_lt_of_le hk HKw.out.size) (fun e => by have h2 : R + 1 ≤ k := e; have := HR.out; omega)]
          exact HKw.out.block k hk id
        clear hst hk2 HLn HOv
        have z0 : w2.cell? ⟨R, 0, none⟩ = some (.int .i64 0) := by rw [cell_of HRy.out]; rfl
        have z1 : w2.cell? ⟨R, 1, none⟩ = some (.int .i64 0) := by rw [cell_of HRy.out]; rfl
        have z2 : w2.cell? ⟨R, 2, none⟩ = some (.slice none 0 0) := by rw [cell_of HRy.out]; rfl
        have z3 : w2.cell? ⟨R, 3, none⟩ = some (.string ⟨#[]⟩) := by rw [cell_of HRy.out]; rfl
        have zf : ∀ o, w2.frozen? ⟨R, o, none⟩ = false := fun o => frozen_of HRy.out o
        have zl : R < w2.heap.size := hp_lt HRy.out
        go_wp2_with fail
        refine bodyPost_ret (v := .tuple #[.agg #[.int .i64 0, .int .i64 0, .slice none 0 0, .string ⟨#[]⟩], .int .i64 (a : Int), .int .i64 (er : Int)]) (by simp [results, Tryd.results10, go_sem, cell_alloc_old, size_set, zl, z0, z1, z2, z3]) rfl (HPst.out _ _ ⟨fun y e => ?_, fun a' er' e => ?_⟩ ?_)
        · rw [hO] at e; cases e
        · rw [hO] at e; injection e with e1 e2; subst e1 e2; rfl
        · exact (((HKw2.out.set _ _ _ (.inr HRw.out)).set _ _ _ (.inr HRw.out)).set _ _ _ (.inr HRw.out)).set _ _ _ (.inr HRw.out)
      | inr q =>
        obtain ⟨st', l'⟩ := q
        have hlt := stepS_lt st l st' l' hst
        have HO3 : Hid (outS st' (a + 1) l' = O) := by show _ = _; rw [← HOu.out, outS_go st a l st' l' hnd hst]
        rw [hst] at HLn
        clear hst HOu HRd
        go_wp2_with (go_at_call 21; refine Calls.mono HOv.out ?_; rintro e w' ⟨rfl, rfl⟩)
        refine Calls.mono HLn.out ?_
        rintro e w2 ⟨hst, hk2⟩
        obtain ⟨rfl, hrd⟩ := hst.2 st' l' rfl
        have HX : Hid (RdSt (R + 1) w2 (R + 1) st' l' ∧ Kept (KB (R + 1)) W w2) := ⟨hrd, HKr.out.trans hk2⟩
        clear hst hk2 HLn HOv hrd
        go_wp2
        go_roundw
        case rel => exact ⟨a + 1, by omega, by go_num, st', l', HX.out.1, HO3.out, .inr (by omega), HX.out.2⟩
        case measure => simp [intOf] <;> omega
end Go.Proofs.YtbhmgmbgplkkeaaDoor
