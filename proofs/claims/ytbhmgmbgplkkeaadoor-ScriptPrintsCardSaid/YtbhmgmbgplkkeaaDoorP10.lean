/- The next line; Parse. -/
import Derived.Test.YtbhmgmbgplkkeaaDoorP9
namespace Go.Proofs.YtbhmgmbgplkkeaaDoor
open Go.RowKit
set_option linter.unusedSimpArgs false
set_option linter.unusedVariables false

theorem MaxIs.kb {w w' : World} {B : Nat} (h : MaxIs w) (hk : Kept (KB B) w w') (hB : 1 < B) : MaxIs w' := by
  obtain ⟨m, h⟩ := h
  have hb : 1 < w.heap.size := by
    rcases Nat.lt_or_ge 1 w.heap.size with hb | hb
    · exact hb
    · simp [World.cell?, Array.getElem?_eq_none hb] at h
  exact ⟨m, by rw [World.cell?_of_block (hk.block 1 hb (fun e => by have : B ≤ 1 := e; omega))]; exact h⟩
theorem RowsIs.kb {w w' : World} {B : Nat} (h : RowsIs w) (hk : Kept (KB B) w w') (hB : 1 < B) : RowsIs w' := fun j v hv => by
  have h := h j v hv
  have hb : 0 < w.heap.size := by
    rcases Nat.lt_or_ge 0 w.heap.size with hb | hb
    · exact hb
    · simp [World.cell?, Array.getElem?_eq_none hb] at h
  rw [World.cell?_of_block (hk.block 0 hb (fun e => by have : B ≤ 0 := e; omega))]; exact h
theorem VRow.lower {w : World} {B B' : Nat} {v : Value} {L : List V} (h : VRow w B v L) (hB : B' ≤ B) : VRow w B' v L := by
  refine ⟨h.1, h.2.imp id ?_⟩
  rintro ⟨g, cap, cur, e1, e2, r⟩
  exact ⟨g, cap, cur, e1, by omega, r⟩

set_option maxRecDepth 20000 in
set_option maxHeartbeats 2000000 in
theorem line_none {B : Nat} {w : World} {c : Nat} {st : St} {l : List UInt8} (h : RdSt B w c st l) (hnd : ∀ x, st ≠ .done x) (hl : l.length ≤ 90000) (hm : MaxIs w) (hcut : cutO [10] l = none) :
    Calls Tryd.prog 22 #[PT c] w fun e w' => e = .returned (.int .i64 6) ∧ Kept No w w' := by
  obtain ⟨pv, s, hb, hrow, hpl, hs⟩ := h
  obtain rfl := hs hnd
  have HC : Hid (Calls Tryd.prog 37 #[.string (mk l), .string ⟨#[10]⟩] w fun e w' => e = .returned (.tuple #[.string (mk l), .string (mk []), .bool false]) ∧ Kept No w w') := by
    have := Cut_any (mk l) ⟨#[10]⟩ (by rw [mk_size]; omega) (by decide) w hm
    rw [show bl (⟨#[10]⟩ : ByteArray) = [10] from rfl, bl_mk, hcut] at this
    exact this
  have c0 : w.cell? ⟨c, 0, none⟩ = some (.string (mk l)) := by rw [cell_of hb]; rfl
  clear hb hrow hpl hs hm hcut
  go_enter Tryd.func22, Tryd.ntmps22
  go_wp2_with fail
  refine Calls.mono HC.out ?_
  rintro e w1 ⟨rfl, hk1⟩
  have HK : Hid (Kept No w w1) := hk1
  clear hk1 c0
  go_wp2
  go_ret
  exact ⟨rfl, HK.out⟩
set_option maxRecDepth 20000 in
set_option maxHeartbeats 2000000 in
theorem line_some {B : Nat} {w : World} {c : Nat} {st : St} {l : List UInt8} (h : RdSt B w c st l) (hnd : ∀ x, st ≠ .done x) (hBc : B ≤ c) (hB1 : 1 < B) (hl : l.length ≤ 90000) (hm : MaxIs w) (hr : RowsIs w) (line rest : List UInt8) (hcut : cutO [10] l = some (line, rest)) :
    Calls Tryd.prog 22 #[PT c] w fun e w' => StP B c (lineS st line rest) e w' ∧ Kept (KB B) w w' := by
  have HR0 : Hid (RdSt B w c st l) := h
  obtain ⟨pv, s, hb, hrow, hpl, hs⟩ := h
  obtain rfl := hs hnd
  have hlen : l.length = line.length + 1 + rest.length := by rw [(cut1_some _ _ _ _ hcut).1]; simp; omega
  have HC : Hid (Calls Tryd.prog 37 #[.string (mk l), .string ⟨#[10]⟩] w fun e w' => e = .returned (.tuple #[.string (mk line), .string (mk rest), .bool true]) ∧ Kept No w w') := by
    have := Cut_any (mk l) ⟨#[10]⟩ (by rw [mk_size]; omega) (by decide) w hm
    rw [show bl (⟨#[10]⟩ : ByteArray) = [10] from rfl, bl_mk, hcut] at this
    exact this
  have hll : line.length ≤ 90000 := by omega
  have c0 : w.cell? ⟨c, 0, none⟩ = some (.string (mk l)) := by rw [cell_of hb]; rfl
  have HW : Hid (∀ w1, Kept No w w1 → RB w1 c (mk l) (scOf st).size (scOf st).steps pv (mk (scOf st).src) (nextV c st) ∧ RdSt B (w1.setCell ⟨c, 0, none⟩ (.string (mk rest))) c st rest ∧ Kept (KB B) w (w1.setCell ⟨c, 0, none⟩ (.string (mk rest))) ∧ MaxIs (w1.setCell ⟨c, 0, none⟩ (.string (mk rest))) ∧ RowsIs (w1.setCell ⟨c, 0, none⟩ (.string (mk rest)))) := fun w1 hk => by
    have h1 : RB w1 c (mk l) (scOf st).size (scOf st).steps pv (mk (scOf st).src) (nextV c st) := hk.heap hb id
    have h2 : VRow w1 B pv (scOf st).pts := row_no hrow hk
    have h3 : Kept (fun q => q = c) w1 (w1.setCell ⟨c, 0, none⟩ (.string (mk rest))) := (Kept.refl _ _).set c _ _ (.inl rfl)
    have h4 : Kept (KB B) w (w1.setCell ⟨c, 0, none⟩ (.string (mk rest))) := (Kept.mono hk (fun _ e => e.elim)).set c _ _ (.inl hBc)
    exact ⟨h1, ⟨pv, mk rest, hp_set_same h1 0 (.string (mk rest)), row_c h2 h1 h3, hpl, fun _ => rfl⟩, h4, hm.kb h4 hB1, hr.kb h4 hB1⟩
  clear hb hrow hpl hs hcut hlen hm hr
  go_enter Tryd.func22, Tryd.ntmps22
  go_wp2_with fail
  refine Calls.mono HC.out ?_
  rintro e w1 ⟨rfl, hk1⟩
  obtain ⟨h1, h2, h3, h4, h5⟩ := HW.out w1 hk1
  obtain ⟨W, HWW⟩ : ∃ W, Hid (W = w1.setCell ⟨c, 0, none⟩ (.string (mk rest))) := ⟨_, rfl⟩
  have HR : Hid (RdSt B W c st rest ∧ Kept (KB B) w W ∧ MaxIs W ∧ RowsIs W) := by
    rw [HWW.out]; exact ⟨h2, h3, h4, h5⟩
  have d0 : w1.cell? ⟨c, 0, none⟩ = some (.string (mk l)) := by rw [cell_of h1]; rfl
  have f0 : ∀ o, w1.frozen? ⟨c, o, none⟩ = false := fun o => frozen_of h1 o
  have d5 : W.cell? ⟨c, 5, none⟩ = some (nextV c st) := by
    obtain ⟨pv', s', hb', _⟩ := HR.out.1
    rw [cell_of hb']; rfl
  clear hk1 h1 h2 h3 h4 h5 c0 HC HW
  cases st with
  | done x => exact absurd rfl (hnd x)
  | s0 =>
    replace d5 : W.cell? ⟨c, 5, none⟩ = some (.func (.func 36) #[.pointer (some ⟨c, 0, none⟩)] #[]) := d5
    have HN : Hid _ := next_s0 (line := line) HR.out.1 hBc hll
    go_wp2_with (first | rw [← HWW.out])
    refine Calls.mono HN.out ?_
    rintro e w2 ⟨hst, hk2⟩
    have HX : Hid (StP B c (lineS .s0 line rest) e w2 ∧ Kept (KB B) w w2) := ⟨hst, HR.out.2.1.trans hk2⟩
    clear hst hk2 HN d5
    cases e with
    | returned v =>
      go_wp2
      go_ret
      exact HX.out
    | _ =>
      exfalso
      cases hq : lineS .s0 line rest with
      | inl er => exact absurd (HX.out.1.1 er hq) (by simp)
      | inr q => exact absurd (HX.out.1.2 q.1 q.2 hq).1 (by simp)
  | s1 z =>
    replace d5 : W.cell? ⟨c, 5, none⟩ = some (.func (.func 47) #[.pointer (some ⟨c, 0, none⟩)] #[]) := d5
    have HN : Hid _ := next_s1 (line := line) HR.out.1 hBc hll
    go_wp2_with (first | rw [← HWW.out])
    refine Calls.mono HN.out ?_
    rintro e w2 ⟨hst, hk2⟩
    have HX : Hid (StP B c (lineS (.s1 z) line rest) e w2 ∧ Kept (KB B) w w2) := ⟨hst, HR.out.2.1.trans hk2⟩
    clear hst hk2 HN d5
    cases e with
    | returned v =>
      go_wp2
      go_ret
      exact HX.out
    | _ =>
      exfalso
      cases hq : lineS (.s1 z) line rest with
      | inl er => exact absurd (HX.out.1.1 er hq) (by simp)
      | inr q => exact absurd (HX.out.1.2 q.1 q.2 hq).1 (by simp)
  | s2 z n pts =>
    replace d5 : W.cell? ⟨c, 5, none⟩ = some (.func (.func 53) #[.pointer (some ⟨c, 0, none⟩)] #[]) := d5
    have HN : Hid _ := next_s2 (line := line) HR.out.1 hBc hll HR.out.2.2.1 HR.out.2.2.2
    go_wp2_with (first | rw [← HWW.out])
    refine Calls.mono HN.out ?_
    rintro e w2 ⟨hst, hk2⟩
    have HX : Hid (StP B c (lineS (.s2 z n pts) line rest) e w2 ∧ Kept (KB B) w w2) := ⟨hst, HR.out.2.1.trans hk2⟩
    clear hst hk2 HN d5
    cases e with
    | returned v =>
      go_wp2
      go_ret
      exact HX.out
    | _ =>
      exfalso
      cases hq : lineS (.s2 z n pts) line rest with
      | inl er => exact absurd (HX.out.1.1 er hq) (by simp)
      | inr q => exact absurd (HX.out.1.2 q.1 q.2 hq).1 (by simp)
theorem line_any {B : Nat} {w : World} {c : Nat} {st : St} {l : List UInt8} (h : RdSt B w c st l) (hnd : ∀ x, st ≠ .done x) (hBc : B ≤ c) (hB1 : 1 < B) (hl : l.length ≤ 90000) (hm : MaxIs w) (hr : RowsIs w) :
    Calls Tryd.prog 22 #[PT c] w fun e w' => StP B c (stepS st l) e w' ∧ Kept (KB B) w w' := by
  cases hcut : cutO [10] l with
  | none =>
    refine Calls.mono (line_none h hnd hl hm hcut) ?_
    rintro e w' ⟨rfl, hk⟩
    exact ⟨.bad 6 (by unfold stepS; simp only [hcut]) rfl, hk.no⟩
  | some q =>
    have e : stepS st l = lineS st q.1 q.2 := by unfold stepS; simp only [hcut]
    rw [e]
    exact line_some h hnd hBc hB1 hl hm hr q.1 q.2 hcut
end Go.Proofs.YtbhmgmbgplkkeaaDoor
