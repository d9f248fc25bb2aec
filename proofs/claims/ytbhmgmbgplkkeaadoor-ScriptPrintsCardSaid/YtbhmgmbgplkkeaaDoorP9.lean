/- What is next. -/
import Derived.Test.YtbhmgmbgplkkeaaDoorP8
namespace Go.Proofs.YtbhmgmbgplkkeaaDoor
open Go.RowKit
set_option linter.unusedSimpArgs false
set_option linter.unusedVariables false

theorem pts_long {w : World} {c : Nat} {s src : ByteArray} {z n : Int} {pv nv : Value} (hb : RB w c s z n pv src nv) (hs : 8192 < s.size) :
    Calls Tryd.prog 53 #[PT c, .string (mk srW)] w fun e w' => e = .returned (.int .i64 3) ∧ w = w' := by
  have HS := fun (h : RB w c s z n pv src nv) => source_long h hs
  have HC : Hid _ := HS hb
  go_enter Tryd.func53, Tryd.ntmps53
  go_wp2_with fail
  refine Calls.mono HC.out ?_
  rintro e w1 ⟨rfl, rfl⟩
  go_wp2
  go_ret
  exact ⟨rfl, rfl⟩
theorem pts_src {w : World} {c : Nat} {s src : ByteArray} {z n : Int} {pv nv : Value} (hb : RB w c s z n pv src nv) (hs : s.size ≤ 8192) :
    Calls Tryd.prog 53 #[PT c, .string (mk srW)] w fun e w' => e = .returned (.int .i64 0) ∧ RB w' c s z n pv s .nilFunc ∧ Kept (fun q => q = c) w w' := by
  have HC : Hid _ := source_ok hb hs
  go_enter Tryd.func53, Tryd.ntmps53
  go_wp2_with fail
  refine Calls.mono HC.out ?_
  rintro e w1 ⟨rfl, h1, h2⟩
  have HX : Hid (RB w1 c s z n pv s .nilFunc ∧ Kept (fun q => q = c) w w1) := ⟨h1, h2⟩
  clear h1 h2
  go_wp2
  go_ret
  exact ⟨rfl, HX.out⟩
theorem pts_none {w : World} {c : Nat} (hm : MaxIs w) (hr : RowsIs w) (line : List UInt8) (hl : line.length ≤ 90000) (hsr : line ≠ srW) (hlf : lineF line = none) :
    Calls Tryd.prog 53 #[PT c, .string (mk line)] w fun e w' => e = .returned (.int .i64 6) ∧ Kept No w w' := by
  have hcm : (line == [115, 111, 117, 114, 99, 101]) = false := by rw [beq_eq_false_iff_ne]; exact hsr
  have HP : Hid (Calls Tryd.prog 61 #[.string (mk line)] w fun e w' => (∃ (a b : Int) (k : Nat), e = .returned (.tuple #[.agg #[.int .i64 a, .int .i64 b], .int .i64 (k : Int), .bool false])) ∧ Kept No w w') := by
    have := pointsOf_any (mk line) (by rw [mk_size]; omega) w hm hr
    rw [bl_mk, hlf] at this
    refine Calls.mono this ?_
    rintro e w' ⟨⟨p', k', rfl, hq⟩, hk⟩
    exact ⟨⟨p'.1, p'.2, k', rfl⟩, hk⟩
  clear hm hr hlf
  go_enter Tryd.func53, Tryd.ntmps53
  go_wp2_with fail
  refine Calls.mono HP.out ?_
  rintro e w1 ⟨⟨a, b, k, rfl⟩, hk1⟩
  have HK : Hid (∀ o, Kept No w (w1.alloc o)) := fun o => hk1.alloc o
  clear hk1
  go_wp2
  go_ret
  exact ⟨rfl, HK.out _⟩
theorem pts_many {w : World} {c : Nat} {s src : ByteArray} {z n : Int} {pv nv : Value} {B : Nat} {pts : List V} (hb : RB w c s z n pv src nv) (hrow : VRow w B pv pts) (hpl : pts.length ≤ 4000) (hm : MaxIs w) (hr : RowsIs w)
    (line : List UInt8) (hl : line.length ≤ 90000) (hsr : line ≠ srW) (p : V) (k : Nat) (hlf : lineF line = some (p, k)) (hk : 4000 < pts.length + k) :
    Calls Tryd.prog 53 #[PT c, .string (mk line)] w fun e w' => e = .returned (.int .i64 4) ∧ Kept No w w' := by
  have hcm : (line == [115, 111, 117, 114, 99, 101]) = false := by rw [beq_eq_false_iff_ne]; exact hsr
  have HP : Hid (Calls Tryd.prog 61 #[.string (mk line)] w fun e w' => e = .returned (.tuple #[.agg #[.int .i64 p.1, .int .i64 p.2], .int .i64 (k : Int), .bool true]) ∧ Kept No w w') := by
    have := pointsOf_any (mk line) (by rw [mk_size]; omega) w hm hr
    rw [bl_mk, hlf] at this
    refine Calls.mono this ?_
    rintro e w' ⟨⟨p', k', rfl, hq⟩, hk⟩
    have := hq _ rfl
    injection this with h1 h2
    subst h1 h2
    exact ⟨rfl, hk⟩
  have HB : Hid (RB w c s z n pv src nv) := hb
  obtain ⟨ao, cp, rfl⟩ := hrow.form
  obtain ⟨p1, p2⟩ := p
  have i1 : (4000 : Int) - (pts.length : Int) < (k : Int) := by omega
  clear hm hr hlf hb hrow
  go_enter Tryd.func53, Tryd.ntmps53
  go_wp2_with fail
  refine Calls.mono HP.out ?_
  rintro e w1 ⟨rfl, hk1⟩
  obtain ⟨W, HW⟩ : ∃ W, Hid (W = w1.alloc (.cells #[.int .i64 p1, .int .i64 p2] 45)) := ⟨_, rfl⟩
  have HK : Hid (Kept No w W) := by show Kept _ _ _; rw [HW.out]; exact hk1.alloc _
  have HBW : Hid (RB W c s z n (.slice ao pts.length cp) src nv) := HK.out.heap HB.out id
  have c3 : W.cell? ⟨c, 3, none⟩ = some (.slice ao pts.length cp) := by rw [cell_of HBW.out]; rfl
  clear hk1
  go_wp2_with (first | rw [← HW.out])
  go_ret
  exact ⟨rfl, HK.out⟩

/-- The scene of a state; what its reader calls next. -/
def scOf : St → Sc
  | .s0 => sc0
  | .s1 z => ⟨z, 0, [], []⟩
  | .s2 z n pts => ⟨z, n, pts, []⟩
  | .done x => x
def stM : St → Nat
  | .s0 => 36
  | .s1 _ => 47
  | .s2 _ _ _ => 53
  | .done _ => 0
def nextV (c : Nat) : St → Value
  | .done _ => .nilFunc
  | st => mth (stM st) c
/-- A reader in memory, in a state. -/
def RdSt (B : Nat) (w : World) (c : Nat) (st : St) (l : List UInt8) : Prop :=
  ∃ pv s, RB w c s (scOf st).size (scOf st).steps pv (mk (scOf st).src) (nextV c st) ∧ VRow w B pv (scOf st).pts ∧ (scOf st).pts.length ≤ 4000 ∧ ((∀ x, st ≠ .done x) → s = mk l)
/-- What a line tells. -/
def StP (B c : Nat) (r : Nat ⊕ (St × List UInt8)) (e : Ending) (w' : World) : Prop :=
  (∀ er, r = .inl er → e = .returned (.int .i64 (er : Int))) ∧ (∀ st l, r = .inr (st, l) → e = .returned (.int .i64 0) ∧ RdSt B w' c st l)
theorem StP.bad {B c : Nat} {r : Nat ⊕ (St × List UInt8)} {w' : World} {k : Int} (er : Nat) (h : r = .inl er) (hk : k = (er : Int)) : StP B c r (.returned (.int .i64 k)) w' :=
  ⟨fun e' h' => (by rw [h] at h'; injection h' with h'; rw [hk, h']), fun st l h' => (by rw [h] at h'; cases h')⟩
theorem StP.good {B c : Nat} {r : Nat ⊕ (St × List UInt8)} {w' : World} (st : St) (l : List UInt8) (h : r = .inr (st, l)) (hr : RdSt B w' c st l) : StP B c r (.returned (.int .i64 0)) w' :=
  ⟨fun e' h' => (by rw [h] at h'; cases h'), fun st' l' h' => (by rw [h] at h'; injection h' with h'; injection h' with h1 h2; subst h1 h2; exact ⟨rfl, hr⟩)⟩
theorem RdSt.lt {B : Nat} {w : World} {c : Nat} {st : St} {l : List UInt8} (h : RdSt B w c st l) : c < w.heap.size := by
  obtain ⟨pv, s, h1, _⟩ := h
  exact hp_lt h1
theorem row_c {B c : Nat} {w w' : World} {s src : ByteArray} {z n : Int} {pv nv : Value} {pts : List V} (hrow : VRow w B pv pts) (hb : RB w c s z n pv src nv) (hk : Kept (fun q => q = c) w w') : VRow w' B pv pts := by
  refine hrow.turn (fun g hg => hk.block g (hp_lt (hrow.block hg).2.choose_spec) (fun e => ?_))
  subst e
  obtain ⟨_, cc, hcc⟩ := hrow.block hg
  have h2 := hcc.symm.trans hb
  injection h2 with h2
  injection h2 with _ h3
  exact absurd h3 (by decide)
theorem row_no {B : Nat} {w w' : World} {pv : Value} {pts : List V} (hrow : VRow w B pv pts) (hk : Kept No w w') : VRow w' B pv pts :=
  hrow.turn (fun g hg => hk.block g (hp_lt (hrow.block hg).2.choose_spec) id)

theorem next_s0 {B : Nat} {w : World} {c : Nat} {line rest : List UInt8} (h : RdSt B w c .s0 rest) (hBc : B ≤ c) (hl : line.length ≤ 90000) :
    Calls Tryd.prog 36 #[PT c, .string (mk line)] w fun e w' => StP B c (lineS .s0 line rest) e w' ∧ Kept (KB B) w w' := by
  obtain ⟨pv, s, hb, hrow, hpl, hs⟩ := h
  obtain rfl := hs (fun x e => by cases e)
  cases ha : afterF szW line with
  | none =>
    refine Calls.mono (size_none hb line hl ha) ?_
    rintro e w' ⟨rfl, hk⟩
    exact ⟨.bad 6 (by unfold lineS; simp only [ha]) rfl, hk.no⟩
  | some k =>
    by_cases hk : k < 1 ∨ 65536 < k
    · refine Calls.mono (size_bad hb line hl k ha (by rw [Bool.and_eq_false_iff, decide_eq_false_iff_not, decide_eq_false_iff_not]; omega)) ?_
      rintro e w' ⟨rfl, hk'⟩
      exact ⟨.bad 7 (by unfold lineS; simp only [ha, if_pos hk]) rfl, hk'.no⟩
    · refine Calls.mono (size_ok hb line hl k ha (by rw [Bool.and_eq_true, decide_eq_true_eq, decide_eq_true_eq]; omega)) ?_
      rintro e w' ⟨rfl, h1, h2⟩
      exact ⟨.good (.s1 k) rest (by unfold lineS; simp only [ha, if_neg hk]) ⟨pv, _, h1, row_c hrow hb h2, hpl, fun _ => rfl⟩, h2.mono (fun q e => by subst e; exact hBc)⟩
theorem next_s1 {B : Nat} {w : World} {c : Nat} {z : Int} {line rest : List UInt8} (h : RdSt B w c (.s1 z) rest) (hBc : B ≤ c) (hl : line.length ≤ 90000) :
    Calls Tryd.prog 47 #[PT c, .string (mk line)] w fun e w' => StP B c (lineS (.s1 z) line rest) e w' ∧ Kept (KB B) w w' := by
  obtain ⟨pv, s, hb, hrow, hpl, hs⟩ := h
  obtain rfl := hs (fun x e => by cases e)
  cases ha : afterF stW line with
  | none =>
    refine Calls.mono (steps_none hb line hl ha) ?_
    rintro e w' ⟨rfl, hk⟩
    exact ⟨.bad 6 (by unfold lineS; simp only [ha]) rfl, hk.no⟩
  | some k =>
    by_cases hk : 20000 < k
    · refine Calls.mono (steps_bad hb line hl k ha (by rw [Bool.and_eq_false_iff, decide_eq_false_iff_not, decide_eq_false_iff_not]; omega)) ?_
      rintro e w' ⟨rfl, hk'⟩
      exact ⟨.bad 7 (by unfold lineS; simp only [ha, if_pos hk]) rfl, hk'.no⟩
    · refine Calls.mono (steps_ok hb line hl k ha (by rw [Bool.and_eq_true, decide_eq_true_eq, decide_eq_true_eq]; omega)) ?_
      rintro e w' ⟨rfl, h1, h2⟩
      exact ⟨.good (.s2 z k []) rest (by unfold lineS; simp only [ha, if_neg hk]) ⟨pv, _, h1, row_c hrow hb h2, hpl, fun _ => rfl⟩, h2.mono (fun q e => by subst e; exact hBc)⟩
theorem next_s2 {B : Nat} {w : World} {c : Nat} {z n : Int} {pts : List V} {line rest : List UInt8} (h : RdSt B w c (.s2 z n pts) rest) (hBc : B ≤ c) (hl : line.length ≤ 90000) (hm : MaxIs w) (hr : RowsIs w) :
    Calls Tryd.prog 53 #[PT c, .string (mk line)] w fun e w' => StP B c (lineS (.s2 z n pts) line rest) e w' ∧ Kept (KB B) w w' := by
  have hBw : B ≤ w.heap.size := by have := h.lt; omega
  obtain ⟨pv, s, hb, hrow, hpl, hs⟩ := h
  obtain rfl := hs (fun x e => by cases e)
  by_cases hsr : line = srW
  · subst hsr
    by_cases h8 : 8192 < rest.length
    · refine Calls.mono (pts_long hb (by rw [mk_size]; exact h8)) ?_
      rintro e w' ⟨rfl, rfl⟩
      exact ⟨.bad 3 (by unfold lineS; simp only [if_true, if_pos h8]) rfl, (Kept.refl _ _)⟩
    · refine Calls.mono (pts_src hb (by rw [mk_size]; omega)) ?_
      rintro e w' ⟨rfl, h1, h2⟩
      exact ⟨.good (.done ⟨z, n, pts, rest⟩) [] (by unfold lineS; simp only [if_true, if_neg h8]) ⟨pv, _, h1, row_c hrow hb h2, hpl, fun h => absurd rfl (h _)⟩, h2.mono (fun q e => by subst e; exact hBc)⟩
  · cases hlf : lineF line with
    | none =>
      refine Calls.mono (pts_none hm hr line hl hsr hlf) ?_
      rintro e w' ⟨rfl, hk⟩
      exact ⟨.bad 6 (by unfold lineS; simp only [if_neg hsr, hlf]) rfl, hk.no⟩
    | some q =>
      obtain ⟨p, k⟩ := q
      by_cases hk : 4000 < pts.length + k
      · refine Calls.mono (pts_many hb hrow hpl hm hr line hl hsr p k hlf hk) ?_
        rintro e w' ⟨rfl, hk'⟩
        exact ⟨.bad 4 (by unfold lineS; simp only [if_neg hsr, hlf, if_pos hk]) rfl, hk'.no⟩
      · refine Calls.mono (points_ok hb hrow hBc hBw hpl hm hr line hl hsr p k hlf (by show pts.length + k ≤ 4000; omega)) ?_
        rintro e w' ⟨rfl, ⟨pv', h1, h2⟩, h3⟩
        exact ⟨.good (.s2 z n (pts ++ List.replicate k p)) rest (by unfold lineS; simp only [if_neg hsr, hlf, if_neg hk]) ⟨pv', _, h1, h2, by simp [scOf]; omega, fun _ => rfl⟩, h3⟩
end Go.Proofs.YtbhmgmbgplkkeaaDoor
