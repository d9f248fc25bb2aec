/- Blocks of memory: what a table of texts is; what a step leaves as it was. -/
import Derived.Test.YtnfamebihpnjlaaRows
import Derived.WalkKit
import Derived.WalkSpells
import Derived.WalkLawsBesides
import Derived.Laws.BitsAllLaws
import Derived.RangeFuncNested
import Derived.Maps.OwnSet
import Derived.Maps.OwnIn
import Derived.Deep.QuietTactic
import Derived.BigQuiet
namespace Go.Proofs.Ytnfamebihpnjlaa
open Go.RowKit
set_option linter.unusedSimpArgs false
set_option linter.unusedVariables false

/-- A table's record: its chains, its texts, how many puts. -/
def tb (C n M p : Nat) : Obj := .cells #[.slice (some ⟨C, 0, none⟩) n n, .map (some M), .int .i64 p] 61 (0, 0)
/-- Its chains. -/
def chO (vs : List Value) : Obj := .cells vs.toArray 42 (0, 0)

/-- Outside of S nothing has turned. -/
structure Kept (S : Nat → Prop) (w w' : World) : Prop where
  os : w'.os = w.os
  tape : w'.tape = w.tape
  output : w'.output = w.output
  size : w.heap.size ≤ w'.heap.size
  block : ∀ k, k < w.heap.size → ¬ S k → w'.heap[k]? = w.heap[k]?

/-- Nothing. -/
def No : Nat → Prop := fun _ => False

theorem Kept.refl (S : Nat → Prop) (w : World) : Kept S w w := ⟨rfl, rfl, rfl, Nat.le_refl _, fun _ _ _ => rfl⟩
theorem Kept.mono {S T : Nat → Prop} {w w' : World} (h : Kept S w w') (hs : ∀ k, S k → T k) : Kept T w w' :=
  ⟨h.os, h.tape, h.output, h.size, fun k hk hn => h.block k hk (fun e => hn (hs k e))⟩
theorem Kept.no {T : Nat → Prop} {w w' : World} (h : Kept No w w') : Kept T w w' := h.mono (fun _ e => e.elim)
theorem Kept.trans {S : Nat → Prop} {a b c : World} (h : Kept S a b) (k : Kept S b c) : Kept S a c :=
  ⟨k.os.trans h.os, k.tape.trans h.tape, k.output.trans h.output, Nat.le_trans h.size k.size, fun i hi hn => (k.block i (Nat.lt_of_lt_of_le hi h.size) hn).trans (h.block i hi hn)⟩
/-- What was made in between may turn as well. -/
theorem Kept.trans' {S T : Nat → Prop} {a b c : World} (h : Kept S a b) (k : Kept T b c) (ht : ∀ i, T i → S i ∨ a.heap.size ≤ i) : Kept S a c :=
  ⟨k.os.trans h.os, k.tape.trans h.tape, k.output.trans h.output, Nat.le_trans h.size k.size, fun i hi hn =>
    (k.block i (Nat.lt_of_lt_of_le hi h.size) (fun e => (ht i e).elim hn (fun e' => by omega))).trans (h.block i hi hn)⟩
theorem Kept.drew {S : Nat → Prop} {a w : World} (h : Kept S a w) : Kept S a w.drew := ⟨h.os, h.tape, h.output, h.size, h.block⟩
theorem Kept.drewN {S : Nat → Prop} {a w : World} (h : Kept S a w) (n : Nat) : Kept S a (w.drewN n) := ⟨h.os, h.tape, h.output, h.size, h.block⟩
theorem Kept.alloc {S : Nat → Prop} {a w : World} (h : Kept S a w) (o : Obj) : Kept S a (w.alloc o) :=
  h.trans' (T := No) ⟨rfl, rfl, rfl, by simp, fun k hk _ => Below.heap_alloc w o k hk⟩ (fun _ e => e.elim)
theorem Kept.set {S : Nat → Prop} {a w : World} (h : Kept S a w) (b o : Nat) (v : Value) (hb : S b ∨ a.heap.size ≤ b) : Kept S a (w.setCell ⟨b, o, none⟩ v) :=
  h.trans' (T := fun k => k = b) ⟨rfl, rfl, rfl, by simp [World.setCell], fun k _ hn => Below.heap_setCell w _ v k hn⟩ (fun i e => by subst e; exact hb)
theorem Kept.grown {S : Nat → Prop} {a w w' : World} {row : Option Nat} (h : Kept S a w) (hg : w.grownBy w' row) (hr : ∀ k, row = some k → S k ∨ a.heap.size ≤ k) : Kept S a w' :=
  h.trans' (T := fun k => row = some k) ⟨hg.os, hg.tape, hg.output, hg.size, fun k hk hn => hg.block k hk (fun e => hn e.symm)⟩ hr
theorem Kept.of_below {w w' : World} (h : Below w.heap.size w w') : Kept No w w' := ⟨h.os, h.tape, h.output, h.size, fun k hk _ => h.block k hk⟩
theorem Kept.below {S : Nat → Prop} {B : Nat} {w w' : World} (h : Kept S w w') (hB : B ≤ w.heap.size) (hs : ∀ k, S k → B ≤ k) : Below B w w' :=
  ⟨h.os, h.tape, h.output, h.size, fun k hk => h.block k (by omega) (fun e => by have := hs k e; omega)⟩
theorem Kept.heap {S : Nat → Prop} {w w' : World} (h : Kept S w w') {k : Nat} {o : Obj} (hk : w.heap[k]? = some o) (hn : ¬ S k) : w'.heap[k]? = some o :=
  (h.block k (Array.getElem?_eq_some_iff.1 hk).1 hn).trans hk

theorem hp_lt {w : World} {k : Nat} {o : Obj} (h : w.heap[k]? = some o) : k < w.heap.size := (Array.getElem?_eq_some_iff.1 h).1

/-- An object with one cell turned. -/
def stO (o : Nat) (v : Value) : Obj → Obj
  | .cells c e f => .cells (c.setIfInBounds o v) e f
  | x => x
theorem hp_set (w : World) (b o : Nat) (v : Value) (k : Nat) : (w.setCell ⟨b, o, none⟩ v).heap[k]? = if k = b then (w.heap[k]?).map (stO o v) else w.heap[k]? := by
  by_cases h : k = b
  · subst h
    rw [if_pos rfl]
    show (w.heap.modify k _)[k]? = _
    rw [Array.getElem?_modify, if_pos rfl]
    congr 1
  · rw [if_neg h]; exact Below.heap_setCell w _ v k h
theorem hp_drew (w : World) : w.drew.heap = w.heap := rfl
theorem hp_drewN (w : World) (n : Nat) : (w.drewN n).heap = w.heap := rfl
theorem hp_set_same {w : World} {b : Nat} {c : Array Value} {e : TypeId} {f : Nat × Nat} (h : w.heap[b]? = some (.cells c e f)) (o : Nat) (v : Value) : (w.setCell ⟨b, o, none⟩ v).heap[b]? = some (.cells (c.setIfInBounds o v) e f) := by
  rw [hp_set, if_pos rfl, h]; rfl
theorem hp_set_other {w : World} {b k : Nat} {x : Obj} (h : w.heap[k]? = some x) (o : Nat) (v : Value) (hn : k ≠ b) : (w.setCell ⟨b, o, none⟩ v).heap[k]? = some x := by
  rw [hp_set, if_neg hn, h]

theorem cell_of {w : World} {b : Nat} {c : Array Value} {e : TypeId} {f : Nat × Nat} (h : w.heap[b]? = some (.cells c e f)) (o : Nat) : w.cell? ⟨b, o, none⟩ = c[o]? := by
  simp [World.cell?, h]
theorem frozen_of {w : World} {b : Nat} {c : Array Value} {e : TypeId} (h : w.heap[b]? = some (.cells c e (0, 0))) (o : Nat) : w.frozen? ⟨b, o, none⟩ = false := by
  simp [World.frozen?, h]


theorem tb_cells {w : World} {A C n M p : Nat} (h : w.heap[A]? = some (tb C n M p)) :
    w.cell? ⟨A, 0, none⟩ = some (.slice (some ⟨C, 0, none⟩) n n) ∧ w.cell? ⟨A, 1, none⟩ = some (.map (some M)) ∧ w.cell? ⟨A, 2, none⟩ = some (.int .i64 p) :=
  ⟨by rw [cell_of h]; rfl, by rw [cell_of h]; rfl, by rw [cell_of h]; rfl⟩
theorem tb_frozen {w : World} {A C n M p : Nat} (h : w.heap[A]? = some (tb C n M p)) (o : Nat) : w.frozen? ⟨A, o, none⟩ = false := frozen_of h o
theorem ch_cell {w : World} {C : Nat} {vs : List Value} (h : w.heap[C]? = some (chO vs)) {b : Nat} (hb : b < vs.length) : w.cell? ⟨C, b, none⟩ = some vs[b] := by
  rw [cell_of h]; simp [hb]
theorem ch_frozen {w : World} {C : Nat} {vs : List Value} (h : w.heap[C]? = some (chO vs)) (o : Nat) : w.frozen? ⟨C, o, none⟩ = false := frozen_of h o
theorem ch_set {w : World} {C : Nat} {vs : List Value} (h : w.heap[C]? = some (chO vs)) (b : Nat) (v : Value) : (w.setCell ⟨C, b, none⟩ v).heap[C]? = some (chO (vs.set b v)) := by
  rw [hp_set_same h]; simp [chO]

/-- How a text with its number reads. -/
def iR : Value → Option (DataW Unit × List MemPlace)
  | .agg a => match a.toList with
    | [.string s, .int .i64 q] => some (.agg [.lit (.string s.data.toList), .lit (.int .i64 q)], [])
    | _ => none
  | _ => none
/-- .. as a datum. -/
def iD (x : ByteArray × Nat) : DataW Unit := .agg [.lit (.string x.1.data.toList), .lit (.int .i64 x.2)]
/-- .. as a value. -/
def iV (x : ByteArray × Nat) : Value := .agg #[.string x.1, .int .i64 x.2]
/-- None. -/
def i0 : ByteArray × Nat := (⟨#[]⟩, 0)
theorem iR_mk (x : ByteArray × Nat) : iR (iV x) = some (iD x, []) := rfl
theorem ba_ext {a b : ByteArray} (h : a.data.toList = b.data.toList) : a = b := by
  cases a; cases b; congr; exact Array.toList_inj.1 h
theorem iR_inv {v : Value} {x : ByteArray × Nat} {ps : List MemPlace} (h : iR v = some (iD x, ps)) : v = iV x := by
  unfold iR at h
  split at h
  · split at h
    · rename_i a s q hq
      simp only [iD, Option.some.injEq, Prod.mk.injEq, DataW.agg.injEq, List.cons.injEq, DataW.lit.injEq, Lit.string.injEq, Lit.int.injEq, and_true, true_and] at h
      obtain ⟨⟨h1, h2⟩, _⟩ := h
      have e := ba_ext h1
      subst e
      unfold iV
      congr
      apply Array.toList_inj.1
      rw [hq, h2]
    · cases h
  · cases h

/-- A number that an int can be. -/
def wf (h : Int) : Prop := (Lit.int .i64 h).wf = true
theorem wf_of {h : Int} (h1 : -9223372036854775808 ≤ h) (h2 : h ≤ 9223372036854775807) : wf h := by
  have e1 : IntKind.i64.min = -9223372036854775808 := by decide
  have e2 : IntKind.i64.max = 9223372036854775807 := by decide
  unfold wf; simp [Lit.wf, e1, e2]; omega

theorem keyed3 : Maps.Keyed Try.prog 3 := Maps.int_keyed Try.underlying3
theorem zero64 (w : World) : (zeroValue 64).run Try.prog w = .ok (iV i0) w := by kernel_rfl

/-- Datum D has g, and c entries. -/
def DIs (D : DataW Unit) (c : Nat) (g : Int → Option (ByteArray × Nat)) : Prop :=
  Maps.size D = c ∧ ∀ h, D.atKey (.int .i64 h) (iD i0) = iD ((g h).getD i0) ∧ Maps.has D (.int .i64 h) = (g h).isSome
/-- Block M is a map of at most n entries that has g, and c entries. -/
def MapIs (w : World) (M n c : Nat) (g : Int → Option (ByteArray × Nat)) : Prop :=
  ∃ D : DataW Unit, w.ownsMap Try.prog 3 iR M n D ∧ DIs D c g

theorem MapIs.kept {S : Nat → Prop} {w w' : World} {M n c : Nat} {g : Int → Option (ByteArray × Nat)} (h : MapIs w M n c g) (hk : Kept S w w') (hn : ¬ S M) : MapIs w' M n c g := by
  obtain ⟨D, ⟨es, cc, hb, r⟩, hD⟩ := h
  exact ⟨D, ⟨es, cc, hk.heap hb hn, r⟩, hD⟩
theorem MapIs.lt {w : World} {M n c : Nat} {g : Int → Option (ByteArray × Nat)} (h : MapIs w M n c g) : M < w.heap.size := h.choose_spec.1.lt
theorem MapIs.not_cells {w : World} {M n c : Nat} {g : Int → Option (ByteArray × Nat)} (h : MapIs w M n c g) {k : Nat} {cs : Array Value} {e : TypeId} {f : Nat × Nat} (hk : w.heap[k]? = some (.cells cs e f)) : M ≠ k := by
  obtain ⟨D, ⟨es, cc, hb, r⟩, hD⟩ := h
  intro e; subst e; rw [hb] at hk; cases hk
theorem MapIs.made (w : World) : MapIs (w.alloc (.map #[] 0)) w.heap.size 0 0 (fun _ => none) :=
  ⟨.map [], World.ownsMap_made w _ _ _, rfl, fun _ => ⟨rfl, rfl⟩⟩
theorem MapIs.congr {w : World} {M n c c' : Nat} {g g' : Int → Option (ByteArray × Nat)} (h : MapIs w M n c g) (hc : c = c') (hg : ∀ i, g i = g' i) : MapIs w M n c' g' := by
  subst hc
  have e : g = g' := funext hg
  subst e; exact h

theorem MapIs.look {w : World} {M n c : Nat} {g : Int → Option (ByteArray × Nat)} (hM : MapIs w M n c g) {h : Int} (hw : wf h) :
    (Instr.lookup 59 (.map (some M)) (.int .i64 h) false).run Try.prog w = .ok (iV ((g h).getD i0)) w := by
  obtain ⟨D, ho, hD⟩ := hM
  obtain ⟨v, ps, hrun, hR⟩ := ho.lookup keyed3 Try.underlying59 (zero64 w) (zd := iD i0) (zp := []) (iR_mk i0) (Maps.keyOf_int_mk Try.underlying3 hw)
  rw [(hD.2 h).1] at hR
  rw [hrun, iR_inv hR]
theorem MapIs.look2 {w : World} {M n c : Nat} {g : Int → Option (ByteArray × Nat)} (hM : MapIs w M n c g) {h : Int} (hw : wf h) :
    (Instr.lookup 59 (.map (some M)) (.int .i64 h) true).run Try.prog w = .ok (.tuple #[iV ((g h).getD i0), .bool (g h).isSome]) w := by
  obtain ⟨D, ho, hD⟩ := hM
  obtain ⟨v, ps, hrun, hR⟩ := ho.look_ok keyed3 Try.underlying59 (zero64 w) (zd := iD i0) (zp := []) (iR_mk i0) (Maps.keyOf_int_mk Try.underlying3 hw)
  rw [(hD.2 h).1] at hR
  rw [hrun, iR_inv hR, (hD.2 h).2]
theorem MapIs.len {w : World} {M n c : Nat} {g : Int → Option (ByteArray × Nat)} (hM : MapIs w M n c g) (ty : TypeId) : (Builtin.len_ #[59] ty #[.map (some M)]).run Try.prog w = .ok (.int .i64 c) w := by
  obtain ⟨D, ho, hD⟩ := hM
  rw [ho.len Try.underlying59 ty, hD.1]

theorem key_ne {h h' : Int} (hne : h' ≠ h) : (Lit.int .i64 h') ≠ (Lit.int .i64 h) := by intro e; cases e; exact hne rfl

theorem MapIs.put {w w' w0 : World} {M n n' c : Nat} {g : Int → Option (ByteArray × Nat)} {D : DataW Unit} (hD : DIs D c g) (hm : w0.ownsMap Try.prog 3 iR M n' D) {h : Int} (hw : wf h) (hg : g h = none) (x : ByteArray × Nat)
    (ho : w'.ownsMap Try.prog 3 iR M n (D.put (.int .i64 h) (iD x))) : MapIs w' M n (c + 1) (fun i => if i = h then some x else g i) := by
  have hkl : WideAt.IsKeyLit (.int .i64 h) := keyed3.key (Maps.keyOf_int_mk Try.underlying3 hw)
  refine ⟨_, ho, ?_, fun i => ?_⟩
  · rw [Maps.size_put (hm.tidy keyed3), (hD.2 h).2, hg, hD.1]; rfl
  by_cases e : i = h
  · subst e
    dsimp only
    rw [if_pos rfl]
    exact ⟨Maps.atKey_put_same hm.isMap hkl _ _, Maps.has_put_same hm.isMap hkl _⟩
  · dsimp only
    rw [if_neg e]
    exact ⟨(Maps.atKey_put_other (key_ne e) _ _).trans (hD.2 i).1, (Maps.has_put_other (key_ne e) _).trans (hD.2 i).2⟩
theorem MapIs.del {w' w0 : World} {M n n' c : Nat} {g : Int → Option (ByteArray × Nat)} {D : DataW Unit} (hD : DIs D c g) (hm : w0.ownsMap Try.prog 3 iR M n' D) {h : Int} (hg : (g h).isSome = true)
    (ho : w'.ownsMap Try.prog 3 iR M n (D.del (.int .i64 h))) : MapIs w' M n (c - 1) (fun i => if i = h then none else g i) := by
  refine ⟨_, ho, ?_, fun i => ?_⟩
  · have := Maps.size_del (k := .int .i64 h) (hm.tidy keyed3)
    rw [(hD.2 h).2, hg, hD.1] at this
    simp at this; omega
  by_cases e : i = h
  · subst e
    dsimp only
    rw [if_pos rfl]
    exact ⟨Maps.atKey_del_same _, Maps.has_del_same⟩
  · dsimp only
    rw [if_neg e]
    exact ⟨(Maps.atKey_del_other (key_ne e) _).trans (hD.2 i).1, (Maps.has_del_other (key_ne e)).trans (hD.2 i).2⟩
end Go.Proofs.Ytnfamebihpnjlaa
