/- Blocks of memory: what a store is; what a step leaves as it was. -/
import Derived.Test.YthefmfjlinpepaaW5
import Derived.WalkKit
import Derived.WalkSpells
import Derived.WalkLawsBesides
import Derived.Laws.BitsAllLaws
import Derived.RangeFuncNested
import Derived.Maps.OwnSet
import Derived.Maps.OwnIn
import Derived.Deep.QuietTactic
import Derived.BigQuiet
namespace Go.Proofs.Ythefmfjlinpepaa
open Go.RowKit
set_option linter.unusedSimpArgs false
set_option linter.unusedVariables false

/-- Outside of S nothing has turned. -/
structure Kept (S : Nat → Prop) (w w' : World) : Prop where
  os : w'.os = w.os
  tape : w'.tape = w.tape
  output : w'.output = w.output
  size : w.heap.size ≤ w'.heap.size
  block : ∀ k, k < w.heap.size → ¬ S k → w'.heap[k]? = w.heap[k]?

/-- Nothing. -/
def No : Nat → Prop := fun _ => False

theorem Kept.refl (S : Nat → Prop) (w : World) : Kept S w w := ⟨rfl, rfl, rfl, Nat.le_refl _, fun _ _ _ => rfl⟩
theorem Kept.mono {S T : Nat → Prop} {w w' : World} (h : Kept S w w') (hs : ∀ k, S k → T k) : Kept T w w' :=
  ⟨h.os, h.tape, h.output, h.size, fun k hk hn => h.block k hk (fun e => hn (hs k e))⟩
theorem Kept.no {T : Nat → Prop} {w w' : World} (h : Kept No w w') : Kept T w w' := h.mono (fun _ e => e.elim)
theorem Kept.trans {S : Nat → Prop} {a b c : World} (h : Kept S a b) (k : Kept S b c) : Kept S a c :=
  ⟨k.os.trans h.os, k.tape.trans h.tape, k.output.trans h.output, Nat.le_trans h.size k.size, fun i hi hn => (k.block i (Nat.lt_of_lt_of_le hi h.size) hn).trans (h.block i hi hn)⟩
/-- What was made in between may turn as well. -/
theorem Kept.trans' {S T : Nat → Prop} {a b c : World} (h : Kept S a b) (k : Kept T b c) (ht : ∀ i, T i → S i ∨ a.heap.size ≤ i) : Kept S a c :=
  ⟨k.os.trans h.os, k.tape.trans h.tape, k.output.trans h.output, Nat.le_trans h.size k.size, fun i hi hn =>
    (k.block i (Nat.lt_of_lt_of_le hi h.size) (fun e => (ht i e).elim hn (fun e' => by omega))).trans (h.block i hi hn)⟩
theorem Kept.drew {S : Nat → Prop} {a w : World} (h : Kept S a w) : Kept S a w.drew := ⟨h.os, h.tape, h.output, h.size, h.block⟩
theorem Kept.drewN {S : Nat → Prop} {a w : World} (h : Kept S a w) (n : Nat) : Kept S a (w.drewN n) := ⟨h.os, h.tape, h.output, h.size, h.block⟩
theorem Kept.alloc {S : Nat → Prop} {a w : World} (h : Kept S a w) (o : Obj) : Kept S a (w.alloc o) :=
  h.trans' (T := No) ⟨rfl, rfl, rfl, by simp, fun k hk _ => Below.heap_alloc w o k hk⟩ (fun _ e => e.elim)
theorem Kept.set {S : Nat → Prop} {a w : World} (h : Kept S a w) (b o : Nat) (v : Value) (hb : S b ∨ a.heap.size ≤ b) : Kept S a (w.setCell ⟨b, o, none⟩ v) :=
  h.trans' (T := fun k => k = b) ⟨rfl, rfl, rfl, by simp [World.setCell], fun k _ hn => Below.heap_setCell w _ v k hn⟩ (fun i e => by subst e; exact hb)
theorem Kept.grown {S : Nat → Prop} {a w w' : World} {row : Option Nat} (h : Kept S a w) (hg : w.grownBy w' row) (hr : ∀ k, row = some k → S k ∨ a.heap.size ≤ k) : Kept S a w' :=
  h.trans' (T := fun k => row = some k) ⟨hg.os, hg.tape, hg.output, hg.size, fun k hk hn => hg.block k hk (fun e => hn e.symm)⟩ hr
theorem Kept.of_below {w w' : World} (h : Below w.heap.size w w') : Kept No w w' := ⟨h.os, h.tape, h.output, h.size, fun k hk _ => h.block k hk⟩
theorem Kept.below {S : Nat → Prop} {B : Nat} {w w' : World} (h : Kept S w w') (hB : B ≤ w.heap.size) (hs : ∀ k, S k → B ≤ k) : Below B w w' :=
  ⟨h.os, h.tape, h.output, h.size, fun k hk => h.block k (by omega) (fun e => by have := hs k e; omega)⟩
theorem Kept.heap {S : Nat → Prop} {w w' : World} (h : Kept S w w') {k : Nat} {o : Obj} (hk : w.heap[k]? = some o) (hn : ¬ S k) : w'.heap[k]? = some o :=
  (h.block k (Array.getElem?_eq_some_iff.1 hk).1 hn).trans hk

theorem hp_lt {w : World} {k : Nat} {o : Obj} (h : w.heap[k]? = some o) : k < w.heap.size := (Array.getElem?_eq_some_iff.1 h).1

/-- An object with one cell turned. -/
def stO (o : Nat) (v : Value) : Obj → Obj
  | .cells c e f => .cells (c.setIfInBounds o v) e f
  | x => x
theorem hp_set (w : World) (b o : Nat) (v : Value) (k : Nat) : (w.setCell ⟨b, o, none⟩ v).heap[k]? = if k = b then (w.heap[k]?).map (stO o v) else w.heap[k]? := by
  by_cases h : k = b
  · subst h
    rw [if_pos rfl]
    show (w.heap.modify k _)[k]? = _
    rw [Array.getElem?_modify, if_pos rfl]
    congr 1
  · rw [if_neg h]; exact Below.heap_setCell w _ v k h
theorem hp_drew (w : World) : w.drew.heap = w.heap := rfl
theorem hp_drewN (w : World) (n : Nat) : (w.drewN n).heap = w.heap := rfl
theorem hp_set_same {w : World} {b : Nat} {c : Array Value} {e : TypeId} {f : Nat × Nat} (h : w.heap[b]? = some (.cells c e f)) (o : Nat) (v : Value) : (w.setCell ⟨b, o, none⟩ v).heap[b]? = some (.cells (c.setIfInBounds o v) e f) := by
  rw [hp_set, if_pos rfl, h]; rfl
theorem hp_set_other {w : World} {b k : Nat} {x : Obj} (h : w.heap[k]? = some x) (o : Nat) (v : Value) (hn : k ≠ b) : (w.setCell ⟨b, o, none⟩ v).heap[k]? = some x := by
  rw [hp_set, if_neg hn, h]

theorem cell_of {w : World} {b : Nat} {c : Array Value} {e : TypeId} {f : Nat × Nat} (h : w.heap[b]? = some (.cells c e f)) (o : Nat) : w.cell? ⟨b, o, none⟩ = c[o]? := by
  simp [World.cell?, h]
theorem frozen_of {w : World} {b : Nat} {c : Array Value} {e : TypeId} (h : w.heap[b]? = some (.cells c e (0, 0))) (o : Nat) : w.frozen? ⟨b, o, none⟩ = false := by
  simp [World.frozen?, h]


/-- A store's record: the most slots, array slots, nodes, the map of slots. -/
def mb (most : Int) (a n : Nat) (M : Option Nat) : Obj := .cells #[.int .i64 most, .int .i64 a, .int .i64 n, .map M] 67 (0, 0)
theorem mb_cells {w : World} {P : Nat} {most : Int} {a n : Nat} {M : Option Nat} (h : w.heap[P]? = some (mb most a n M)) :
    w.cell? ⟨P, 0, none⟩ = some (.int .i64 most) ∧ w.cell? ⟨P, 1, none⟩ = some (.int .i64 a) ∧ w.cell? ⟨P, 2, none⟩ = some (.int .i64 n) ∧ w.cell? ⟨P, 3, none⟩ = some (.map M) :=
  ⟨by rw [cell_of h]; rfl, by rw [cell_of h]; rfl, by rw [cell_of h]; rfl, by rw [cell_of h]; rfl⟩
theorem mb_frozen {w : World} {P : Nat} {most : Int} {a n : Nat} {M : Option Nat} (h : w.heap[P]? = some (mb most a n M)) (o : Nat) : w.frozen? ⟨P, o, none⟩ = false := frozen_of h o

/-- How a value reads. -/
def iR : Value → Option (DataW Unit × List MemPlace)
  | .agg a => match a.toList with
    | [.int .i64 t, .int .i64 n] => some (.agg [.lit (.int .i64 t), .lit (.int .i64 n)], [])
    | _ => none
  | _ => none
/-- .. as a datum. -/
def iD (x : Int × Int) : DataW Unit := .agg [.lit (.int .i64 x.1), .lit (.int .i64 x.2)]
/-- .. as a value. -/
abbrev iV (x : Int × Int) : Value := .agg #[.int .i64 x.1, .int .i64 x.2]
theorem iR_mk (x : Int × Int) : iR (iV x) = some (iD x, []) := rfl
theorem iR_inv {v : Value} {x : Int × Int} {ps : List MemPlace} (h : iR v = some (iD x, ps)) : v = iV x := by
  unfold iR at h
  split at h
  · split at h
    · rename_i a t n hq
      simp only [iD, Option.some.injEq, Prod.mk.injEq, DataW.agg.injEq, List.cons.injEq, DataW.lit.injEq, Lit.int.injEq, and_true, true_and] at h
      obtain ⟨⟨h1, h2⟩, _⟩ := h
      unfold iV
      congr
      apply Array.toList_inj.1
      rw [hq, h1, h2]
    · cases h
  · cases h

/-- A number that an int can be. -/
def wf (h : Int) : Prop := (Lit.int .i64 h).wf = true
theorem wf_of {h : Int} (h1 : -9223372036854775808 ≤ h) (h2 : h ≤ 9223372036854775807) : wf h := by
  have e1 : IntKind.i64.min = -9223372036854775808 := by decide
  have e2 : IntKind.i64.max = 9223372036854775807 := by decide
  unfold wf; simp [Lit.wf, e1, e2]; omega

theorem keyed3 : Maps.Keyed Try.prog 3 := Maps.int_keyed Try.underlying3
theorem zero33 (w : World) : (zeroValue 33).run Try.prog w = .ok (iV (0, 0)) w := by kernel_rfl

/-- What slots have: nil where nothing lies. -/
abbrev Sl := Int → Int × Int
/-- Block M is a map of at most n entries that has these slots. -/
def MapIs (w : World) (M n : Nat) (sl : Sl) : Prop :=
  ∃ D : DataW Unit, w.ownsMap Try.prog 3 iR M n D ∧ ∀ h, D.atKey (.int .i64 h) (iD (0, 0)) = iD (sl h)

theorem MapIs.kept {S : Nat → Prop} {w w' : World} {M n : Nat} {sl : Sl} (h : MapIs w M n sl) (hk : Kept S w w') (hn : ¬ S M) : MapIs w' M n sl := by
  obtain ⟨D, ⟨es, cc, hb, r⟩, hD⟩ := h
  exact ⟨D, ⟨es, cc, hk.heap hb hn, r⟩, hD⟩
theorem MapIs.lt {w : World} {M n : Nat} {sl : Sl} (h : MapIs w M n sl) : M < w.heap.size := h.choose_spec.1.lt
theorem MapIs.not_cells {w : World} {M n : Nat} {sl : Sl} (h : MapIs w M n sl) {k : Nat} {cs : Array Value} {e : TypeId} {f : Nat × Nat} (hk : w.heap[k]? = some (.cells cs e f)) : M ≠ k := by
  obtain ⟨D, ⟨es, cc, hb, r⟩, hD⟩ := h
  intro e; subst e; rw [hb] at hk; cases hk
theorem MapIs.made (w : World) : MapIs (w.alloc (.map #[] 0)) w.heap.size 0 (fun _ => (0, 0)) :=
  ⟨.map [], World.ownsMap_made w _ _ _, fun _ => rfl⟩
theorem MapIs.look {w : World} {M n : Nat} {sl : Sl} (hM : MapIs w M n sl) {h : Int} (hw : wf h) :
    (Instr.lookup 65 (.map (some M)) (.int .i64 h) false).run Try.prog w = .ok (iV (sl h)) w := by
  obtain ⟨D, ho, hD⟩ := hM
  obtain ⟨v, ps, hrun, hR⟩ := ho.lookup keyed3 Try.underlying65 (zero33 w) (zd := iD (0, 0)) (zp := []) (iR_mk (0, 0)) (Maps.keyOf_int_mk Try.underlying3 hw)
  rw [hD h] at hR
  rw [hrun, iR_inv hR]

theorem key_ne {h h' : Int} (hne : h' ≠ h) : (Lit.int .i64 h') ≠ (Lit.int .i64 h) := by intro e; cases e; exact hne rfl

/-- Slots with one turned. -/
def sput (sl : Sl) (h : Int) (x : Int × Int) : Sl := fun i => if i = h then x else sl i

theorem MapIs.put {w' w0 : World} {M n n' : Nat} {sl : Sl} {D : DataW Unit} (hD : ∀ h, D.atKey (.int .i64 h) (iD (0, 0)) = iD (sl h)) (hm : w0.ownsMap Try.prog 3 iR M n' D) {h : Int} (hw : wf h) (x : Int × Int)
    (ho : w'.ownsMap Try.prog 3 iR M n (D.put (.int .i64 h) (iD x))) : MapIs w' M n (sput sl h x) := by
  have hkl : WideAt.IsKeyLit (.int .i64 h) := keyed3.key (Maps.keyOf_int_mk Try.underlying3 hw)
  refine ⟨_, ho, fun i => ?_⟩
  by_cases e : i = h
  · subst e
    rw [sput, if_pos rfl]
    exact Maps.atKey_put_same hm.isMap hkl _ _
  · rw [sput, if_neg e]
    exact (Maps.atKey_put_other (key_ne e) _ _).trans (hD i)
theorem MapIs.del {w' w0 : World} {M n n' : Nat} {sl : Sl} {D : DataW Unit} (hD : ∀ h, D.atKey (.int .i64 h) (iD (0, 0)) = iD (sl h)) (hm : w0.ownsMap Try.prog 3 iR M n' D) {h : Int}
    (ho : w'.ownsMap Try.prog 3 iR M n (D.del (.int .i64 h))) : MapIs w' M n (sput sl h (0, 0)) := by
  refine ⟨_, ho, fun i => ?_⟩
  by_cases e : i = h
  · subst e
    rw [sput, if_pos rfl]
    exact Maps.atKey_del_same _
  · rw [sput, if_neg e]
    exact (Maps.atKey_del_other (key_ne e) _).trans (hD i)

theorem MapIs.more {w : World} {M n : Nat} {sl : Sl} (h : MapIs w M n sl) : MapIs w M (n + 1) sl := by
  obtain ⟨D, ⟨es, cc, hb, r1, r2, r3⟩, hD⟩ := h
  exact ⟨D, ⟨es, cc, hb, r1, by omega, r3⟩, hD⟩

/-- A store in memory: block P. -/
structure Tb (w : World) (P : Nat) (most : Int) (a n nn : Nat) (sl : Sl) : Prop where
  ex : ∃ M, w.heap[P]? = some (mb most a n M) ∧ (M = none → a = 0 ∧ n = 0 ∧ ∀ i, sl i = (0, 0)) ∧ ∀ m, M = some m → MapIs w m nn sl
  rng : ∀ i, sl i ≠ (0, 0) → 0 ≤ i ∧ i < (a : Int) + 2 * (n : Int)
  bd : a ≤ 100000 ∧ n ≤ 100000

/-- Its blocks. -/
def FP (w : World) (P : Nat) : Nat → Prop := fun k => k = P ∨ ∃ most a n, w.heap[P]? = some (mb most a n (some k))
theorem Tb.lt {w : World} {P : Nat} {most : Int} {a n nn : Nat} {sl : Sl} (h : Tb w P most a n nn sl) : P < w.heap.size := by
  obtain ⟨M, h1, _⟩ := h.ex
  exact hp_lt h1
theorem Tb.kept {S : Nat → Prop} {w w' : World} {P : Nat} {most : Int} {a n nn : Nat} {sl : Sl} (h : Tb w P most a n nn sl) (hk : Kept S w w') (hS : ∀ k, FP w P k → ¬ S k) : Tb w' P most a n nn sl := by
  obtain ⟨M, h1, h2, h3⟩ := h.ex
  refine ⟨⟨M, hk.heap h1 (hS P (Or.inl rfl)), h2, fun m e => (h3 m e).kept hk (hS m (Or.inr ⟨most, a, n, by rw [← e]; exact h1⟩))⟩, h.rng, h.bd⟩
theorem Tb.no {w w' : World} {P : Nat} {most : Int} {a n nn : Nat} {sl : Sl} (h : Tb w P most a n nn sl) (hk : Kept No w w') : Tb w' P most a n nn sl := h.kept hk (fun _ _ e => e)
end Go.Proofs.Ythefmfjlinpepaa
