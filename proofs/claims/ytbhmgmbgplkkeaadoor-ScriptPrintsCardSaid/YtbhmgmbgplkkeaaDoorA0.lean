/- Blocks of memory: what a step leaves as it was. -/
import Derived.Test.YtbhmgmbgplkkeaaDoorRows
import Derived.WalkKit
import Derived.WalkSpells
import Derived.WalkLawsBesides
import Derived.Laws.BitsAllLaws
import Derived.Maps.OwnSet
import Derived.Maps.OwnIn
import Derived.Deep.QuietTactic
import Derived.BigQuiet
namespace Go.Proofs.YtbhmgmbgplkkeaaDoor
open Go.RowKit
set_option linter.unusedSimpArgs false
set_option linter.unusedVariables false

/-- Outside of S nothing has turned. -/
structure Kept (S : Nat → Prop) (w w' : World) : Prop where
  os : w'.os = w.os
  tape : w'.tape = w.tape
  output : w'.output = w.output
  size : w.heap.size ≤ w'.heap.size
  block : ∀ k, k < w.heap.size → ¬ S k → w'.heap[k]? = w.heap[k]?

/-- Nothing. -/
def No : Nat → Prop := fun _ => False

theorem Kept.refl (S : Nat → Prop) (w : World) : Kept S w w := ⟨rfl, rfl, rfl, Nat.le_refl _, fun _ _ _ => rfl⟩
theorem Kept.mono {S T : Nat → Prop} {w w' : World} (h : Kept S w w') (hs : ∀ k, S k → T k) : Kept T w w' :=
  ⟨h.os, h.tape, h.output, h.size, fun k hk hn => h.block k hk (fun e => hn (hs k e))⟩
theorem Kept.no {T : Nat → Prop} {w w' : World} (h : Kept No w w') : Kept T w w' := h.mono (fun _ e => e.elim)
theorem Kept.trans {S : Nat → Prop} {a b c : World} (h : Kept S a b) (k : Kept S b c) : Kept S a c :=
  ⟨k.os.trans h.os, k.tape.trans h.tape, k.output.trans h.output, Nat.le_trans h.size k.size, fun i hi hn => (k.block i (Nat.lt_of_lt_of_le hi h.size) hn).trans (h.block i hi hn)⟩
/-- What was made in between may turn as well. -/
theorem Kept.trans' {S T : Nat → Prop} {a b c : World} (h : Kept S a b) (k : Kept T b c) (ht : ∀ i, T i → S i ∨ a.heap.size ≤ i) : Kept S a c :=
  ⟨k.os.trans h.os, k.tape.trans h.tape, k.output.trans h.output, Nat.le_trans h.size k.size, fun i hi hn =>
    (k.block i (Nat.lt_of_lt_of_le hi h.size) (fun e => (ht i e).elim hn (fun e' => by omega))).trans (h.block i hi hn)⟩
theorem Kept.drew {S : Nat → Prop} {a w : World} (h : Kept S a w) : Kept S a w.drew := ⟨h.os, h.tape, h.output, h.size, h.block⟩
theorem Kept.drewN {S : Nat → Prop} {a w : World} (h : Kept S a w) (n : Nat) : Kept S a (w.drewN n) := ⟨h.os, h.tape, h.output, h.size, h.block⟩
theorem Kept.alloc {S : Nat → Prop} {a w : World} (h : Kept S a w) (o : Obj) : Kept S a (w.alloc o) :=
  h.trans' (T := No) ⟨rfl, rfl, rfl, by simp, fun k hk _ => Below.heap_alloc w o k hk⟩ (fun _ e => e.elim)
theorem Kept.set {S : Nat → Prop} {a w : World} (h : Kept S a w) (b o : Nat) (v : Value) (hb : S b ∨ a.heap.size ≤ b) : Kept S a (w.setCell ⟨b, o, none⟩ v) :=
  h.trans' (T := fun k => k = b) ⟨rfl, rfl, rfl, by simp [World.setCell], fun k _ hn => Below.heap_setCell w _ v k hn⟩ (fun i e => by subst e; exact hb)
theorem Kept.grown {S : Nat → Prop} {a w w' : World} {row : Option Nat} (h : Kept S a w) (hg : w.grownBy w' row) (hr : ∀ k, row = some k → S k ∨ a.heap.size ≤ k) : Kept S a w' :=
  h.trans' (T := fun k => row = some k) ⟨hg.os, hg.tape, hg.output, hg.size, fun k hk hn => hg.block k hk (fun e => hn e.symm)⟩ hr
theorem Kept.of_below {w w' : World} (h : Below w.heap.size w w') : Kept No w w' := ⟨h.os, h.tape, h.output, h.size, fun k hk _ => h.block k hk⟩
theorem Kept.below {S : Nat → Prop} {B : Nat} {w w' : World} (h : Kept S w w') (hB : B ≤ w.heap.size) (hs : ∀ k, S k → B ≤ k) : Below B w w' :=
  ⟨h.os, h.tape, h.output, h.size, fun k hk => h.block k (by omega) (fun e => by have := hs k e; omega)⟩
theorem Kept.heap {S : Nat → Prop} {w w' : World} (h : Kept S w w') {k : Nat} {o : Obj} (hk : w.heap[k]? = some o) (hn : ¬ S k) : w'.heap[k]? = some o :=
  (h.block k (Array.getElem?_eq_some_iff.1 hk).1 hn).trans hk

theorem hp_lt {w : World} {k : Nat} {o : Obj} (h : w.heap[k]? = some o) : k < w.heap.size := (Array.getElem?_eq_some_iff.1 h).1

/-- An object with one cell turned. -/
def stO (o : Nat) (v : Value) : Obj → Obj
  | .cells c e f => .cells (c.setIfInBounds o v) e f
  | x => x
theorem hp_set (w : World) (b o : Nat) (v : Value) (k : Nat) : (w.setCell ⟨b, o, none⟩ v).heap[k]? = if k = b then (w.heap[k]?).map (stO o v) else w.heap[k]? := by
  by_cases h : k = b
  · subst h
    rw [if_pos rfl]
    show (w.heap.modify k _)[k]? = _
    rw [Array.getElem?_modify, if_pos rfl]
    congr 1
  · rw [if_neg h]; exact Below.heap_setCell w _ v k h
theorem hp_drew (w : World) : w.drew.heap = w.heap := rfl
theorem hp_drewN (w : World) (n : Nat) : (w.drewN n).heap = w.heap := rfl
theorem hp_set_same {w : World} {b : Nat} {c : Array Value} {e : TypeId} {f : Nat × Nat} (h : w.heap[b]? = some (.cells c e f)) (o : Nat) (v : Value) : (w.setCell ⟨b, o, none⟩ v).heap[b]? = some (.cells (c.setIfInBounds o v) e f) := by
  rw [hp_set, if_pos rfl, h]; rfl
theorem hp_set_other {w : World} {b k : Nat} {x : Obj} (h : w.heap[k]? = some x) (o : Nat) (v : Value) (hn : k ≠ b) : (w.setCell ⟨b, o, none⟩ v).heap[k]? = some x := by
  rw [hp_set, if_neg hn, h]

theorem cell_of {w : World} {b : Nat} {c : Array Value} {e : TypeId} {f : Nat × Nat} (h : w.heap[b]? = some (.cells c e f)) (o : Nat) : w.cell? ⟨b, o, none⟩ = c[o]? := by
  simp [World.cell?, h]
theorem frozen_of {w : World} {b : Nat} {c : Array Value} {e : TypeId} (h : w.heap[b]? = some (.cells c e (0, 0))) (o : Nat) : w.frozen? ⟨b, o, none⟩ = false := by
  simp [World.frozen?, h]



theorem below_drewN {B : Nat} {a w : World} (h : Below B a w) (n : Nat) : Below B a (w.drewN n) := ⟨h.os, h.tape, h.output, h.size, h.block⟩
theorem Below.of_kept {S : Nat → Prop} {B : Nat} {a w w' : World} (h : Below B a w) (hk : Kept S w w') (hB : B ≤ a.heap.size) (hs : ∀ k, S k → B ≤ k) : Below B a w' :=
  ⟨hk.os.trans h.os, hk.tape.trans h.tape, hk.output.trans h.output, Nat.le_trans h.size hk.size, fun k hkB => (hk.block k (Nat.lt_of_lt_of_le (Nat.lt_of_lt_of_le hkB hB) h.size) (fun e => by have := hs k e; omega)).trans (h.block k hkB)⟩

/-- Blocks from B on with cells of these types. -/
def Typed (ts : List Nat) (B : Nat) (w : World) (k : Nat) : Prop := B ≤ k ∧ ∃ c e f, w.heap[k]? = some (.cells c e f) ∧ e ∈ ts
/-- Only such blocks have turned. -/
def Tn (ts : List Nat) (B : Nat) (w w' : World) : Prop := Kept (Typed ts B w) w w'
theorem Tn.refl (ts : List Nat) (B : Nat) (w : World) : Tn ts B w w := Kept.refl _ _
theorem Tn.no {ts : List Nat} {B : Nat} {w w' : World} (h : Kept No w w') : Tn ts B w w' := h.no
theorem Tn.mono {ts us : List Nat} {B : Nat} {w w' : World} (h : Tn ts B w w') (hs : ∀ e ∈ ts, e ∈ us) : Tn us B w w' :=
  Kept.mono h (fun k ⟨hB, c, e, f, h1, h2⟩ => ⟨hB, c, e, f, h1, hs e h2⟩)
theorem Tn.trans {ts : List Nat} {B : Nat} {a b c : World} (h : Tn ts B a b) (k : Tn ts B b c) : Tn ts B a c := by
  refine Kept.trans' h k ?_
  rintro i ⟨hB, cs, e, f, h1, h2⟩
  by_cases hi : i < a.heap.size
  · refine .inl ?_
    by_cases hS : Typed ts B a i
    · exact hS
    · exact ⟨hB, cs, e, f, by rw [← Kept.block h i hi hS]; exact h1, h2⟩
  · exact .inr (by omega)
theorem Tn.cells {ts : List Nat} {B : Nat} {w w' : World} (h : Tn ts B w w') {k : Nat} {c : Array Value} {e : TypeId} {f : Nat × Nat} (hk : w.heap[k]? = some (.cells c e f)) (he : e ∉ ts) : w'.heap[k]? = some (.cells c e f) := by
  refine Kept.heap h hk ?_
  rintro ⟨_, c', e', f', h1, h2⟩
  rw [hk] at h1; cases h1
  exact he h2
theorem Tn.below {ts : List Nat} {B : Nat} {a w w' : World} (h : Tn ts B w w') (hb : Below B a w) (hB : B ≤ a.heap.size) : Below B a w' := Below.of_kept hb h hB (fun k hk => hk.1)
end Go.Proofs.YtbhmgmbgplkkeaaDoor
