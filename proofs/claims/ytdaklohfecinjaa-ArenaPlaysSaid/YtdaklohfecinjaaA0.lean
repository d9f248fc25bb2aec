/- Blocks of memory: what a node, an arena and its cells are; what a step leaves as it was. -/
import Derived.Test.YtdaklohfecinjaaRows
import Derived.WalkKit
import Derived.WalkSpells
import Derived.WalkLawsBesides
import Derived.RangeFuncNested
namespace Go.Proofs.Ytdaklohfecinjaa
open Go.RowKit

/-- A pointer to a whole block, or none. -/
def pt (p : Option Nat) : Option Addr := p.map fun b => ⟨b, 0, none⟩
theorem pt_some (b : Nat) : pt (some b) = some ⟨b, 0, none⟩ := rfl
theorem pt_none : pt none = none := rfl

/-- A block's record: address, length, the one ahead, the one behind. -/
def nd (a s : Nat) (ah bh : Option Nat) : Obj := .cells #[.int .i64 a, .int .i64 s, .pointer (pt ah), .pointer (pt bh)] 61 (0, 0)
/-- An arena's record. -/
def ar (C M F f : Nat) (size least : Nat) : Obj := .cells #[.slice (some ⟨C, 0, none⟩) size size, .map (some M), .pointer (some ⟨F, 0, none⟩), .pointer (some ⟨f, 0, none⟩), .int .i64 least] 64 (0, 0)
/-- An arena's cells. -/
def cl (xs : List Int) : Obj := .cells (xs.map (Value.int .i64)).toArray 2 (0, 0)

/-- Outside of S nothing has turned. -/
structure Kept (S : Nat → Prop) (w w' : World) : Prop where
  os : w'.os = w.os
  tape : w'.tape = w.tape
  output : w'.output = w.output
  size : w.heap.size ≤ w'.heap.size
  block : ∀ k, k < w.heap.size → ¬ S k → w'.heap[k]? = w.heap[k]?

/-- Nothing. -/
def No : Nat → Prop := fun _ => False

theorem Kept.refl (S : Nat → Prop) (w : World) : Kept S w w := ⟨rfl, rfl, rfl, Nat.le_refl _, fun _ _ _ => rfl⟩
theorem Kept.mono {S T : Nat → Prop} {w w' : World} (h : Kept S w w') (hs : ∀ k, S k → T k) : Kept T w w' :=
  ⟨h.os, h.tape, h.output, h.size, fun k hk hn => h.block k hk (fun e => hn (hs k e))⟩
theorem Kept.no {T : Nat → Prop} {w w' : World} (h : Kept No w w') : Kept T w w' := h.mono (fun _ e => e.elim)
theorem Kept.trans {S : Nat → Prop} {a b c : World} (h : Kept S a b) (k : Kept S b c) : Kept S a c :=
  ⟨k.os.trans h.os, k.tape.trans h.tape, k.output.trans h.output, Nat.le_trans h.size k.size, fun i hi hn => (k.block i (Nat.lt_of_lt_of_le hi h.size) hn).trans (h.block i hi hn)⟩
/-- What was made in between may turn as well. -/
theorem Kept.trans' {S T : Nat → Prop} {a b c : World} (h : Kept S a b) (k : Kept T b c) (ht : ∀ i, T i → S i ∨ a.heap.size ≤ i) : Kept S a c :=
  ⟨k.os.trans h.os, k.tape.trans h.tape, k.output.trans h.output, Nat.le_trans h.size k.size, fun i hi hn =>
    (k.block i (Nat.lt_of_lt_of_le hi h.size) (fun e => (ht i e).elim hn (fun e' => by omega))).trans (h.block i hi hn)⟩
theorem Kept.drew {S : Nat → Prop} {a w : World} (h : Kept S a w) : Kept S a w.drew := ⟨h.os, h.tape, h.output, h.size, h.block⟩
theorem Kept.drewN {S : Nat → Prop} {a w : World} (h : Kept S a w) (n : Nat) : Kept S a (w.drewN n) := ⟨h.os, h.tape, h.output, h.size, h.block⟩
theorem Kept.alloc {S : Nat → Prop} {a w : World} (h : Kept S a w) (o : Obj) : Kept S a (w.alloc o) :=
  h.trans' (T := No) ⟨rfl, rfl, rfl, by simp, fun k hk _ => Below.heap_alloc w o k hk⟩ (fun _ e => e.elim)
theorem Kept.set {S : Nat → Prop} {a w : World} (h : Kept S a w) (b o : Nat) (v : Value) (hb : S b ∨ a.heap.size ≤ b) : Kept S a (w.setCell ⟨b, o, none⟩ v) :=
  h.trans' (T := fun k => k = b) ⟨rfl, rfl, rfl, by simp [World.setCell], fun k _ hn => Below.heap_setCell w _ v k hn⟩ (fun i e => by subst e; exact hb)
theorem Kept.grown {S : Nat → Prop} {a w w' : World} {row : Option Nat} (h : Kept S a w) (hg : w.grownBy w' row) (hr : ∀ k, row = some k → S k ∨ a.heap.size ≤ k) : Kept S a w' :=
  h.trans' (T := fun k => row = some k) ⟨hg.os, hg.tape, hg.output, hg.size, fun k hk hn => hg.block k hk (fun e => hn e.symm)⟩ hr
theorem Kept.of_below {w w' : World} (h : Below w.heap.size w w') : Kept No w w' := ⟨h.os, h.tape, h.output, h.size, fun k hk _ => h.block k hk⟩
theorem Kept.below {S : Nat → Prop} {B : Nat} {w w' : World} (h : Kept S w w') (hB : B ≤ w.heap.size) (hs : ∀ k, S k → B ≤ k) : Below B w w' :=
  ⟨h.os, h.tape, h.output, h.size, fun k hk => h.block k (by omega) (fun e => by have := hs k e; omega)⟩
theorem Kept.heap {S : Nat → Prop} {w w' : World} (h : Kept S w w') {k : Nat} {o : Obj} (hk : w.heap[k]? = some o) (hn : ¬ S k) : w'.heap[k]? = some o :=
  (h.block k (Array.getElem?_eq_some_iff.1 hk).1 hn).trans hk

theorem hp_lt {w : World} {k : Nat} {o : Obj} (h : w.heap[k]? = some o) : k < w.heap.size := (Array.getElem?_eq_some_iff.1 h).1

/-- An object with one cell turned. -/
def stO (o : Nat) (v : Value) : Obj → Obj
  | .cells c e f => .cells (c.setIfInBounds o v) e f
  | x => x
theorem hp_set (w : World) (b o : Nat) (v : Value) (k : Nat) : (w.setCell ⟨b, o, none⟩ v).heap[k]? = if k = b then (w.heap[k]?).map (stO o v) else w.heap[k]? := by
  by_cases h : k = b
  · subst h
    rw [if_pos rfl]
    show (w.heap.modify k _)[k]? = _
    rw [Array.getElem?_modify, if_pos rfl]
    congr 1
  · rw [if_neg h]; exact Below.heap_setCell w _ v k h
theorem hp_drew (w : World) : w.drew.heap = w.heap := rfl
theorem hp_drewN (w : World) (n : Nat) : (w.drewN n).heap = w.heap := rfl
theorem hp_set_same {w : World} {b : Nat} {c : Array Value} {e : TypeId} {f : Nat × Nat} (h : w.heap[b]? = some (.cells c e f)) (o : Nat) (v : Value) : (w.setCell ⟨b, o, none⟩ v).heap[b]? = some (.cells (c.setIfInBounds o v) e f) := by
  rw [hp_set, if_pos rfl, h]; rfl
theorem hp_set_other {w : World} {b k : Nat} {x : Obj} (h : w.heap[k]? = some x) (o : Nat) (v : Value) (hn : k ≠ b) : (w.setCell ⟨b, o, none⟩ v).heap[k]? = some x := by
  rw [hp_set, if_neg hn, h]

theorem cell_of {w : World} {b : Nat} {c : Array Value} {e : TypeId} {f : Nat × Nat} (h : w.heap[b]? = some (.cells c e f)) (o : Nat) : w.cell? ⟨b, o, none⟩ = c[o]? := by
  simp [World.cell?, h]
theorem frozen_of {w : World} {b : Nat} {c : Array Value} {e : TypeId} (h : w.heap[b]? = some (.cells c e (0, 0))) (o : Nat) : w.frozen? ⟨b, o, none⟩ = false := by
  simp [World.frozen?, h]

theorem nd_cells {w : World} {p a s : Nat} {ah bh : Option Nat} (h : w.heap[p]? = some (nd a s ah bh)) :
    w.cell? ⟨p, 0, none⟩ = some (.int .i64 a) ∧ w.cell? ⟨p, 1, none⟩ = some (.int .i64 s) ∧ w.cell? ⟨p, 2, none⟩ = some (.pointer (pt ah)) ∧ w.cell? ⟨p, 3, none⟩ = some (.pointer (pt bh)) :=
  ⟨by rw [cell_of h]; rfl, by rw [cell_of h]; rfl, by rw [cell_of h]; rfl, by rw [cell_of h]; rfl⟩
theorem nd_frozen {w : World} {p a s : Nat} {ah bh : Option Nat} (h : w.heap[p]? = some (nd a s ah bh)) :
    w.frozen? ⟨p, 0, none⟩ = false ∧ w.frozen? ⟨p, 1, none⟩ = false ∧ w.frozen? ⟨p, 2, none⟩ = false ∧ w.frozen? ⟨p, 3, none⟩ = false :=
  ⟨frozen_of h 0, frozen_of h 1, frozen_of h 2, frozen_of h 3⟩
theorem ar_cells {w : World} {A C M F f size least : Nat} (h : w.heap[A]? = some (ar C M F f size least)) :
    w.cell? ⟨A, 0, none⟩ = some (.slice (some ⟨C, 0, none⟩) size size) ∧ w.cell? ⟨A, 1, none⟩ = some (.map (some M)) ∧ w.cell? ⟨A, 2, none⟩ = some (.pointer (some ⟨F, 0, none⟩)) ∧
    w.cell? ⟨A, 3, none⟩ = some (.pointer (some ⟨f, 0, none⟩)) ∧ w.cell? ⟨A, 4, none⟩ = some (.int .i64 least) :=
  ⟨by rw [cell_of h]; rfl, by rw [cell_of h]; rfl, by rw [cell_of h]; rfl, by rw [cell_of h]; rfl, by rw [cell_of h]; rfl⟩
theorem ar_frozen {w : World} {A C M F f size least : Nat} (h : w.heap[A]? = some (ar C M F f size least)) :
    w.frozen? ⟨A, 3, none⟩ = false ∧ w.frozen? ⟨A, 4, none⟩ = false := ⟨frozen_of h 3, frozen_of h 4⟩

theorem nd_set {w : World} {p a s : Nat} {ah bh : Option Nat} (h : w.heap[p]? = some (nd a s ah bh)) (x : Nat) :
    (w.setCell ⟨p, 0, none⟩ (.int .i64 x)).heap[p]? = some (nd x s ah bh) ∧ (w.setCell ⟨p, 1, none⟩ (.int .i64 x)).heap[p]? = some (nd a x ah bh) :=
  ⟨by rw [hp_set_same h]; rfl, by rw [hp_set_same h]; rfl⟩
theorem nd_setp {w : World} {p a s : Nat} {ah bh : Option Nat} (h : w.heap[p]? = some (nd a s ah bh)) (x : Option Nat) :
    (w.setCell ⟨p, 2, none⟩ (.pointer (pt x))).heap[p]? = some (nd a s x bh) ∧ (w.setCell ⟨p, 3, none⟩ (.pointer (pt x))).heap[p]? = some (nd a s ah x) :=
  ⟨by rw [hp_set_same h]; rfl, by rw [hp_set_same h]; rfl⟩
end Go.Proofs.Ytdaklohfecinjaa
