/- The order of addresses as a list; inOrder goes over it. -/
import Derived.Test.YtdaklohfecinjaaA8
namespace Go.Proofs.Ytdaklohfecinjaa
open Go.RowKit Go.Shelf
set_option linter.unusedSimpArgs false
set_option linter.unusedVariables false
attribute [local go_sem] Oper.semAt_some

/-- A block of the order: its record, its address, its length. -/
structure Nd where
  p : Nat
  a : Nat
  s : Nat

/-- The first of a list, or what follows it. -/
def hd : List Nd → Option Nat → Option Nat
  | [], n => n
  | x :: _, _ => some x.p
/-- The last of a list, or what stands ahead of it. -/
def lastp : List Nd → Option Nat → Option Nat
  | [], p => p
  | x :: r, _ => lastp r (some x.p)

/-- A part of the order of addresses lies in memory. -/
def Seg (w : World) : Option Nat → List Nd → Option Nat → Prop
  | _, [], _ => True
  | pr, x :: r, nx => w.heap[x.p]? = some (nd x.a x.s pr (hd r nx)) ∧ Seg w (some x.p) r nx

theorem hd_append (l m : List Nd) (n : Option Nat) : hd (l ++ m) n = hd l (hd m n) := by cases l <;> rfl
theorem lastp_append (l m : List Nd) (p : Option Nat) : lastp (l ++ m) p = lastp m (lastp l p) := by
  induction l generalizing p with
  | nil => rfl
  | cons x r ih => exact ih _
theorem Seg_append {w : World} {l m : List Nd} {pr nx : Option Nat} : Seg w pr (l ++ m) nx ↔ Seg w pr l (hd m nx) ∧ Seg w (lastp l pr) m nx := by
  induction l generalizing pr with
  | nil => simp [Seg, lastp]
  | cons x r ih => simp only [List.cons_append, Seg, lastp, ih, hd_append, and_assoc]
theorem Seg.kept {S : Nat → Prop} {w w' : World} {l : List Nd} {pr nx : Option Nat} (h : Seg w pr l nx) (hk : Kept S w w') (hn : ∀ x ∈ l, ¬ S x.p) : Seg w' pr l nx := by
  induction l generalizing pr with
  | nil => exact trivial
  | cons x r ih => exact ⟨hk.heap h.1 (hn x (by simp)), ih h.2 (fun y hy => hn y (by simp [hy]))⟩
theorem Seg.loose {B : Nat} {w w' : World} {l : List Nd} {pr nx : Option Nat} (h : Seg w pr l nx) (hk : Loose B w w') : Seg w' pr l nx := by
  induction l generalizing pr with
  | nil => exact trivial
  | cons x r ih => exact ⟨hk.cells h.1, ih h.2⟩
/-- The k-th record. -/
theorem Seg.at {w : World} {l : List Nd} {pr nx : Option Nat} (h : Seg w pr l nx) {k : Nat} (hk : k < l.length) : ∃ ah, w.heap[l[k].p]? = some (nd l[k].a l[k].s ah (hd (l.drop (k + 1)) nx)) := by
  induction l generalizing pr k with
  | nil => simp at hk
  | cons x r ih =>
    cases k with
    | zero => exact ⟨pr, by simpa using h.1⟩
    | succ k => simpa using ih h.2 (k := k) (by simpa using hk)

/-- The k-th record, and the one behind it. -/
theorem Seg.drop {w : World} {l : List Nd} {pr nx : Option Nat} (h : Seg w pr l nx) (k : Nat) : ∃ pr', Seg w pr' (l.drop k) nx := by
  rw [← List.take_append_drop k l, Seg_append] at h
  exact ⟨_, h.2⟩

/-- How many cells are free behind the k-th. -/
def gap (l : List Nd) (size k : Nat) : Int :=
  match l.drop k with
  | [] => 0
  | x :: [] => (size : Int) - ((x.a : Int) + (x.s : Int))
  | x :: y :: _ => (y.a : Int) - ((x.a : Int) + (x.s : Int))

set_option maxHeartbeats 400000 in
theorem inOrder_any (A : Option Addr) (b : Option Addr) (w : World) :
    Calls Try.prog 55 #[.pointer A, .pointer b] w fun e w' => e = .returned (.func (.func 72) #[] #[.pointer (some ⟨w.heap.size + 1, 0, none⟩), .pointer (some ⟨w.heap.size, 0, none⟩)]) ∧ w' = (w.alloc (.cells #[.pointer A] 23)).alloc (.cells #[.pointer b] 59) := by
  go_enter Try.func55, Try.ntmps55
  go_wp2
  go_ret
  exact ⟨rfl, rfl⟩

/-- What inOrder's function needs to be gone over. -/
structure Iter (W : World) (A Bb Ba size : Nat) (pr : Option Nat) (l : List Nd) : Prop where
  bb : W.heap[Bb]? = some (.cells #[.pointer (pt (hd l none))] 59 (0, 0))
  ba : W.heap[Ba]? = some (.cells #[.pointer (some ⟨A, 0, none⟩)] 23 (0, 0))
  ar : ∃ C M F f least, W.heap[A]? = some (ar C M F f size least)
  seg : Seg W pr l none
  bd : ∀ x ∈ l, x.a + x.s ≤ 65536
  sz : size ≤ 65536

theorem Iter.loose {B : Nat} {W W' : World} {A Bb Ba size : Nat} {pr : Option Nat} {l : List Nd} (h : Iter W A Bb Ba size pr l) (hl : Loose B W W') : Iter W' A Bb Ba size pr l :=
  ⟨hl.cells h.bb, hl.cells h.ba, by obtain ⟨C, M, F, f, least, hA⟩ := h.ar; exact ⟨C, M, F, f, least, hl.cells hA⟩, h.seg.loose hl, h.bd, h.sz⟩

theorem Seg.lt {w : World} {l : List Nd} {pr nx : Option Nat} (h : Seg w pr l nx) {x : Nd} (hx : x ∈ l) : x.p < w.heap.size := by
  induction l generalizing pr with
  | nil => simp at hx
  | cons y r ih =>
    rcases List.mem_cons.1 hx with rfl | hx
    · exact hp_lt h.1
    · exact ih h.2 hx
theorem Iter.kept {S : Nat → Prop} {W W' : World} {A Bb Ba size : Nat} {pr : Option Nat} {l : List Nd} (h : Iter W A Bb Ba size pr l) (hk : Kept S W W') (h1 : ¬ S Bb) (h2 : ¬ S Ba) (h3 : ¬ S A) (h4 : ∀ x ∈ l, ¬ S x.p) : Iter W' A Bb Ba size pr l :=
  ⟨hk.heap h.bb h1, hk.heap h.ba h2, by obtain ⟨C, M, F, f, least, hA⟩ := h.ar; exact ⟨C, M, F, f, least, hk.heap hA h3⟩, h.seg.kept hk h4, h.bd, h.sz⟩
theorem Kept.putObj {S : Nat → Prop} {a w : World} (h : Kept S a w) {D : Nat} (o : Obj) (hD : a.heap.size ≤ D) : Kept S a (w.putObj D o) :=
  h.grown (grownBy_putObj' w D o) (fun k e => by cases e; exact .inr hD)

/-- One block. -/
def Only (b : Nat) : Nat → Prop := fun k => k = b
theorem Kept.one (W : World) (b o : Nat) (v : Value) : Kept (Only b) W (W.setCell ⟨b, o, none⟩ v) := Kept.set (Kept.refl (Only b) W) b o v (Or.inl rfl)
theorem Still.one {B : Nat} {W W' : World} {b : Nat} {c : Array Value} {e : TypeId} {f : Nat × Nat} (h : Kept (Only b) W W') (hb : W.heap[b]? = some (.cells c e f)) : Still B W W' :=
  Still.of_kept h (fun k hk => Or.inr ⟨c, e, f, by rw [show k = b from hk]; exact hb⟩)

/-- What comes in round k. -/
def Ek (A Bb Ba size : Nat) (ps : List Nat) (k : Nat) (W : World) (args : Array Value) : Prop :=
  ∃ pr l, Iter W A Bb Ba size pr l ∧ l.map Nd.p = ps ∧ ∃ h : k < l.length, args = #[.pointer (some ⟨l[k].p, 0, none⟩), .int .i64 (gap l size k)]

/-- How many rounds are left, by the block that comes next. -/
def left (ps : List Nat) : Value → Nat
  | .pointer (some q) => ps.length - ps.idxOf q.block
  | _ => 0
end Go.Proofs.Ytdaklohfecinjaa
