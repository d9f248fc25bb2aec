/- Scope: the walk, as data; slices of trees; the resolver with its bounds. -/
import Derived.Test.YtgkgpjbbmnfnmaaGreatDoorS6
import Derived.Test.YtgkgpjbbmnfnmaaGreatDoorS7
namespace Go.Proofs.YtgkgpjbbmnfnmaaGreatDoor
open Go.RowKit
set_option linter.unusedSimpArgs false
set_option linter.unusedVariables false

def allS (fs : List (St → St)) (s : St) : St := fs.foldl (fun s f => f s) s
def lrnS (ns : List Tr) (s : St) : St := ns.foldl learn1 s
def blkS (ns : List Tr) (fs : List (St → St)) (s : St) : St := { allS fs (lrnS ns s) with stk := (allS fs (lrnS ns s)).stk.take s.stk.length }
def inS (s : St) : St := { s with cnt := s.cnt + 1, num := s.cnt + 1, base := s.stk.length, made := 0 }
def funS (ns : List Tr) (fs : List (St → St)) (s : St) : St := { blkS ns fs (inS s) with num := s.num, base := s.base, made := s.made }
/-- What the walk does at a node whose parts' walks are given. -/
def nodeS (k : Int) (t : ByteArray) (n : Nat) (l : List Tr) (a : Int) (fs : List (St → St)) (s : St) : St :=
  if k = 6 then useS s a t (lookK s.stk t s.stk.length).1 (lookK s.stk t s.stk.length).2
  else if k = 7 then funS (l.take (l.length - 1)) (fs.drop (l.length - 1)) s
  else if k = 20 then blkS [] fs s
  else if k = 21 then lrnS (l.take n) (allS (fs.drop n) s)
  else if k = 26 then blkS (l.take 1) (fs.drop (l.length - 1)) (allS ((fs.take (l.length - 1)).drop 1) s)
  else if k = 29 then allS (fs.drop 1) (lrnS (l.take 1) s)
  else allS fs s
mutual
def wk : Tr → St → St
  | .mk k t _ _ n l a => nodeS k t n.toNat l a (wkR l)
def wkR : List Tr → List (St → St)
  | [] => []
  | x :: r => wk x :: wkR r
end
theorem wkR_map (l : List Tr) : wkR l = l.map wk := by
  induction l with
  | nil => rfl
  | cons x r ih => rw [wkR, ih]; rfl
mutual
/-- How many nodes a tree has. -/
def nn : Tr → Nat
  | .mk _ _ _ _ _ l _ => 1 + nnL l
def nnL : List Tr → Nat
  | [] => 0
  | x :: r => nn x + nnL r
end
theorem nn_pos (x : Tr) : 1 ≤ nn x := by cases x; rw [nn]; omega
theorem nnL_app (l m : List Tr) : nnL (l ++ m) = nnL l + nnL m := by
  induction l with
  | nil => simp [nnL]
  | cons x r ih => rw [List.cons_append, nnL, nnL, ih]; omega
theorem nnL_len (l : List Tr) : l.length ≤ nnL l := by
  induction l with
  | nil => simp [nnL]
  | cons x r ih => have := nn_pos x; rw [nnL, List.length_cons]; omega
theorem nnL_split (l : List Tr) (k : Nat) : nnL (l.take k) + nnL (l.drop k) = nnL l := by rw [← nnL_app, List.take_append_drop]
/-- Trees of a slice, none of whose blocks is in S. -/
def LsA (S : Nat → Prop) (w : World) (ao : Option Addr) (l : List Tr) : Prop :=
  ∀ j (hj : j < l.length), ∃ b o, ao = some ⟨b, o, none⟩ ∧ ¬ S b ∧ ∃ cs, NodeIs S w l[j] cs ∧ ∀ i, i < 7 → w.cell? ⟨b, o + j * 7 + i, none⟩ = cs[i]?
theorem LsA.nil (S : Nat → Prop) (w : World) (ao : Option Addr) : LsA S w ao [] := fun j hj => by simp at hj
theorem LsA.kept {S : Nat → Prop} {w w' : World} {ao : Option Addr} {l : List Tr} (h : LsA S w ao l) (hk : Kept S w w') : LsA S w' ao l := fun j hj => by
  obtain ⟨b, o, e, hb, cs, h1, h2⟩ := h j hj
  refine ⟨b, o, e, hb, cs, h1.kept hk _ _, fun i hi => ?_⟩
  have := h2 i hi
  rw [List.getElem?_eq_getElem (by rw [h1.len]; exact hi)] at this ⊢
  exact kept_cell hk hb this
theorem LsA.take {S : Nat → Prop} {w : World} {ao : Option Addr} {l : List Tr} (h : LsA S w ao l) (k : Nat) : LsA S w ao (l.take k) := fun j hj => by
  rw [List.length_take] at hj
  obtain ⟨b, o, e, hb, cs, h1, h2⟩ := h j (by omega)
  exact ⟨b, o, e, hb, cs, by rw [List.getElem_take]; exact h1, h2⟩
theorem LsA.drop {S : Nat → Prop} {w : World} {b o : Nat} {l : List Tr} (h : LsA S w (some ⟨b, o, none⟩) l) (k : Nat) : LsA S w (some ⟨b, o + k * 7, none⟩) (l.drop k) := fun j hj => by
  rw [List.length_drop] at hj
  obtain ⟨b', o', e, hb, cs, h1, h2⟩ := h (k + j) (by omega)
  simp only [Option.some.injEq, Addr.mk.injEq, and_true] at e
  obtain ⟨rfl, rfl⟩ := e
  refine ⟨b, _, rfl, hb, cs, by rw [List.getElem_drop]; exact h1, fun i hi => ?_⟩
  rw [← h2 i hi]
  congr 2
  omega
theorem rowAt_at {S : Nat → Prop} {w : World} {b o : Nat} : ∀ {l : List Tr} {j : Nat}, RowAt S w b o l j → ∀ i (hi : i < l.length), ∃ cs, NodeIs S w l[i] cs ∧ ∀ t, t < 7 → w.cell? ⟨b, o + (j + i) * 7 + t, none⟩ = cs[t]?
  | [], j, h, i, hi => by simp at hi
  | x :: r, j, h, i, hi => by
    unfold RowAt at h
    cases i with
    | zero =>
      obtain ⟨cs, h1, h2⟩ := h.1
      exact ⟨cs, h1, fun t ht => h2 t ht⟩
    | succ i =>
      obtain ⟨cs, h1, h2⟩ := rowAt_at h.2 i (by simpa using hi)
      refine ⟨cs, h1, fun t ht => ?_⟩
      rw [← h2 t ht, show j + (i + 1) = j + 1 + i by omega]
theorem ListIs.ls {S : Nat → Prop} {w : World} {l : List Tr} {sv : Value} (h : ListIs S w l sv) : ∃ ao cap, sv = .slice ao l.length cap ∧ l.length ≤ cap ∧ LsA S w ao l ∧ (l ≠ [] → ∃ b o, ao = some ⟨b, o, none⟩) := by
  rcases h with ⟨rfl, rfl⟩ | ⟨b, o, cap, rfl, h2, h3, h4⟩
  · exact ⟨none, 0, rfl, Nat.le_refl _, .nil _ _ _, fun h => absurd rfl h⟩
  · refine ⟨_, cap, rfl, h3.2, fun j hj => ?_, fun _ => ⟨b, o, rfl⟩⟩
    obtain ⟨cs, c1, c2⟩ := rowAt_at h4 j hj
    exact ⟨b, o, rfl, h2, cs, c1, fun i hi => by rw [← c2 i hi, Nat.zero_add]⟩
/-- A resolver in memory whose blocks all lie from R0 on, with numbers of at most N. -/
structure Rz (R0 N B : Nat) (w : World) (r sb M nm : Nat) (v u : Value) (s : St) : Prop where
  rv : Rv w r sb M nm B v u s
  nm : nm ≤ N
  hz : ∀ b, RZ r sb M v u b → R0 ≤ b
  sml : Sml N s
  le : R0 ≤ w.heap.size
def WR (R0 N B : Nat) (w : World) (r sb M : Nat) (v u : Value) (s : St) (e : Ending) (w' : World) : Prop :=
  e = .returned (.tuple #[]) ∧ ∃ v' u' nm, Rz R0 N B w' r sb M nm v' u' s ∧ PassR r sb M v u w v' u' w'
theorem Sml.mono {N N' : Nat} {s : St} (h : Sml N s) (hN : N ≤ N') : Sml N' s :=
  ⟨Nat.le_trans h.stk hN, Nat.le_trans h.us hN, fun o n => ⟨(h.far o n).1, by have := (h.far o n).2; omega⟩, ⟨h.num.1, by have := h.num.2; omega⟩, ⟨h.base.1, by have := h.base.2; omega⟩, ⟨h.made.1, by have := h.made.2; omega⟩, ⟨h.cnt.1, by have := h.cnt.2; omega⟩, fun e he => by have := h.ent e he; omega, fun x hx => by have := h.use x hx; omega⟩
theorem Rz.mono {R0 N N' B : Nat} {w : World} {r sb M nm : Nat} {v u : Value} {s : St} (h : Rz R0 N B w r sb M nm v u s) (hN : N ≤ N') : Rz R0 N' B w r sb M nm v u s := ⟨h.rv, Nat.le_trans h.nm hN, h.hz, h.sml.mono hN, h.le⟩
theorem Rz.no {R0 N B : Nat} {w w' : World} {r sb M nm : Nat} {v u : Value} {s : St} (h : Rz R0 N B w r sb M nm v u s) (hk : Kept No w w') : Rz R0 N B w' r sb M nm v u s := ⟨h.rv.no hk, h.nm, h.hz, h.sml, Nat.le_trans h.le hk.size⟩
/-- A pass keeps what lies ahead of the resolver. -/
theorem PassR.low {R0 : Nat} {r sb M : Nat} {v u v' u' : Value} {w w' : World} (h : PassR r sb M v u w v' u' w') (hz : ∀ b, RZ r sb M v u b → R0 ≤ b) (hl : R0 ≤ w.heap.size) : Kept (fun b => R0 ≤ b) w w' ∧ (∀ b, RZ r sb M v' u' b → R0 ≤ b) ∧ R0 ≤ w'.heap.size :=
  ⟨h.kept.mono hz, fun b hb => (h.sub b hb).elim (hz b) (fun e => Nat.le_trans hl e), Nat.le_trans hl h.kept.size⟩
/-- A block of another type is none of the resolver's. -/
theorem Rv.other {w : World} {r sb M nm B : Nat} {v u : Value} {s : St} (h : Rv w r sb M nm B v u s) {b : Nat} {c : Array Value} {t : TypeId} {f : Nat × Nat} (hb : w.heap[b]? = some (.cells c t f)) (h1 : t ≠ 69) (h2 : t ≠ 122) (h3 : t ≠ 124) (h4 : t ≠ 36) : ¬ RZ r sb M v u b := by
  rintro (rfl | rfl | rfl | e | e)
  · exact apart hb h.box h1 rfl
  · exact apart hb h.stk.box h2 rfl
  · obtain ⟨es, c2, hm⟩ := h.map.blk
    exact apart_map hb hm rfl
  · obtain ⟨c2, hm⟩ := row_blk h.stk.row e
    exact apart hb hm h3 rfl
  · obtain ⟨c2, hm⟩ := row_blk h.row e
    exact apart hb hm h4 rfl
end Go.Proofs.YtgkgpjbbmnfnmaaGreatDoor
