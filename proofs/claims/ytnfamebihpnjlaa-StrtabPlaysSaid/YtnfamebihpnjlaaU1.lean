/- A row of ints while it is sorted by some comparison. -/
import Derived.Test.YtnfamebihpnjlaaU0
import Derived.Test.YtnfamebihpnjlaaQ0
import Derived.Shelf.RegionOpenPlain
namespace Go.Proofs.Ytnfamebihpnjlaa
open Go.RowKit
set_option linter.unusedSimpArgs false
set_option linter.unusedVariables false

/-- The ints l lie in block g, which has cap cells. -/
def Row (w : World) (g cap : Nat) (l : List Int) : Prop :=
  ∃ cur : Array Value, w.heap[g]? = some (.cells cur 3 (0, 0)) ∧ cur.size = cap ∧ l.length ≤ cap ∧ cur.toList.take l.length = ic l
/-- A row's int. -/
abbrev at' (l : List Int) (i : Nat) : Int := l.getD i 0

theorem Row.cell {w : World} {g cap : Nat} {l : List Int} (h : Row w g cap l) {i : Nat} (hi : i < l.length) : w.cell? ⟨g, i, none⟩ = some (.int .i64 (at' l i)) := by
  obtain ⟨cur, h1, h2, h3, h4⟩ := h
  rw [cell_of h1]
  have e : cur[i]? = (cur.toList.take l.length)[i]? := by rw [List.getElem?_take, if_pos hi, Array.getElem?_toList]
  rw [e, h4]
  simp [ic, at', List.getElem?_eq_getElem hi]
theorem Row.frozen {w : World} {g cap : Nat} {l : List Int} (h : Row w g cap l) (i : Nat) : w.frozen? ⟨g, i, none⟩ = false := by
  obtain ⟨cur, h1, h2, h3, h4⟩ := h
  exact frozen_of h1 i
theorem Row.lt {w : World} {g cap : Nat} {l : List Int} (h : Row w g cap l) : g < w.heap.size := by
  obtain ⟨cur, h1, _⟩ := h; exact hp_lt h1
theorem Row.set {w : World} {g cap : Nat} {l : List Int} (h : Row w g cap l) (i : Nat) (x : Int) : Row (w.setCell ⟨g, i, none⟩ (.int .i64 x)) g cap (l.set i x) := by
  obtain ⟨cur, h1, h2, h3, h4⟩ := h
  refine ⟨cur.setIfInBounds i (.int .i64 x), hp_set_same h1 _ _, by simp [h2], by simp [h3], ?_⟩
  rw [Array.toList_setIfInBounds, List.length_set, List.take_set, h4]
  simp [ic, List.map_set]
theorem Row.kept {S : Nat → Prop} {w w' : World} {g cap : Nat} {l : List Int} (h : Row w g cap l) (hk : Kept S w w') (hn : ¬ S g) : Row w' g cap l := by
  obtain ⟨cur, h1, r⟩ := h
  exact ⟨cur, hk.heap h1 hn, r⟩

/-- Two places exchanged. -/
def swp (l : List Int) (i j : Nat) : List Int := (l.set i (at' l j)).set j (at' l i)
theorem swp_length (l : List Int) (i j : Nat) : (swp l i j).length = l.length := by simp [swp]
theorem set_perm : ∀ (l : List Int) (i : Nat) (hi : i < l.length) (x : Int), (x :: l).Perm (l[i] :: l.set i x)
  | [], i, hi, x => absurd hi (by simp)
  | y :: l, 0, hi, x => by simpa using List.Perm.swap y x l
  | y :: l, i + 1, hi, x => by
    have hi' : i < l.length := by simpa using hi
    have ih := set_perm l i hi' x
    have e1 : (x :: y :: l).Perm (y :: x :: l) := List.Perm.swap y x l
    have e2 : (y :: x :: l).Perm (y :: l[i] :: l.set i x) := ih.cons y
    have e3 : (y :: l[i] :: l.set i x).Perm (l[i] :: y :: l.set i x) := List.Perm.swap _ _ _
    simpa using (e1.trans e2).trans e3
theorem swp_perm (l : List Int) (i j : Nat) (hi : i < l.length) (hj : j < l.length) : (swp l i j).Perm l := by
  unfold swp
  have ei : at' l i = l[i] := by simp [at', List.getD_eq_getElem?_getD, List.getElem?_eq_getElem hi]
  have ej : at' l j = l[j] := by simp [at', List.getD_eq_getElem?_getD, List.getElem?_eq_getElem hj]
  rw [ei, ej]
  have p1 := set_perm l i hi l[j]
  have p2 := set_perm (l.set i l[j]) j (by simpa using hj) l[i]
  by_cases e : i = j
  · subst e; simp
  · have e3 : (l.set i l[j])[j]'(by simpa using hj) = l[j] := by rw [List.getElem_set]; simp [e]
    rw [e3] at p2
    have p3 : (l[i] :: l[j] :: l).Perm (l[i] :: l[i] :: l.set i l[j]) := p1.cons _
    have p4 : (l[j] :: l[i] :: l).Perm (l[i] :: l[j] :: l) := List.Perm.swap _ _ _
    have p5 : (l[i] :: l[i] :: l.set i l[j]).Perm (l[i] :: l[j] :: (l.set i l[j]).set j l[i]) := p2.cons _
    have p6 : (l[i] :: l[j] :: (l.set i l[j]).set j l[i]).Perm (l[j] :: l[i] :: (l.set i l[j]).set j l[i]) := List.Perm.swap _ _ _
    exact ((((p4.trans p3).trans p5).trans p6).cons_inv.cons_inv).symm

/-- A world of the sort's: l0's ints stand in block g as l; nothing but that block has turned. -/
structure SR (w0 : World) (g cap : Nat) (l0 l : List Int) (w : World) : Prop where
  row : Row w g cap l
  kept : Kept (fun k => k = g) w0 w
  perm : l.Perm l0
/-- What the sort asks. -/
structure Ctx (w0 : World) (g A : Nat) (l0 : List Int) (cf : Int → Int → Int) : Prop where
  cmp : ∀ w, Kept (fun k => k = g) w0 w → ∀ x y, wf x → wf y → Calls Try.prog 48 #[.pointer (some ⟨A, 0, none⟩), .int .i64 x, .int .i64 y] w fun e w' => e = .returned (.int .i64 (cf x y)) ∧ ∃ m, w' = w.drewN m
  wf : ∀ x ∈ l0, wf x
  len : l0.length ≤ 100000
  lt : g < w0.heap.size
/-- The comparison, as a value. -/
abbrev cv (A : Nat) : Value := .func (.func 48) #[.pointer (some ⟨A, 0, none⟩)] #[]

section
variable {w0 w : World} {g cap A : Nat} {l0 l : List Int} {cf : Int → Int → Int}
theorem SR.len (h : SR w0 g cap l0 l w) : l.length = l0.length := h.perm.length_eq
theorem SR.cell (h : SR w0 g cap l0 l w) {i : Nat} (hi : i < l0.length) : w.cell? ⟨g, i, none⟩ = some (.int .i64 (at' l i)) := h.row.cell (by rw [h.len]; exact hi)
theorem SR.frozen (h : SR w0 g cap l0 l w) (i : Nat) : w.frozen? ⟨g, i, none⟩ = false := h.row.frozen i
theorem SR.drewN (h : SR w0 g cap l0 l w) (n : Nat) : SR w0 g cap l0 l (w.drewN n) := ⟨h.row, h.kept.drewN n, h.perm⟩
theorem SR.drew (h : SR w0 g cap l0 l w) : SR w0 g cap l0 l w.drew := ⟨h.row, h.kept.drew, h.perm⟩
theorem SR.wf (h : SR w0 g cap l0 l w) (X : Ctx w0 g A l0 cf) {i : Nat} (hi : i < l0.length) : wf (at' l i) := by
  refine X.wf _ (h.perm.mem_iff.1 ?_)
  have hi' : i < l.length := by rw [h.len]; exact hi
  have : at' l i = l[i] := by simp [at', List.getD_eq_getElem?_getD, List.getElem?_eq_getElem hi']
  rw [this]; exact List.getElem_mem _
theorem SR.swap (h : SR w0 g cap l0 l w) {i j : Nat} (hi : i < l0.length) (hj : j < l0.length) :
    SR w0 g cap l0 (swp l i j) ((w.setCell ⟨g, i, none⟩ (.int .i64 (at' l j))).setCell ⟨g, j, none⟩ (.int .i64 (at' l i))) :=
  ⟨(h.row.set i _).set j _, (h.kept.set g i _ (.inl rfl)).set g j _ (.inl rfl), (swp_perm l i j (by rw [h.len]; exact hi) (by rw [h.len]; exact hj)).trans h.perm⟩
theorem SR.cmp (h : SR w0 g cap l0 l w) (X : Ctx w0 g A l0 cf) {i j : Nat} (hi : i < l0.length) (hj : j < l0.length) (n : Nat) :
    Calls Try.prog 48 #[.pointer (some ⟨A, 0, none⟩), .int .i64 (at' l i), .int .i64 (at' l j)] (w.drewN n) fun e w' => e = .returned (.int .i64 (cf (at' l i) (at' l j))) ∧ ∃ m, w' = w.drewN m :=
  (X.cmp _ (h.kept.drewN n) _ _ (h.wf X hi) (h.wf X hj)).mono fun e w' ⟨h1, m, h2⟩ => ⟨h1, n + m, by rw [h2, World.drewN_drewN]⟩
/-- What an exchange of two places wants. -/
theorem SR.swaps (h : SR w0 g cap l0 l w) {i j : Nat} (hi : i < l0.length) (hj : j < l0.length) : ∃ x y u, w.cell? ⟨g, i, none⟩ = some (.int .i64 x) ∧ w.cell? ⟨g, j, none⟩ = some (.int .i64 y) ∧ w.frozen? ⟨g, i, none⟩ = false ∧ w.frozen? ⟨g, j, none⟩ = false ∧
    (w.setCell ⟨g, i, none⟩ (.int .i64 y)).cell? ⟨g, j, none⟩ = some u ∧ Hid (∃ l', SR w0 g cap l0 l' ((w.setCell ⟨g, i, none⟩ (.int .i64 y)).setCell ⟨g, j, none⟩ (.int .i64 x)).drew) := by
  have hr := (h.row.set i (at' l j)).cell (i := j) (by rw [List.length_set, h.len]; exact hj)
  exact ⟨_, _, _, h.cell hi, h.cell hj, h.frozen i, h.frozen j, hr, ⟨_, (h.swap hi hj).drew⟩⟩
theorem SR.lt (h : SR w0 g cap l0 l w) : g < w.heap.size := h.row.lt
theorem SR.size (h : SR w0 g cap l0 l w) : w0.heap.size ≤ w.heap.size := h.kept.size
end
end Go.Proofs.Ytnfamebihpnjlaa
