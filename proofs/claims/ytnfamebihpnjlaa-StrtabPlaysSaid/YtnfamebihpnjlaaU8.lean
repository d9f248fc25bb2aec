/- slices.order2CmpFunc, medianCmpFunc, medianAdjacentCmpFunc, choosePivotCmpFunc. -/
import Derived.Test.YtnfamebihpnjlaaU7
namespace Go.Proofs.Ytnfamebihpnjlaa
open Go.RowKit
set_option linter.unusedSimpArgs false
set_option linter.unusedVariables false

theorem SR.box {w0 w : World} {g cap : Nat} {l0 l : List Int} (h : SR w0 g cap l0 l w) (hg : g < w0.heap.size) {c : Nat} (hc : w0.heap.size ≤ c) (o : Nat) (v : Value) : SR w0 g cap l0 l (w.setCell ⟨c, o, none⟩ v) := by
  refine ⟨?_, h.kept.set c o v (.inr hc), h.perm⟩
  obtain ⟨cur, h1, r⟩ := h.row
  exact ⟨cur, hp_set_other h1 o v (by omega), r⟩
theorem SR.alloc {w0 w : World} {g cap : Nat} {l0 l : List Int} (h : SR w0 g cap l0 l w) (o : Obj) : SR w0 g cap l0 l (w.alloc o) :=
  ⟨h.row.kept ((Kept.refl No w).alloc o) id, h.kept.alloc o, h.perm⟩

/-- A world of the sort's with a counter of at most n in block c. -/
def SC (w0 : World) (g cap : Nat) (l0 : List Int) (c n : Nat) (w : World) : Prop :=
  (∃ l, SR w0 g cap l0 l w) ∧ (∃ s : Nat, s ≤ n ∧ w.cell? ⟨c, 0, none⟩ = some (.int .i64 s)) ∧ w.frozen? ⟨c, 0, none⟩ = false ∧ w0.heap.size ≤ c
section
variable {w0 w : World} {g cap A c n : Nat} {l0 : List Int} {cf : Int → Int → Int}
theorem SC.mono (h : SC w0 g cap l0 c n w) {m : Nat} (hm : n ≤ m) : SC w0 g cap l0 c m w := by
  obtain ⟨h1, ⟨s, hs, h2⟩, h3⟩ := h
  exact ⟨h1, ⟨s, by omega, h2⟩, h3⟩
theorem SC.drewN (h : SC w0 g cap l0 c n w) (k : Nat) : SC w0 g cap l0 c n (w.drewN k) := by
  obtain ⟨⟨l, h1⟩, h2, h3⟩ := h
  exact ⟨⟨l, h1.drewN k⟩, h2, h3⟩
end

set_option maxRecDepth 20000 in
set_option maxHeartbeats 4000000 in
theorem order2_any {w0 w : World} {g cap A : Nat} {l0 : List Int} {cf : Int → Int → Int} (X : Ctx w0 g A l0 cf) {c n : Nat} (hn : n ≤ 1000) (S : SC w0 g cap l0 c n w) {a b : Nat} (ha : a < l0.length) (hb : b < l0.length) :
    Calls Try.prog 72 #[.slice (some ⟨g, 0, none⟩) l0.length cap, .int .i64 a, .int .i64 b, .pointer (some ⟨c, 0, none⟩), cv A] w fun e w' =>
      ∃ x y : Nat, e = .returned (.tuple #[.int .i64 x, .int .i64 y]) ∧ (x = a ∧ y = b ∨ x = b ∧ y = a) ∧ SC w0 g cap l0 c (n + 1) w' := by
  have hlen := X.len
  have HX : Hid (Ctx w0 g A l0 cf) := X
  have HS : Hid (SC w0 g cap l0 c n w) := S
  obtain ⟨l, HL⟩ : ∃ l, Hid (SR w0 g cap l0 l w) := S.1
  clear X S
  have c1 := HL.out.cell hb
  have c2 := HL.out.cell ha
  have HC : Hid _ := HL.out.cmp HX.out hb ha
  generalize at' l b = x at c1 HC
  generalize at' l a = y at c2 HC
  by_cases hc : cf x y < 0
  · have hd : decide (cf x y < 0) = true := decide_eq_true hc
    go_enter Try.func72, Try.ntmps72
    go_wp2_with fail
    go_quiet (first | (go_at_call 48; exact HC.out _))
    have HS' : Hid (SC w0 g cap l0 c n (w.drewN nq)) := HS.out.drewN nq
    clear HL HC c1 c2 HS
    generalize w.drewN nq = W at HS' ⊢
    obtain ⟨s, hs, hcs⟩ := HS'.out.2.1
    have hfc := HS'.out.2.2.1
    have HE : Hid (SC w0 g cap l0 c (n + 1) (W.setCell ⟨c, 0, none⟩ (.int .i64 ((s : Int) + 1)))) := by
      obtain ⟨⟨l, h1⟩, h2, h3, h4⟩ := HS'.out
      refine ⟨⟨l, h1.box HX.out.lt h4 0 _⟩, ⟨s + 1, by omega, ?_⟩, by rw [World.frozen?_setCell]; exact h3, h4⟩
      exact World.cell?_setCell_same _ _ _ hcs
    clear HS'
    go_wp2
    go_ret2
    exact ⟨b, a, rfl, Or.inr ⟨rfl, rfl⟩, HE.out⟩
  · have hd : decide (cf x y < 0) = false := decide_eq_false hc
    go_enter Try.func72, Try.ntmps72
    go_wp2_with fail
    go_quiet (first | (go_at_call 48; exact HC.out _))
    have HS' : Hid (SC w0 g cap l0 c n (w.drewN nq)) := HS.out.drewN nq
    clear HL HC c1 c2 HS
    generalize w.drewN nq = W at HS' ⊢
    go_wp2
    go_ret2
    exact ⟨a, b, rfl, Or.inl ⟨rfl, rfl⟩, HS'.out.mono (by omega)⟩

set_option maxRecDepth 20000 in
set_option maxHeartbeats 4000000 in
theorem median_any {w0 w : World} {g cap A : Nat} {l0 : List Int} {cf : Int → Int → Int} (X : Ctx w0 g A l0 cf) {c n : Nat} (hn : n ≤ 900) (S : SC w0 g cap l0 c n w) {a b d : Nat} (ha : a < l0.length) (hb : b < l0.length) (hd : d < l0.length) :
    Calls Try.prog 71 #[.slice (some ⟨g, 0, none⟩) l0.length cap, .int .i64 a, .int .i64 b, .int .i64 d, .pointer (some ⟨c, 0, none⟩), cv A] w fun e w' =>
      ∃ m : Nat, e = .returned (.int .i64 m) ∧ (m = a ∨ m = b ∨ m = d) ∧ SC w0 g cap l0 c (n + 3) w' := by
  have HX : Hid (Ctx w0 g A l0 cf) := X
  have H1 : Hid _ := order2_any X (by omega) S ha hb
  clear X S
  go_enter Try.func71, Try.ntmps71
  go_wp2_with fail
  refine Calls.mono H1.out ?_
  rintro e w1 ⟨x, y, rfl, hxy, hs⟩
  clear H1
  have H2 : Hid _ := order2_any HX.out (by omega) hs (a := y) (b := d) (by omega) hd
  clear hs
  go_wp2_with fail
  refine Calls.mono H2.out ?_
  rintro e w2 ⟨y', z, rfl, hyz, hs⟩
  clear H2
  have H3 : Hid _ := order2_any HX.out (by omega) hs (a := x) (b := y') (by omega) (by omega)
  clear hs
  go_wp2_with fail
  refine Calls.mono H3.out ?_
  rintro e w3 ⟨x', y2, rfl, hxy2, hs⟩
  clear H3
  have HE : Hid (SC w0 g cap l0 c (n + 3) w3) := hs
  clear hs
  go_wp2
  go_ret
  exact ⟨y2, rfl, by omega, HE.out⟩

set_option maxRecDepth 20000 in
set_option maxHeartbeats 4000000 in
theorem adj_any {w0 w : World} {g cap A : Nat} {l0 : List Int} {cf : Int → Int → Int} (X : Ctx w0 g A l0 cf) {c n : Nat} (hn : n ≤ 900) (S : SC w0 g cap l0 c n w) {a : Nat} (ha : a + 1 < l0.length) (h1 : 1 ≤ a) :
    Calls Try.prog 70 #[.slice (some ⟨g, 0, none⟩) l0.length cap, .int .i64 a, .pointer (some ⟨c, 0, none⟩), cv A] w fun e w' =>
      ∃ m : Nat, e = .returned (.int .i64 m) ∧ a ≤ m + 1 ∧ m ≤ a + 1 ∧ SC w0 g cap l0 c (n + 3) w' := by
  have hlen := X.len
  have e1 : (a : Int) - 1 = ((a - 1 : Nat) : Int) := by omega
  have e2 : (a : Int) + 1 = ((a + 1 : Nat) : Int) := by omega
  have H1 : Hid _ := median_any X hn S (a := a - 1) (b := a) (d := a + 1) (by omega) (by omega) (by omega)
  rw [← e1, ← e2] at H1
  clear e1 e2 X S
  go_enter Try.func70, Try.ntmps70
  go_wp2_with fail
  refine Calls.mono H1.out ?_
  rintro e w1 ⟨m, rfl, hm, hs⟩
  have HE : Hid (SC w0 g cap l0 c (n + 3) w1) := hs
  clear hs H1
  go_wp2
  go_ret
  exact ⟨m, rfl, by omega, by omega, HE.out⟩
end Go.Proofs.Ytnfamebihpnjlaa
