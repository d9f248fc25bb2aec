/- slices.choosePivotCmpFunc leaves the row alone. -/
import Derived.Test.YtnfamebihpnjlaaU8
import Derived.Test.YtnfamebihpnjlaaU9
namespace Go.Proofs.Ytnfamebihpnjlaa
open Go.RowKit
set_option linter.unusedSimpArgs false
set_option linter.unusedVariables false

/-- A world of the sort's with a counter of at most n in block c. -/
def SD (w0 : World) (g cap : Nat) (l0 l : List Int) (c n : Nat) (w : World) : Prop :=
  SR w0 g cap l0 l w ∧ (∃ s : Nat, s ≤ n ∧ w.cell? ⟨c, 0, none⟩ = some (.int .i64 s)) ∧ w.frozen? ⟨c, 0, none⟩ = false ∧ w0.heap.size ≤ c
section
variable {w0 w : World} {g cap A c n : Nat} {l0 l : List Int} {cf : Int → Int → Int}
theorem SD.mono (h : SD w0 g cap l0 l c n w) {m : Nat} (hm : n ≤ m) : SD w0 g cap l0 l c m w := by
  obtain ⟨h1, ⟨s, hs, h2⟩, h3⟩ := h
  exact ⟨h1, ⟨s, by omega, h2⟩, h3⟩
theorem SD.drewN (h : SD w0 g cap l0 l c n w) (k : Nat) : SD w0 g cap l0 l c n (w.drewN k) := by
  obtain ⟨h1, h2, h3⟩ := h
  exact ⟨h1.drewN k, h2, h3⟩
end

set_option maxRecDepth 20000 in
set_option maxHeartbeats 4000000 in
theorem order2_l {w0 w : World} {g cap A : Nat} {l0 l : List Int} {cf : Int → Int → Int} (X : Ctx w0 g A l0 cf) {c n : Nat} (hn : n ≤ 1000) (S : SD w0 g cap l0 l c n w) {a b : Nat} (ha : a < l0.length) (hb : b < l0.length) :
    Calls Try.prog 72 #[.slice (some ⟨g, 0, none⟩) l0.length cap, .int .i64 a, .int .i64 b, .pointer (some ⟨c, 0, none⟩), cv A] w fun e w' =>
      ∃ x y : Nat, e = .returned (.tuple #[.int .i64 x, .int .i64 y]) ∧ (x = a ∧ y = b ∨ x = b ∧ y = a) ∧ SD w0 g cap l0 l c (n + 1) w' := by
  have hlen := X.len
  have HX : Hid (Ctx w0 g A l0 cf) := X
  have HS : Hid (SD w0 g cap l0 l c n w) := S
  have HL : Hid (SR w0 g cap l0 l w) := S.1
  clear X S
  have c1 := HL.out.cell hb
  have c2 := HL.out.cell ha
  have HC : Hid _ := HL.out.cmp HX.out hb ha
  generalize at' l b = x at c1 HC
  generalize at' l a = y at c2 HC
  by_cases hc : cf x y < 0
  · have hd : decide (cf x y < 0) = true := decide_eq_true hc
    go_enter Try.func72, Try.ntmps72
    go_wp2_with fail
    go_quiet (first | (go_at_call 48; exact HC.out _))
    have HS' : Hid (SD w0 g cap l0 l c n (w.drewN nq)) := HS.out.drewN nq
    clear HL HC c1 c2 HS
    generalize w.drewN nq = W at HS' ⊢
    obtain ⟨s, hs, hcs⟩ := HS'.out.2.1
    have hfc := HS'.out.2.2.1
    have HE : Hid (SD w0 g cap l0 l c (n + 1) (W.setCell ⟨c, 0, none⟩ (.int .i64 ((s : Int) + 1)))) := by
      obtain ⟨h1, h2, h3, h4⟩ := HS'.out
      refine ⟨h1.box HX.out.lt h4 0 _, ⟨s + 1, by omega, ?_⟩, by rw [World.frozen?_setCell]; exact h3, h4⟩
      exact World.cell?_setCell_same _ _ _ hcs
    clear HS'
    go_wp2
    go_ret2
    exact ⟨b, a, rfl, Or.inr ⟨rfl, rfl⟩, HE.out⟩
  · have hd : decide (cf x y < 0) = false := decide_eq_false hc
    go_enter Try.func72, Try.ntmps72
    go_wp2_with fail
    go_quiet (first | (go_at_call 48; exact HC.out _))
    have HS' : Hid (SD w0 g cap l0 l c n (w.drewN nq)) := HS.out.drewN nq
    clear HL HC c1 c2 HS
    generalize w.drewN nq = W at HS' ⊢
    go_wp2
    go_ret2
    exact ⟨a, b, rfl, Or.inl ⟨rfl, rfl⟩, HS'.out.mono (by omega)⟩

set_option maxRecDepth 20000 in
set_option maxHeartbeats 4000000 in
theorem median_l {w0 w : World} {g cap A : Nat} {l0 l : List Int} {cf : Int → Int → Int} (X : Ctx w0 g A l0 cf) {c n : Nat} (hn : n ≤ 900) (S : SD w0 g cap l0 l c n w) {a b d : Nat} (ha : a < l0.length) (hb : b < l0.length) (hd : d < l0.length) :
    Calls Try.prog 71 #[.slice (some ⟨g, 0, none⟩) l0.length cap, .int .i64 a, .int .i64 b, .int .i64 d, .pointer (some ⟨c, 0, none⟩), cv A] w fun e w' =>
      ∃ m : Nat, e = .returned (.int .i64 m) ∧ (m = a ∨ m = b ∨ m = d) ∧ SD w0 g cap l0 l c (n + 3) w' := by
  have HX : Hid (Ctx w0 g A l0 cf) := X
  have H1 : Hid _ := order2_l X (by omega) S ha hb
  clear X S
  go_enter Try.func71, Try.ntmps71
  go_wp2_with fail
  refine Calls.mono H1.out ?_
  rintro e w1 ⟨x, y, rfl, hxy, hs⟩
  clear H1
  have H2 : Hid _ := order2_l HX.out (by omega) hs (a := y) (b := d) (by omega) hd
  clear hs
  go_wp2_with fail
  refine Calls.mono H2.out ?_
  rintro e w2 ⟨y', z, rfl, hyz, hs⟩
  clear H2
  have H3 : Hid _ := order2_l HX.out (by omega) hs (a := x) (b := y') (by omega) (by omega)
  clear hs
  go_wp2_with fail
  refine Calls.mono H3.out ?_
  rintro e w3 ⟨x', y2, rfl, hxy2, hs⟩
  clear H3
  have HE : Hid (SD w0 g cap l0 l c (n + 3) w3) := hs
  clear hs
  go_wp2
  go_ret
  exact ⟨y2, rfl, by omega, HE.out⟩

set_option maxRecDepth 20000 in
set_option maxHeartbeats 4000000 in
theorem adj_l {w0 w : World} {g cap A : Nat} {l0 l : List Int} {cf : Int → Int → Int} (X : Ctx w0 g A l0 cf) {c n : Nat} (hn : n ≤ 900) (S : SD w0 g cap l0 l c n w) {a : Nat} (ha : a + 1 < l0.length) (h1 : 1 ≤ a) :
    Calls Try.prog 70 #[.slice (some ⟨g, 0, none⟩) l0.length cap, .int .i64 a, .pointer (some ⟨c, 0, none⟩), cv A] w fun e w' =>
      ∃ m : Nat, e = .returned (.int .i64 m) ∧ a ≤ m + 1 ∧ m ≤ a + 1 ∧ SD w0 g cap l0 l c (n + 3) w' := by
  have hlen := X.len
  have e1 : (a : Int) - 1 = ((a - 1 : Nat) : Int) := by omega
  have e2 : (a : Int) + 1 = ((a + 1 : Nat) : Int) := by omega
  have H1 : Hid _ := median_l X hn S (a := a - 1) (b := a) (d := a + 1) (by omega) (by omega) (by omega)
  rw [← e1, ← e2] at H1
  clear e1 e2 X S
  go_enter Try.func70, Try.ntmps70
  go_wp2_with fail
  refine Calls.mono H1.out ?_
  rintro e w1 ⟨m, rfl, hm, hs⟩
  have HE : Hid (SD w0 g cap l0 l c (n + 3) w1) := hs
  clear hs H1
  go_wp2
  go_ret
  exact ⟨m, rfl, by omega, by omega, HE.out⟩
set_option maxRecDepth 20000 in
set_option maxHeartbeats 4000000 in
theorem pivot_l {w0 w : World} {g cap A : Nat} {l0 l : List Int} {cf : Int → Int → Int} (X : Ctx w0 g A l0 cf) (S : SR w0 g cap l0 l w) {a b : Nat} (hab : a + 12 < b) (hb : b ≤ l0.length) :
    Calls Try.prog 60 #[.slice (some ⟨g, 0, none⟩) l0.length cap, .int .i64 a, .int .i64 b, cv A] w fun e w' =>
      ∃ m h : Nat, e = .returned (.tuple #[.int .i64 m, .int .i64 h]) ∧ a ≤ m ∧ m < b ∧ h ≤ 2 ∧ SR w0 g cap l0 l w' := by
  have hlen := X.len
  obtain ⟨L, hL⟩ : ∃ L, L = b - a := ⟨_, rfl⟩
  obtain ⟨Q, hQ⟩ : ∃ Q, Q = L / 4 := ⟨_, rfl⟩
  have e0 : (b : Int) - (a : Int) = (L : Int) := by omega
  have e1 : Int.tdiv (L : Int) 4 = (Q : Int) := by rw [hQ]; rfl
  have e1' : (L : Int) / 4 = (Q : Int) := by omega
  have L1 : a + L ≤ b := by omega
  have L2 : b ≤ a + L := by omega
  have Q1 : 4 * Q ≤ L := by omega
  have Q2 : L < 4 * Q + 4 := by omega
  clear hL hQ
  have l8 : (8 : Int) ≤ (L : Int) := by omega
  have HX : Hid (Ctx w0 g A l0 cf) := X
  have HS : Hid (SD w0 g cap l0 l w.heap.size 0 (w.alloc (.cells #[.int .i64 0] 3))) := by
    have h := S
    exact ⟨h.alloc _, ⟨0, Nat.le_refl _, by simp⟩, by simp, h.size⟩
  clear X S
  go_enter Try.func60, Try.ntmps60
  go_upto_if 34 with fail
  generalize w.alloc (.cells #[.int .i64 0] 3) = W at HS ⊢
  generalize w.heap.size = c at HS ⊢
  go_cut [12, 13, 14] (fun _ v _ wx => ∃ m : Nat, a ≤ m ∧ m < b ∧ v = .int .i64 m ∧ Hid (SD w0 g cap l0 l c 100 wx))
  case first =>
    by_cases h50 : 50 ≤ L
    · have h50z : (50 : Int) ≤ (L : Int) := by omega
      obtain ⟨i1, q1, q1', b1, b1'⟩ : ∃ i1 : Nat, (a : Int) + (Q : Int) * 1 = (i1 : Int) ∧ (a : Int) + (Q : Int) = (i1 : Int) ∧ a + Q ≤ i1 ∧ i1 ≤ a + Q := ⟨a + Q, by omega, by omega, Nat.le_refl _, Nat.le_refl _⟩
      obtain ⟨i2, q2, b2, b2'⟩ : ∃ i2 : Nat, (a : Int) + (Q : Int) * 2 = (i2 : Int) ∧ a + Q * 2 ≤ i2 ∧ i2 ≤ a + Q * 2 := ⟨a + Q * 2, by omega, Nat.le_refl _, Nat.le_refl _⟩
      obtain ⟨i3, q3, b3, b3'⟩ : ∃ i3 : Nat, (a : Int) + (Q : Int) * 3 = (i3 : Int) ∧ a + Q * 3 ≤ i3 ∧ i3 ≤ a + Q * 3 := ⟨a + Q * 3, by omega, Nat.le_refl _, Nat.le_refl _⟩
      try rw [q1]
      try rw [q1']
      rw [q2, q3]
      clear q1 q1' q2 q3
      have H1 : Hid _ := adj_l HX.out (by omega) HS.out (a := i1) (by omega) (by omega)
      clear HS
      go_wp2_with fail
      refine Calls.mono H1.out ?_
      rintro e w1 ⟨m1, rfl, hm1, hm1', hs⟩
      have H2 : Hid _ := adj_l HX.out (by omega) hs (a := i2) (by omega) (by omega)
      clear H1 hs
      go_wp2_with fail
      refine Calls.mono H2.out ?_
      rintro e w2 ⟨m2, rfl, hm2, hm2', hs⟩
      have H3 : Hid _ := adj_l HX.out (by omega) hs (a := i3) (by omega) (by omega)
      clear H2 hs
      go_wp2_with fail
      refine Calls.mono H3.out ?_
      rintro e w3 ⟨m3, rfl, hm3, hm3', hs⟩
      have H4 : Hid _ := median_l HX.out (by omega) hs (a := m1) (b := m2) (d := m3) (by omega) (by omega) (by omega)
      clear H3 hs
      go_wp2_with fail
      refine Calls.mono H4.out ?_
      rintro e w4 ⟨m, rfl, hm, hs⟩
      have HS : Hid (SD w0 g cap l0 l c 100 w4) := hs.mono (by omega)
      clear H4 hs
      go_wp2
      go_meet
      exact ⟨m, by omega, by omega, rfl, HS.out⟩
    · have h50z : ¬ (50 : Int) ≤ (L : Int) := by omega
      obtain ⟨i1, q1, q1', b1, b1'⟩ : ∃ i1 : Nat, (a : Int) + (Q : Int) * 1 = (i1 : Int) ∧ (a : Int) + (Q : Int) = (i1 : Int) ∧ a + Q ≤ i1 ∧ i1 ≤ a + Q := ⟨a + Q, by omega, by omega, Nat.le_refl _, Nat.le_refl _⟩
      obtain ⟨i2, q2, b2, b2'⟩ : ∃ i2 : Nat, (a : Int) + (Q : Int) * 2 = (i2 : Int) ∧ a + Q * 2 ≤ i2 ∧ i2 ≤ a + Q * 2 := ⟨a + Q * 2, by omega, Nat.le_refl _, Nat.le_refl _⟩
      obtain ⟨i3, q3, b3, b3'⟩ : ∃ i3 : Nat, (a : Int) + (Q : Int) * 3 = (i3 : Int) ∧ a + Q * 3 ≤ i3 ∧ i3 ≤ a + Q * 3 := ⟨a + Q * 3, by omega, Nat.le_refl _, Nat.le_refl _⟩
      try rw [q1]
      try rw [q1']
      rw [q2, q3]
      clear q1 q1' q2 q3
      have H4 : Hid _ := median_l HX.out (by omega) HS.out (a := i1) (b := i2) (d := i3) (by omega) (by omega) (by omega)
      clear HS
      go_wp2_with fail
      refine Calls.mono H4.out ?_
      rintro e w4 ⟨m, rfl, hm, hs⟩
      have HS : Hid (SD w0 g cap l0 l c 100 w4) := hs.mono (by omega)
      clear H4 hs
      go_wp2
      go_meet
      exact ⟨m, by omega, by omega, rfl, HS.out⟩
  case rest =>
    clear HS
    obtain ⟨m, hm1, hm2, rfl, HS⟩ := hcut
    obtain ⟨s, hs, hcs⟩ := HS.out.2.1
    have HE : Hid (SR w0 g cap l0 l wc) := HS.out.1
    clear HS
    by_cases h0 : s = 0
    · have hz : (s : Int) = 0 := by omega
      have hb0 : ((s : Int) == 0) = true := by simp [hz]
      go_wp2
      go_ret2
      exact ⟨m, 1, rfl, hm1, hm2, by omega, HE.out⟩
    · have hz : ¬ (s : Int) = 0 := by omega
      have hb0 : ((s : Int) == 0) = false := by rw [beq_eq_false_iff_ne]; exact hz
      by_cases h12 : s = 12
      · have hz' : (s : Int) = 12 := by omega
        have hb1 : ((s : Int) == 12) = true := by simp [hz']
        go_wp2
        go_ret2
        exact ⟨m, 2, rfl, hm1, hm2, by omega, HE.out⟩
      · have hz' : ¬ (s : Int) = 12 := by omega
        have hb1 : ((s : Int) == 12) = false := by rw [beq_eq_false_iff_ne]; exact hz'
        go_wp2
        go_ret2
        exact ⟨m, 0, rfl, hm1, hm2, by omega, HE.out⟩
end Go.Proofs.Ytnfamebihpnjlaa
