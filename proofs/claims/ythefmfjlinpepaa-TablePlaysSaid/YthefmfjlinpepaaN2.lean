/- Next of no key; Kill. -/
import Derived.Test.YthefmfjlinpepaaN1
namespace Go.Proofs.Ythefmfjlinpepaa
open Go.RowKit Go.Shelf
set_option linter.unusedSimpArgs false
set_option linter.unusedVariables false
attribute [local go_sem] Oper.semAt_some

set_option maxRecDepth 100000 in
set_option maxHeartbeats 4000000 in
theorem Next_none {w : World} {P : Nat} {most : Int} {a n nn : Nat} {sl : Sl} (h : Tb w P most a n nn sl) (t x : Int) (hx : I64 x) (hb : (behR a n sl t x).2 = false) :
    Calls Try.prog 20 #[MI P, AV t x] w fun e w' => e = .returned (.tuple #[iV (0, 0), iV (0, 0), .int .i64 13]) ∧ Kept No w w' := by
  obtain ⟨W, HW⟩ : ∃ W, Hid (W = (((w.alloc (.cells #[.int .i64 t, .int .i64 x] 33)).alloc (.cells #[.int .i64 0, .int .i64 0] 33)).alloc (.cells #[.int .i64 0, .int .i64 0] 33)).alloc (.cells #[.int .i64 0] 44)) := ⟨_, rfl⟩
  have HK : Hid (Kept No w W) := by show Kept _ _ _; rw [HW.out]; exact ((((Kept.refl _ _).alloc _).alloc _).alloc _).alloc _
  have HBh := @behind_any W P most a n nn sl (h.no HK.out) t x hx
  rw [hb] at HBh
  generalize (behR a n sl t x).1 = f at HBh
  have HB : Hid (Calls Try.prog 45 #[MI P, AV t x] W fun e w' => e = .returned (.tuple #[.int .i64 f, .bool false]) ∧ Kept No W w') := HBh
  clear HBh hb hx h
  go_enter Try.func20, Try.ntmps20
  go_wp2_with fail
  rw [← HW.out]
  refine HB.out.mono ?_
  rintro e W1 ⟨rfl, hk1⟩
  have HR0 : W1.heap[w.heap.size + 1]? = some (.cells #[.int .i64 0, .int .i64 0] 33 (0, 0)) ∧ W1.heap[w.heap.size + 2]? = some (.cells #[.int .i64 0, .int .i64 0] 33 (0, 0)) ∧ W1.heap[w.heap.size + 3]? = some (.cells #[.int .i64 0] 44 (0, 0)) := by
    refine ⟨hk1.heap ?_ id, hk1.heap ?_ id, hk1.heap ?_ id⟩
    · rw [HW.out]; have := heap_new1 (w.alloc (.cells #[.int .i64 t, .int .i64 x] 33)) (.cells #[.int .i64 0, .int .i64 0] 33); rw [World.size_alloc] at this; exact heap_old (heap_old this _) _
    · rw [HW.out]; have := heap_new1 ((w.alloc (.cells #[.int .i64 t, .int .i64 x] 33)).alloc (.cells #[.int .i64 0, .int .i64 0] 33)) (.cells #[.int .i64 0, .int .i64 0] 33); simp only [World.size_alloc] at this; exact heap_old this _
    · rw [HW.out]; have := heap_new1 (((w.alloc (.cells #[.int .i64 t, .int .i64 x] 33)).alloc (.cells #[.int .i64 0, .int .i64 0] 33)).alloc (.cells #[.int .i64 0, .int .i64 0] 33)) (.cells #[.int .i64 0] 44); simp only [World.size_alloc] at this; exact this
  obtain ⟨x0, x1, x2⟩ := HR0
  have c0 : W1.cell? ⟨w.heap.size + 1, 0, none⟩ = some (.int .i64 0) := by rw [cell_of x0]; rfl
  have c1 : W1.cell? ⟨w.heap.size + 1, 1, none⟩ = some (.int .i64 0) := by rw [cell_of x0]; rfl
  have c2 : W1.cell? ⟨w.heap.size + 1 + 1, 0, none⟩ = some (.int .i64 0) := by rw [cell_of x1]; rfl
  have c3 : W1.cell? ⟨w.heap.size + 1 + 1, 1, none⟩ = some (.int .i64 0) := by rw [cell_of x1]; rfl
  have c4 : W1.cell? ⟨w.heap.size + 1 + 1 + 1, 0, none⟩ = some (.int .i64 0) := by rw [cell_of x2]; rfl
  have f0 : ∀ o, W1.frozen? ⟨w.heap.size + 1, o, none⟩ = false := frozen_of x0
  have f1 : ∀ o, W1.frozen? ⟨w.heap.size + 1 + 1, o, none⟩ = false := frozen_of x1
  have f2 : ∀ o, W1.frozen? ⟨w.heap.size + 1 + 1 + 1, o, none⟩ = false := frozen_of x2
  have HK1 : Hid (Kept No w W1) := HK.out.trans hk1
  clear x0 x1 x2 hk1 HB HW HK
  go_wp2
  exact bodyPost_ret (v := .tuple #[iV (0, 0), iV (0, 0), .int .i64 13]) (by simp [results, Try.results20, go_sem, c0, c1, c2, c3, c4]) rfl ⟨rfl, ((((HK1.out.set _ 0 _ (.inr (by omega))).set _ 1 _ (.inr (by omega))).set _ 0 _ (.inr (by omega))).set _ 1 _ (.inr (by omega))).set _ 0 _ (.inr (by omega))⟩

theorem isObject_any (t n : Int) (w : World) : Calls Try.prog 60 #[AV t n] w fun e w' => e = .returned (.bool (decide (4 ≤ t) && decide (t ≤ 9))) ∧ Below w.heap.size w w' := by
  by_cases h : 4 ≤ t
  · go_enter Try.func60, Try.ntmps60
    go_wp2
    go_ret
    exact ⟨by first | (simp [h]; done) | (simp; omega), (Below.refl _ _).alloc (Nat.le_refl _) _⟩
  · go_enter Try.func60, Try.ntmps60
    go_wp2
    go_ret
    exact ⟨by first | (simp [h]; done) | (simp; omega), (Below.refl _ _).alloc (Nat.le_refl _) _⟩

/-- May a value lie in a slot? -/
def vpB (a n : Nat) (i : Int) : Bool := decide (0 ≤ i) && (decide (i - (a : Int) < 0) || (decide ((i - (a : Int)) % 2 = 1) && decide ((i - (a : Int)) / 2 < (n : Int))))

set_option maxRecDepth 20000 in
set_option maxHeartbeats 1000000 in
theorem isValuePlace_any {w : World} {P : Nat} {most : Int} {a n nn : Nat} {sl : Sl} (h : Tb w P most a n nn sl) (i : Int) (hi : I64 i) :
    Calls Try.prog 58 #[MI P, .int .i64 i] w fun e w' => e = .returned (.bool (vpB a n i)) ∧ w = w' := by
  have hmA := mArray P
  have hmN := mNodes P
  obtain ⟨b1, b2⟩ := h.bd
  have HA : Hid (Calls Try.prog 25 #[MP P] w fun e w' => e = .returned (.int .i64 a) ∧ w = w') := Array_any h
  have HN : Hid (Calls Try.prog 26 #[MP P] w fun e w' => e = .returned (.int .i64 n) ∧ w = w') := Nodes_any h
  clear h
  by_cases h0 : 0 ≤ i
  · by_cases h1 : i - (a : Int) < 0
    · have HG : Hid (vpB a n i = true) := by show _ = _; unfold vpB; simp [h0, h1]
      obtain ⟨i1, i2⟩ := hi
      go_enter Try.func58, Try.ntmps58
      go_wp2_with (go_at_call 25; refine HA.out.mono ?_; rintro e w' ⟨rfl, rfl⟩)
      go_ret
      exact ⟨by rw [HG.out]; rfl, rfl⟩
    · obtain ⟨d, hd⟩ : ∃ d : Nat, i - (a : Int) = (d : Int) := ⟨(i - (a : Int)).toNat, by omega⟩
      have e1 : (d : Int).tmod 2 = (d : Int) % 2 := Int.tmod_eq_emod_of_nonneg (by omega)
      have e2 : (d : Int).tdiv 2 = (d : Int) / 2 := Int.tdiv_eq_ediv_of_nonneg (by omega)
      by_cases h2 : (d : Int) % 2 = 1
      · have HG : Hid (vpB a n i = decide ((d : Int) / 2 < (n : Int))) := by show _ = _; unfold vpB; rw [hd]; simp [h0, h2]; try omega
        obtain ⟨i1, i2⟩ := hi
        have hI : i = (a : Int) + (d : Int) := by omega
        subst hI
        have e3 : (a : Int) + (d : Int) - (a : Int) = (d : Int) := by omega
        go_enter Try.func58, Try.ntmps58
        go_wp2_with (first | (go_at_call 25; refine HA.out.mono ?_; rintro e w' ⟨rfl, rfl⟩) | (go_at_call 26; refine HN.out.mono ?_; rintro e w' ⟨rfl, rfl⟩))
        all_goals go_ret
        all_goals (first | exact ⟨by rw [HG.out]; rfl, rfl⟩ | exact ⟨by rw [HG.out]; simp_all, rfl⟩ | (trace_state; fail))
      · have HG : Hid (vpB a n i = false) := by show _ = _; unfold vpB; rw [hd]; simp [h0, h2]; try omega
        obtain ⟨i1, i2⟩ := hi
        have hI : i = (a : Int) + (d : Int) := by omega
        subst hI
        have e3 : (a : Int) + (d : Int) - (a : Int) = (d : Int) := by omega
        go_enter Try.func58, Try.ntmps58
        go_wp2_with (first | (go_at_call 25; refine HA.out.mono ?_; rintro e w' ⟨rfl, rfl⟩) | (go_at_call 26; refine HN.out.mono ?_; rintro e w' ⟨rfl, rfl⟩))
        all_goals go_ret
        all_goals (first | exact ⟨by rw [HG.out]; rfl, rfl⟩ | exact ⟨by rw [HG.out]; simp_all, rfl⟩ | (trace_state; fail))
  · have HG : Hid (vpB a n i = false) := by show _ = _; unfold vpB; simp [h0]
    have hw : IntKind.i64.wrap (i - (a : Int)) = IntKind.i64.wrap (i - (a : Int)) := rfl
    go_enter Try.func58, Try.ntmps58
    go_wp2_with (go_at_call 25; refine HA.out.mono ?_; rintro e w' ⟨rfl, rfl⟩)
    go_ret
    exact ⟨by rw [HG.out]; rfl, rfl⟩
end Go.Proofs.Ythefmfjlinpepaa
