/- The comparison by which what is to be finalised is sorted. -/
import Derived.Test.YtnofmpbdfcolfaaS7
namespace Go.Proofs.Ytnofmpbdfcolfaa
open Go.RowKit Go.Shelf
set_option linter.unusedSimpArgs false
set_option linter.unusedVariables false

/-- cmp.Compare of ints. -/
def cmp3 (x y : Int) : Int := if x < y then -1 else if y < x then 1 else 0
theorem isNaN_any (x : Int) (w : World) : Calls Try.prog 63 #[.int .i64 x] w fun e w' => e = .returned (.bool false) ∧ w = w' := by
  go_enter Try.func63, Try.ntmps63
  go_wp2
  go_ret
  exact ⟨rfl, rfl⟩
theorem Compare_any (x y : Int) (w : World) : Calls Try.prog 50 #[.int .i64 x, .int .i64 y] w fun e w' => e = .returned (.int .i64 (cmp3 x y)) ∧ w = w' := by
  obtain ⟨c, hc⟩ : ∃ c, Hid (cmp3 x y = c) := ⟨_, rfl⟩
  rw [hc.out]
  by_cases h1 : x < y
  · have e : c = -1 := by rw [← hc.out]; simp [cmp3, h1]
    subst e
    go_enter Try.func50, Try.ntmps50
    go_wp2_with (go_at_call 63; refine (isNaN_any _ _).mono ?_; rintro e w' ⟨rfl, rfl⟩)
    go_ret
    exact ⟨rfl, rfl⟩
  · by_cases h2 : y < x
    · have e : c = 1 := by rw [← hc.out]; simp [cmp3, h1, h2]
      subst e
      go_enter Try.func50, Try.ntmps50
      go_wp2_with (go_at_call 63; refine (isNaN_any _ _).mono ?_; rintro e w' ⟨rfl, rfl⟩)
      go_ret
      exact ⟨rfl, rfl⟩
    · have e : c = 0 := by rw [← hc.out]; simp [cmp3, h1, h2]
      subst e
      go_enter Try.func50, Try.ntmps50
      go_wp2_with (go_at_call 63; refine (isNaN_any _ _).mono ?_; rintro e w' ⟨rfl, rfl⟩)
      go_ret
      exact ⟨rfl, rfl⟩

def or2 (a b : Int) : Int := if a = 0 then b else a
set_option maxRecDepth 20000 in
theorem Or2_any {w : World} {nb : Nat} {a b : Int} (h0 : w.cell? ⟨nb, 0, none⟩ = some (.int .i64 a)) (h1 : w.cell? ⟨nb, 1, none⟩ = some (.int .i64 b)) :
    Calls Try.prog 49 #[.slice (some ⟨nb, 0, none⟩) 2 2] w fun e w' => e = .returned (.int .i64 (or2 a b)) ∧ w = w' := by
  obtain ⟨r, HR⟩ : ∃ r, Hid (or2 a b = r) := ⟨_, rfl⟩
  rw [HR.out]
  go_enter Try.func49, Try.ntmps49
  go_wp2_with fail
  go_loopw [8, 5, 9, 10, 11, 12, 13, 14, 15, 16] (fun i _ _ _ _ _ _ _ _ _ wr => ∃ j : Nat, j ≤ 2 ∧ i = .int .i64 j ∧ (1 ≤ j → a = 0) ∧ (2 ≤ j → b = 0) ∧ wr = w) (fun i _ _ _ _ _ _ _ _ _ _ => 2 - (intOf i).toNat)
  case atStart => exact ⟨0, by omega, rfl, fun h => absurd h (by omega), fun h => absurd h (by omega), rfl⟩
  case round =>
    obtain ⟨j, hj, rfl, ha, hb, rfl⟩ := hrel
    obtain rfl | rfl | rfl : j = 0 ∨ j = 1 ∨ j = 2 := by omega
    · clear ha hb
      by_cases h : a = 0
      · subst h
        go_wp2_with fail
        go_roundw
        case rel => exact ⟨1, by omega, by go_num, by simp, fun h => absurd h (by omega), by first | rfl | trivial⟩
        case measure => simp [intOf]
      · have HZ : Hid (r = a) := by show _ = _; rw [← HR.out]; unfold or2; rw [if_neg h]
        go_wp2
        go_ret
        exact ⟨by rw [HZ.out]; rfl, rfl⟩
    · have ha0 := ha (by omega)
      subst ha0
      have HZ : Hid (r = b) := by show _ = _; rw [← HR.out]; rfl
      clear ha hb
      by_cases h : b = 0
      · subst h
        go_wp2_with fail
        go_roundw
        case rel => exact ⟨2, by omega, by go_num, by simp, by simp, by first | rfl | trivial⟩
        case measure => simp [intOf]
      · go_wp2
        go_ret
        exact ⟨by rw [HZ.out]; rfl, rfl⟩
    · have ha0 := ha (by omega)
      have hb0 := hb (by omega)
      subst ha0 hb0
      have HZ : Hid (r = 0) := by show _ = _; rw [← HR.out]; rfl
      clear ha hb
      go_wp2
      go_ret
      exact ⟨by rw [HZ.out]; rfl, rfl⟩

/-- Two objects, compared: what was marked last comes first. -/
def cmpF (T : List Th) (i j : Nat) : Int := or2 (cmp3 (thAt T j).fin (thAt T i).fin) (cmp3 ((j : Int) + 1) ((i : Int) + 1))
set_option maxRecDepth 20000 in
set_option maxHeartbeats 2000000 in
theorem fin48_any {w : World} {box : Nat} {tv : Value} {T : List Th} (hb : w.heap[box]? = some (.cells #[tv] 22 (0, 0))) (hT : RdT w tv T) (hn : T.length ≤ 1000000) {i j : Nat} (hi : i < T.length) (hj : j < T.length) :
    Calls Try.prog 48 #[.int .i64 ((i : Int) + 1), .int .i64 ((j : Int) + 1), PT box] w fun e w' => e = .returned (.int .i64 (cmpF T i j)) ∧ ∃ q o, w' = (w.drewN q).alloc o := by
  obtain ⟨ao, cap, rfl, hC⟩ := hT
  obtain ⟨b, off, sv, rfl, _, _, _, _, x4, _⟩ := hC i hi
  obtain ⟨b', off', sv', e', _, _, _, _, y4, _⟩ := hC j hj
  injection e' with e'
  injection e' with e1 e2
  subst e1 e2
  have c0 : ∀ m, (w.drewN m).cell? ⟨box, 0, none⟩ = some (.slice (some ⟨b, off, none⟩) T.length cap) := fun m => by rw [show (w.drewN m).cell? ⟨box, 0, none⟩ = w.cell? ⟨box, 0, none⟩ from rfl, cell_of hb]; rfl
  have cf : cmpF T i j = or2 (cmp3 T[j].fin T[i].fin) (cmp3 ((j : Int) + 1) ((i : Int) + 1)) := by unfold cmpF; rw [thAt_eq hi, thAt_eq hj]
  rw [cf]
  clear cf hC hb
  generalize T[i].fin = fi at x4 ⊢
  generalize T[j].fin = fj at y4 ⊢
  have x4' : ∀ m, (w.drewN m).cell? ⟨b, off + i * 5 + 4, none⟩ = some (.int .i64 fi) := fun m => x4
  have y4' : ∀ m, (w.drewN m).cell? ⟨b, off + j * 5 + 4, none⟩ = some (.int .i64 fj) := fun m => y4
  have k1 : (i : Int) < (T.length : Int) := by omega
  have k2 : (j : Int) < (T.length : Int) := by omega
  have e1 : (i : Int) + 1 - 1 = (i : Int) := by omega
  have e2 : (j : Int) + 1 - 1 = (j : Int) := by omega
  have HC1 : Hid (∀ m, Calls Try.prog 50 #[.int .i64 fj, .int .i64 fi] (w.drewN m) fun e w' => e = .returned (.int .i64 (cmp3 fj fi)) ∧ w.drewN m = w') := fun m => Compare_any fj fi _
  have HC2 : Hid (∀ m, Calls Try.prog 50 #[.int .i64 ((j : Int) + 1), .int .i64 ((i : Int) + 1)] (w.drewN m) fun e w' => e = .returned (.int .i64 (cmp3 ((j : Int) + 1) ((i : Int) + 1))) ∧ w.drewN m = w') := fun m => Compare_any _ _ _
  generalize cmp3 fj fi = q1 at HC1 ⊢
  generalize cmp3 ((j : Int) + 1) ((i : Int) + 1) = q2 at HC2 ⊢
  clear x4 y4
  go_enter Try.func48, Try.ntmps48
  go_wp2_with fail
  refine region_quiet_tail 16 mixed (by kernel_rfl) ?_
  simp only [List.take_succ_cons, List.take_zero, List.drop_succ_cons, List.drop_zero]
  repeat (go_big_quiet_step (first | (go_at_call 50; with_reducible exact quiet_same (HC1.out _)) | (go_at_call 50; with_reducible exact quiet_same (HC2.out _))))
  refine wpQuiet_nil ?_
  rintro _ ⟨nq, rfl⟩
  obtain ⟨X, HX⟩ : ∃ X, Hid (X = (w.drewN nq).alloc (.cells #[.int .i64 q1, .int .i64 q2] 3)) := ⟨_, rfl⟩
  have hx : X.heap[w.heap.size]? = some (.cells #[.int .i64 q1, .int .i64 q2] 3 (0, 0)) := by rw [HX.out]; exact World.alloc_heap_new (w.drewN nq) _
  have g0 : X.cell? ⟨w.heap.size, 0, none⟩ = some (.int .i64 q1) := by rw [cell_of hx]; rfl
  have g1 : X.cell? ⟨w.heap.size, 1, none⟩ = some (.int .i64 q2) := by rw [cell_of hx]; rfl
  have HO : Hid _ := Or2_any g0 g1
  clear hx g0 g1 c0 x4' y4' HC1 HC2
  go_wp2_with (first | rw [← HX.out])
  go_at_call 49
  refine Calls.mono HO.out ?_
  rintro e w' ⟨rfl, rfl⟩
  go_wp2
  go_ret
  exact ⟨rfl, nq, _, HX.out⟩
end Go.Proofs.Ytnofmpbdfcolfaa
