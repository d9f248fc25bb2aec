/- Graphs: what they are; what is read of them in memory; small functions. -/
import Derived.Test.YtnofmpbdfcolfaaA0
import Derived.Deep.RegionHeld3
namespace Go.Proofs.Ytnofmpbdfcolfaa
open Go.RowKit
set_option linter.unusedSimpArgs false
set_option linter.unusedVariables false

/-- A value of the language: its type and its number. -/
abbrev V := Int × Int
abbrev AV (v : V) : Value := .agg #[.int .i64 v.1, .int .i64 v.2]
/-- A thing. -/
structure Th where
  kind : Int
  weak : Int
  arr : Int
  sl : List V
  fin : Int
abbrev AT (t : Th) (sv : Value) : Value := .agg #[.int .i64 t.kind, .int .i64 t.weak, .int .i64 t.arr, sv, .int .i64 t.fin]

/-- A slice of values that can be read. -/
def RdV (W : World) (v : Value) (L : List V) : Prop :=
  ∃ ao cap, v = .slice ao L.length cap ∧ ∀ j (hj : j < L.length), ∃ b off, ao = some ⟨b, off, none⟩ ∧ W.cell? ⟨b, off + j * 2, none⟩ = some (.int .i64 L[j].1) ∧ W.cell? ⟨b, off + j * 2 + 1, none⟩ = some (.int .i64 L[j].2)
/-- A slice of things that can be read. -/
def RdT (W : World) (v : Value) (T : List Th) : Prop :=
  ∃ ao cap, v = .slice ao T.length cap ∧ ∀ j (hj : j < T.length), ∃ b off sv, ao = some ⟨b, off, none⟩ ∧ W.cell? ⟨b, off + j * 5, none⟩ = some (.int .i64 T[j].kind) ∧ W.cell? ⟨b, off + j * 5 + 1, none⟩ = some (.int .i64 T[j].weak) ∧
    W.cell? ⟨b, off + j * 5 + 2, none⟩ = some (.int .i64 T[j].arr) ∧ W.cell? ⟨b, off + j * 5 + 3, none⟩ = some sv ∧ W.cell? ⟨b, off + j * 5 + 4, none⟩ = some (.int .i64 T[j].fin) ∧ RdV W sv T[j].sl

theorem RdV.no {W W' : World} {v : Value} {L : List V} (h : RdV W v L) (hk : Kept No W W') : RdV W' v L := by
  obtain ⟨ao, cap, e, h⟩ := h
  refine ⟨ao, cap, e, fun j hj => ?_⟩
  obtain ⟨b, off, e2, h1, h2⟩ := h j hj
  have hb : b < W.heap.size := by
    rcases Nat.lt_or_ge b W.heap.size with hb | hb
    · exact hb
    · simp [World.cell?, Array.getElem?_eq_none hb] at h1
  have e3 : ∀ o, W'.cell? ⟨b, o, none⟩ = W.cell? ⟨b, o, none⟩ := fun o => World.cell?_of_block (hk.block b hb id)
  exact ⟨b, off, e2, by rw [e3]; exact h1, by rw [e3]; exact h2⟩
theorem RdT.no {W W' : World} {v : Value} {T : List Th} (h : RdT W v T) (hk : Kept No W W') : RdT W' v T := by
  obtain ⟨ao, cap, e, h⟩ := h
  refine ⟨ao, cap, e, fun j hj => ?_⟩
  obtain ⟨b, off, sv, e2, h1, h2, h3, h4, h5, h6⟩ := h j hj
  have hb : b < W.heap.size := by
    rcases Nat.lt_or_ge b W.heap.size with hb | hb
    · exact hb
    · simp [World.cell?, Array.getElem?_eq_none hb] at h1
  have e3 : ∀ o, W'.cell? ⟨b, o, none⟩ = W.cell? ⟨b, o, none⟩ := fun o => World.cell?_of_block (hk.block b hb id)
  exact ⟨b, off, sv, e2, by rw [e3]; exact h1, by rw [e3]; exact h2, by rw [e3]; exact h3, by rw [e3]; exact h4, by rw [e3]; exact h5, h6.no hk⟩

/-- Is a type an object's? -/
def oT (t : Int) : Bool := decide (4 ≤ t) && decide (t ≤ 9)
/-- The kind of the thing at a place. -/
def kindAt (T : List Th) (i : Nat) : Int := (T[i]?.map Th.kind).getD (-1)
/-- Is a value an object? -/
def obj (T : List Th) (v : V) : Bool := oT v.1 && (decide (1 ≤ v.2) && (decide (v.2 ≤ (T.length : Int)) && decide (kindAt T (v.2.toNat - 1) = v.1)))
/-- .. and held weakly? -/
def held (T : List Th) (v : V) : Bool := !decide (v.1 = 4) && obj T v
/-- A weak table? -/
def isWk (t : Th) : Bool := decide (t.kind = 5) && (decide (1 ≤ t.weak) && decide (t.weak ≤ 3))

theorem objectType_any (t : Int) (w : World) : Calls Try.prog 44 #[.int .i64 t] w fun e w' => e = .returned (.bool (oT t)) ∧ w = w' := by
  unfold oT
  go_enter Try.func44, Try.ntmps44
  by_cases h1 : (4 : Int) ≤ t <;> by_cases h2 : t ≤ 9 <;> simp only [h1, h2, decide_true, decide_false, Bool.and_true, Bool.and_false, Bool.true_and, Bool.false_and] <;> (go_wp2; go_ret; exact ⟨rfl, rfl⟩)

theorem quiet_same {P : Program} {f : FuncId} {args : Array Value} {w : World} {n : Nat} {v : Value}
    (h : Calls P f args (w.drewN n) fun e w' => e = .returned v ∧ w.drewN n = w') : Calls P f args (w.drewN n) fun e w'' => e = .returned v ∧ ∃ m, w'' = w.drewN m :=
  h.mono fun _ _ ⟨he, hm⟩ => ⟨he, n, hm.symm⟩

set_option maxRecDepth 20000 in
set_option maxHeartbeats 2000000 in
theorem isObject_any {w : World} {tv : Value} {T : List Th} (hT : RdT w tv T) (hn : T.length ≤ 1000000) (v : V) :
    Calls Try.prog 41 #[tv, AV v] w fun e w' => e = .returned (.bool (obj T v)) ∧ Kept No w w' := by
  obtain ⟨t, n⟩ := v
  obtain ⟨W, HW⟩ : ∃ W, Hid (W = w.alloc (.cells #[.int .i64 t, .int .i64 n] 40)) := ⟨_, rfl⟩
  have HK : Hid (Kept No w W) := by show Kept _ _ _; rw [HW.out]; exact (Kept.refl _ _).alloc _
  have hb : W.heap[w.heap.size]? = some (.cells #[.int .i64 t, .int .i64 n] 40 (0, 0)) := by rw [HW.out]; exact World.alloc_heap_new w _
  have c0 : W.cell? ⟨w.heap.size, 0, none⟩ = some (.int .i64 t) := by rw [cell_of hb]; rfl
  have c1 : W.cell? ⟨w.heap.size, 1, none⟩ = some (.int .i64 n) := by rw [cell_of hb]; rfl
  obtain ⟨ao, cap, rfl, hC⟩ := hT.no HK.out
  clear hT
  have HT : Hid (∀ m, Calls Try.prog 44 #[.int .i64 t] (W.drewN m) fun e w' => e = .returned (.bool (oT t)) ∧ W.drewN m = w') := fun m => objectType_any t _
  clear hb
  go_enter Try.func41, Try.ntmps41
  go_wp2_with fail
  rw [← HW.out]
  clear HW
  by_cases h1 : oT t = true
  · rw [h1] at HT
    by_cases h2 : (1 : Int) ≤ n
    · by_cases h3 : n ≤ (T.length : Int)
      · obtain ⟨m, rfl⟩ : ∃ m : Nat, n = (m : Int) + 1 := ⟨(n - 1).toNat, by omega⟩
        obtain ⟨b, off, sv, rfl, k0, _⟩ := hC m (by omega)
        have ek : kindAt T ((m : Int) + 1 - 1).toNat = T[m].kind := by
          unfold kindAt
          rw [show ((m : Int) + 1 - 1).toNat = m by omega, List.getElem?_eq_getElem (by omega)]; rfl
        have e1 : (m : Int) + 1 - 1 = (m : Int) := by omega
        have hob : obj T (t, (m : Int) + 1) = decide (T[m].kind = t) := by
          unfold obj
          have ek2 : kindAt T (((m : Int) + 1).toNat - 1) = T[m].kind := by rw [show ((m : Int) + 1).toNat - 1 = ((m : Int) + 1 - 1).toNat by omega, ek]
          simp only [h1, h2, h3, ek2, decide_true, Bool.true_and]
        have hm : (m : Int) < T.length := by omega
        clear hC ek
        go_quiet (first | (go_at_call 44; exact quiet_same (HT.out _)))
        go_wp2
        refine bodyPost_ret (v := .bool (obj T (t, (m : Int) + 1))) (by rw [hob]; simp [results, Try.results41, go_sem]; by_cases hq : T[m].kind = t <;> simp [hq]) rfl ⟨by first | rfl | rw [hob], HK.out.drewN nq⟩
      · have hob : obj T (t, n) = false := by unfold obj; simp [h3]
        clear hC
        go_quiet (first | (go_at_call 44; exact quiet_same (HT.out _)))
        go_wp2
        refine bodyPost_ret (v := .bool (obj T (t, n))) (by rw [hob]; simp [results, Try.results41, go_sem]) rfl ⟨by first | rfl | rw [hob], HK.out.drewN nq⟩
    · have hob : obj T (t, n) = false := by unfold obj; simp [h2]
      clear hC
      go_quiet (first | (go_at_call 44; exact quiet_same (HT.out _)))
      go_wp2
      refine bodyPost_ret (v := .bool (obj T (t, n))) (by rw [hob]; simp [results, Try.results41, go_sem]) rfl ⟨by first | rfl | rw [hob], HK.out.drewN nq⟩
  · have h1' : oT t = false := by simpa using h1
    rw [h1'] at HT
    have hob : obj T (t, n) = false := by unfold obj; simp [h1']
    clear hC
    go_quiet (first | (go_at_call 44; exact quiet_same (HT.out _)))
    go_wp2
    refine bodyPost_ret (v := .bool (obj T (t, n))) (by rw [hob]; simp [results, Try.results41, go_sem]) rfl ⟨by first | rfl | rw [hob], HK.out.drewN nq⟩

theorem isObject_quiet {w : World} {tv : Value} {T : List Th} (hT : RdT w tv T) (hn : T.length ≤ 1000000) (v : V) :
    Calls Try.prog 41 #[tv, AV v] w fun e w' => e = .returned (.bool (obj T v)) ∧ Kept No w w' := isObject_any hT hn v

set_option maxRecDepth 20000 in
set_option maxHeartbeats 2000000 in
theorem heldWeakly_any {w : World} {tv : Value} {T : List Th} (hT : RdT w tv T) (hn : T.length ≤ 1000000) (v : V) :
    Calls Try.prog 65 #[tv, AV v] w fun e w' => e = .returned (.bool (held T v)) ∧ Kept No w w' := by
  obtain ⟨t, n⟩ := v
  have HT : Hid (RdT w tv T) := hT
  have HK : Hid (∀ o, Kept No w (w.alloc o)) := fun o => (Kept.refl _ _).alloc _
  clear hT
  by_cases h1 : t = 4
  · have hr : held T (t, n) = false := by unfold held; simp [h1]
    rw [hr]
    clear hr
    go_enter Try.func65, Try.ntmps65
    go_wp2
    refine bodyPost_ret (v := .bool false) (by simp [results, Try.results65, go_sem]) rfl ⟨rfl, HK.out _⟩
  · have hr : held T (t, n) = obj T (t, n) := by unfold held; simp [h1]
    rw [hr]
    clear hr
    go_enter Try.func65, Try.ntmps65
    go_wp2_with fail
    go_at_call 41
    refine (isObject_any (HT.out.no (HK.out _)) hn (t, n)).mono ?_
    rintro e w2 ⟨rfl, hk⟩
    go_wp2
    refine bodyPost_ret (v := .bool (obj T (t, n))) (by simp [results, Try.results65, go_sem]; exact fun _ => h1) rfl ⟨rfl, (HK.out _).trans hk⟩

set_option maxRecDepth 20000 in
set_option maxHeartbeats 2000000 in
theorem isWeak_any (t : Th) (sv : Value) (hs : sv.oneCell' = true) (w : World) :
    Calls Try.prog 51 #[AT t sv] w fun e w' => e = .returned (.bool (isWk t)) ∧ Kept No w w' := by
  obtain ⟨k, wk, ar, sl, fi⟩ := t
  have HK : Hid (∀ o, Kept No w (w.alloc o)) := fun o => (Kept.refl _ _).alloc _
  have he : isWk ⟨k, wk, ar, sl, fi⟩ = (decide (k = 5) && (decide (1 ≤ wk) && decide (wk ≤ 3))) := rfl
  rw [he]
  clear he
  by_cases h1 : k = 5
  · by_cases h2 : (1 : Int) ≤ wk
    · by_cases h3 : wk ≤ 3
      · simp only [h1, h2, h3, decide_true, decide_false, Bool.and_true, Bool.and_false, Bool.true_and, Bool.false_and]
        go_enter Try.func51, Try.ntmps51
        go_wp2
        refine bodyPost_ret (v := .bool true) (by simp [results, Try.results51, go_sem]) rfl ⟨rfl, HK.out _⟩
      · simp only [h1, h2, h3, decide_true, decide_false, Bool.and_true, Bool.and_false, Bool.true_and, Bool.false_and]
        go_enter Try.func51, Try.ntmps51
        go_wp2
        refine bodyPost_ret (v := .bool false) (by simp [results, Try.results51, go_sem]) rfl ⟨rfl, HK.out _⟩
    · simp only [h1, h2, decide_true, decide_false, Bool.and_true, Bool.and_false, Bool.true_and, Bool.false_and]
      go_enter Try.func51, Try.ntmps51
      go_wp2
      refine bodyPost_ret (v := .bool false) (by simp [results, Try.results51, go_sem]) rfl ⟨rfl, HK.out _⟩
  · simp only [h1, decide_true, decide_false, Bool.and_true, Bool.and_false, Bool.true_and, Bool.false_and]
    go_enter Try.func51, Try.ntmps51
    go_wp2
    refine bodyPost_ret (v := .bool false) (by simp [results, Try.results51, go_sem]) rfl ⟨rfl, HK.out _⟩
end Go.Proofs.Ytnofmpbdfcolfaa
