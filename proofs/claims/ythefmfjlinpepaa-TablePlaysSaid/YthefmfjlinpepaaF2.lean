/- find. -/
import Derived.Test.YthefmfjlinpepaaF1
namespace Go.Proofs.Ythefmfjlinpepaa
open Go.RowKit Go.Shelf
set_option linter.unusedSimpArgs false
set_option linter.unusedVariables false
attribute [local go_sem] Oper.semAt_some

theorem arr1 {args : Array Value} (h : args.size = 1) : ∃ x, args = #[x] := by
  obtain ⟨l⟩ := args
  match l, h with
  | [x], _ => exact ⟨x, rfl⟩

/-- A range over a function with one variable. -/
theorem range_one {n : Nat} {P : Program} {g : Operand} {t1 : Tmp} {assign body : Code} {Q : Exit → Act → World → Prop} {a : Act} {w : World} (h1 : 1 ≤ n) {gf : Nat} {lb : Array Value}
    (hg : a.eval g = .func (.func gf) #[] lb) (eg : ∀ args w, (callFunc gf args).run P w = .ok (.enter gf args) w) (N : Nat) (Ev : Nat → Value)
    (I Ix : Nat → World → Prop) (tI : Tame w.heap.size I) (tIx : Tame w.heap.size Ix) (h0 : I 0 w) (hseq : Rounds Fence.wide (n - 1) P gf lb N (fun j W args => args = #[Ev j]) I) (mk : Value → Act)
    (hassign : ∀ (l : Nat) (x : Value) (W : World) (K : Act → World → Prop), K (mk x) W →
      assign.wpIn (Fence.wide.inRound l) (n - 1 - 1) P (Exit.then K (fun _ _ _ => False)) { tmps := a.tmps.setIfInBounds t1 x, defers := [] } W)
    (hbody : ∀ (l j : Nat) (W : World), I j W → j < N → body.wpIn (Fence.wide.inRound l) (n - 1 - 1) P (post w.heap.size I Ix j W) (mk (Ev j)) W)
    (hdone : ∀ (D : Nat) (W : World), w.heap.size ≤ D → I N W → W.heap[D]? = some (.deferred (some [])) → Q .normal { a with defers := { target := .collected D, args := #[] } :: a.defers } W)
    (hstop : ∀ (D k : Nat) (W : World), w.heap.size ≤ D → Ix k W → W.heap[D]? = some (.deferred (some [])) → Code.ret.wpIn Fence.wide n P Q { a with defers := { target := .collected D, args := #[] } :: a.defers } W) :
    (Code.rangeFunc g #[t1] assign body).wpIn Fence.wide n P Q a w := by
  refine range_at rfl h1 hg trivial eg N (fun j W args => args = #[Ev j]) ?_ ?_ I Ix tI tIx h0 hseq (fun args => mk (args.getD 0 undef)) ?_ ?_ hdone hstop
  · rintro k W args rfl; rfl
  · rintro k W W' args rfl hl; rfl
  · rintro l args W K hs hK
    obtain ⟨x, rfl⟩ := arr1 hs
    have := hassign l x W K hK
    simpa using this
  · rintro l k args W hi rfl hk
    exact hbody l k W hi hk

/-- Nodes that are passed by. -/
def passed (a n : Nat) (sl : Sl) (k : Int × Int) (j : Nat) : Prop := ∀ i, i < j → sl (wayN a n k i) ≠ k ∧ (sl (wayN a n k i)).1 ≠ 0
theorem fnd_at {a n : Nat} {sl : Sl} {k : Int × Int} : ∀ j, j ≤ n → passed a n sl k j → fnd a n sl k n 0 = fnd a n sl k (n - j) j
  | 0, _, _ => rfl
  | j + 1, hj, hp => by
    rw [fnd_at j (by omega) (fun i hi => hp i (by omega)), show n - j = (n - (j + 1)) + 1 by omega]
    have := hp j (by omega)
    simp only [fnd]
    rw [if_neg this.1, if_neg this.2]
theorem passed_succ {a n : Nat} {sl : Sl} {k : Int × Int} {j : Nat} (h : passed a n sl k j) (h1 : sl (wayN a n k j) ≠ k) (h2 : (sl (wayN a n k j)).1 ≠ 0) : passed a n sl k (j + 1) := by
  intro i hi
  by_cases e : i = j
  · subst e; exact ⟨h1, h2⟩
  · exact h i (by omega)

theorem FP.kept {w w' : World} {P k : Nat} (hP : P < w.heap.size) (hk : Kept No w w') (h : FP w' P k) : FP w P k := by
  rcases h with h | ⟨most, a, n, h⟩
  · exact Or.inl h
  · exact Or.inr ⟨most, a, n, by rw [← hk.block P hP id]; exact h⟩
theorem Tb.fp {w : World} {P : Nat} {most : Int} {a n nn : Nat} {sl : Sl} (h : Tb w P most a n nn sl) {k : Nat} (hk : FP w P k) : k < w.heap.size := by
  rcases hk with rfl | ⟨most', a', n', hk⟩
  · exact h.lt
  · obtain ⟨M, h1, h2, h3⟩ := h.ex
    rw [h1] at hk
    simp [mb] at hk
    obtain ⟨_, _, _, this⟩ := hk
    exact (h3 k this).lt

/-- While find goes on its way. -/
structure FI (w : World) (P : Nat) (most : Int) (a n nn : Nat) (sl : Sl) (k : Int × Int) (S Bs Bk : Nat) (j : Nat) (W : World) : Prop where
  way : WayIs W P most a n nn sl Bs Bk k
  fs : W.heap[S]? = some (.cells #[MI P] 81 (0, 0))
  fk : W.heap[S + 1]? = some (.cells #[.int .i64 k.1, .int .i64 k.2] 33 (0, 0))
  ra : W.heap[S + 1 + 1]? = some (.cells #[.int .i64 0] 3 (0, 0))
  rt : W.heap[S + 1 + 1 + 1]? = some (.cells #[.bool false] 4 (0, 0))
  kp : Kept No w W
  ps : passed a n sl k j

theorem FI.loose {w : World} {P : Nat} {most : Int} {a n nn : Nat} {sl : Sl} {k : Int × Int} {S Bs Bk j B : Nat} {W W' : World} (h : FI w P most a n nn sl k S Bs Bk j W) (ht : Tb w P most a n nn sl) (hB : w.heap.size ≤ B) (hl : Loose B W W') : FI w P most a n nn sl k S Bs Bk j W' :=
  ⟨⟨hl.tb h.way.tb (fun q hq => by have := ht.fp (FP.kept ht.lt h.kp hq); omega), hl.cells h.way.bs, hl.cells h.way.bk⟩, hl.cells h.fs, hl.cells h.fk, hl.cells h.ra, hl.cells h.rt, Loose.kept h.kp hl hB, h.ps⟩

/-- find has its answer. -/
structure FX (w : World) (S : Nat) (r : Int × Bool) (W : World) : Prop where
  ra : W.heap[S + 1 + 1]? = some (.cells #[.int .i64 r.1] 3 (0, 0))
  rt : W.heap[S + 1 + 1 + 1]? = some (.cells #[.bool r.2] 4 (0, 0))
  kp : Kept No w W
theorem FX.loose {w : World} {S B : Nat} {r : Int × Bool} {W W' : World} (h : FX w S r W) (hB : w.heap.size ≤ B) (hl : Loose B W W') : FX w S r W' :=
  ⟨hl.cells h.ra, hl.cells h.rt, Loose.kept h.kp hl hB⟩

theorem heap_new1 (w : World) (o : Obj) : (w.alloc o).heap[w.heap.size]? = some o := World.alloc_heap_new w o
theorem heap_old {w : World} {k : Nat} {x : Obj} (h : w.heap[k]? = some x) (o : Obj) : (w.alloc o).heap[k]? = some x := (Below.heap_alloc w o k (hp_lt h)).trans h

set_option maxRecDepth 100000 in
set_option maxHeartbeats 2000000 in
/-- A key with an array slot. -/
theorem find_arr {w : World} {P : Nat} {most : Int} {a n nn : Nat} {sl : Sl} (h : Tb w P most a n nn sl) (x : Int) (h1 : 1 ≤ x) (h2 : x ≤ (a : Int)) :
    Calls Try.prog 43 #[MI P, AV 2 x] w fun e w' => e = .returned (.tuple #[.int .i64 (x - 1), .bool true]) ∧ Kept No w w' := by
  have hb := h.bd
  have hmA := mArray P
  obtain ⟨W, HW⟩ : ∃ W, Hid (W = (((w.alloc (.cells #[MI P] 81)).alloc (.cells #[.int .i64 2, .int .i64 x] 33)).alloc (.cells #[.int .i64 0] 3)).alloc (.cells #[.bool false] 4)) := ⟨_, rfl⟩
  have HK : Hid (Kept No w W) := by show Kept _ _ _; rw [HW.out]; exact ((((Kept.refl _ _).alloc _).alloc _).alloc _).alloc _
  have HT : Hid (∀ m, Calls Try.prog 25 #[MP P] (W.drewN m) fun e w' => e = .returned (.int .i64 a) ∧ W.drewN m = w') := fun m => Array_any (h.no (HK.out.drewN m))
  have hlt := h.lt
  clear h
  have B0 : W.heap[w.heap.size]? = some (.cells #[MI P] 81 (0, 0)) := by rw [HW.out]; exact heap_old (heap_old (heap_old (heap_new1 w _) _) _) _
  have B1 : W.heap[w.heap.size + 1]? = some (.cells #[.int .i64 2, .int .i64 x] 33 (0, 0)) := by
    rw [HW.out]; have := heap_new1 (w.alloc (.cells #[MI P] 81)) (.cells #[.int .i64 2, .int .i64 x] 33); rw [World.size_alloc] at this; exact heap_old (heap_old this _) _
  have B2 : W.heap[w.heap.size + 1 + 1]? = some (.cells #[.int .i64 0] 3 (0, 0)) := by
    rw [HW.out]; have := heap_new1 ((w.alloc (.cells #[MI P] 81)).alloc (.cells #[.int .i64 2, .int .i64 x] 33)) (.cells #[.int .i64 0] 3); simp only [World.size_alloc] at this; exact heap_old this _
  have B3 : W.heap[w.heap.size + 1 + 1 + 1]? = some (.cells #[.bool false] 4 (0, 0)) := by
    rw [HW.out]; have := heap_new1 (((w.alloc (.cells #[MI P] 81)).alloc (.cells #[.int .i64 2, .int .i64 x] 33)).alloc (.cells #[.int .i64 0] 3)) (.cells #[.bool false] 4); simp only [World.size_alloc] at this; exact this
  have c0 : W.cell? ⟨w.heap.size, 0, none⟩ = some (MI P) := by rw [cell_of B0]; rfl
  have c1 : W.cell? ⟨w.heap.size + 1, 0, none⟩ = some (.int .i64 2) := by rw [cell_of B1]; rfl
  have c2 : W.cell? ⟨w.heap.size + 1, 1, none⟩ = some (.int .i64 x) := by rw [cell_of B1]; rfl
  have c3 : W.cell? ⟨w.heap.size + 1 + 1, 0, none⟩ = some (.int .i64 0) := by rw [cell_of B2]; rfl
  have c4 : W.cell? ⟨w.heap.size + 1 + 1 + 1, 0, none⟩ = some (.bool false) := by rw [cell_of B3]; rfl
  have f3 : ∀ j, W.frozen? ⟨w.heap.size + 1 + 1, j, none⟩ = false := frozen_of B2
  have f4 : ∀ j, W.frozen? ⟨w.heap.size + 1 + 1 + 1, j, none⟩ = false := frozen_of B3
  go_enter Try.func43, Try.ntmps43
  go_wp2_with fail
  rw [← HW.out]
  clear HW B0 B1 B2 B3
  go_quiet (first | (go_at_call 25; exact quiet_same (HT.out _)))
  go_wp2
  exact bodyPost_ret (v := .tuple #[.int .i64 (x - 1), .bool true]) (by simp [results, Try.results43, go_sem, c3, c4]) rfl ⟨rfl, ((HK.out.drewN nq).set _ 0 _ (.inr (by omega))).set _ 0 _ (.inr (by omega))⟩
end Go.Proofs.Ythefmfjlinpepaa
