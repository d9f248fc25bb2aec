/- Next. -/
import Derived.Test.YthefmfjlinpepaaG5
namespace Go.Proofs.Ythefmfjlinpepaa
open Go.RowKit Go.Shelf
set_option linter.unusedSimpArgs false
set_option linter.unusedVariables false
attribute [local go_sem] Oper.semAt_some

theorem behR_rng (a n : Nat) (sl : Sl) (t x : Int) : 0 ≤ (behR a n sl t x).1 ∧ (behR a n sl t x).1 ≤ (a : Int) + 2 * (n : Int) := by
  unfold behR
  split
  · simp; omega
  · split
    · rcases findR_rng a n sl (kyT t x, kyN t x) with h | h <;> simp <;> omega
    · simp; omega

/-- The first of the entries, or nothing. -/
def fstE : List ((Int × Int) × (Int × Int)) → (Int × Int) × (Int × Int)
  | [] => ((0, 0), (0, 0))
  | e :: _ => e

structure NI (w : World) (P : Nat) (most : Int) (a n nn : Nat) (sl : Sl) (S Bs f : Nat) (W : World) : Prop where
  val : ValIs W P most a n nn sl Bs (Bs + 1) f
  r0 : W.heap[S + 1]? = some (.cells #[.int .i64 0, .int .i64 0] 33 (0, 0))
  r1 : W.heap[S + 2]? = some (.cells #[.int .i64 0, .int .i64 0] 33 (0, 0))
  r2 : W.heap[S + 3]? = some (.cells #[.int .i64 0] 44 (0, 0))
  kp : Kept No w W

set_option maxRecDepth 100000 in
set_option maxHeartbeats 4000000 in
theorem Next_some {w : World} {P : Nat} {most : Int} {a n nn : Nat} {sl : Sl} (h : Tb w P most a n nn sl) (hsl : ∀ i, I64 (sl i).2) (t x : Int) (hx : I64 x) (hb : (behR a n sl t x).2 = true) :
    Calls Try.prog 20 #[MI P, AV t x] w fun e w' => e = .returned (.tuple #[iV (fstE (ents a n sl (behR a n sl t x).1.toNat)).1, iV (fstE (ents a n sl (behR a n sl t x).1.toNat)).2, .int .i64 0]) ∧ Kept No w w' := by
  have hrr := behR_rng a n sl t x
  have hbd := h.bd
  have HT : Hid (Tb w P most a n nn sl) := h
  have HSl : Hid (∀ i, I64 (sl i).2) := hsl
  obtain ⟨W, HW⟩ : ∃ W, Hid (W = (((w.alloc (.cells #[.int .i64 t, .int .i64 x] 33)).alloc (.cells #[.int .i64 0, .int .i64 0] 33)).alloc (.cells #[.int .i64 0, .int .i64 0] 33)).alloc (.cells #[.int .i64 0] 44)) := ⟨_, rfl⟩
  have HK : Hid (Kept No w W) := by show Kept _ _ _; rw [HW.out]; exact ((((Kept.refl _ _).alloc _).alloc _).alloc _).alloc _
  have HBh := @behind_any W P most a n nn sl (h.no HK.out) t x hx
  obtain ⟨f, hf⟩ : ∃ f : Nat, (behR a n sl t x).1 = (f : Int) := ⟨(behR a n sl t x).1.toNat, by omega⟩
  rw [hb, hf] at HBh
  rw [hf] at hrr ⊢
  rw [Int.toNat_natCast]
  have hf6 : f ≤ 1000000 := by omega
  have HB : Hid (Calls Try.prog 45 #[MI P, AV t x] W fun e w' => e = .returned (.tuple #[.int .i64 (f : Int), .bool true]) ∧ Kept No W w') := HBh
  clear HBh hf hb hrr hx h hsl
  refine (callsIn_wide (n := 6)).1 ?_
  refine callsIn_of_wp_marks Try.func20 rfl trivial ?_ rfl
  simp only [Try.ntmps20, List.size_toArray, List.length_cons, List.length_nil, Nat.reduceAdd, Nat.reduceSub, Array.replicate_succ, Array.replicate_zero, List.push_toArray, List.append_toArray, List.nil_append, List.cons_append]
  gi_wp2_with fail
  rw [← HW.out]
  refine ⟨trivial, ?_⟩
  gi_at_call 45
  refine (callsIn_wide.2 HB.out).mono ?_
  rintro e W1 ⟨rfl, hk1⟩
  have HZ : Hid (W.heap.size = w.heap.size + 4) := by show _ = _; rw [HW.out]; simp
  have HR0 : Hid (W1.heap[w.heap.size + 1]? = some (.cells #[.int .i64 0, .int .i64 0] 33 (0, 0)) ∧ W1.heap[w.heap.size + 2]? = some (.cells #[.int .i64 0, .int .i64 0] 33 (0, 0)) ∧ W1.heap[w.heap.size + 3]? = some (.cells #[.int .i64 0] 44 (0, 0))) := by
    refine ⟨hk1.heap ?_ id, hk1.heap ?_ id, hk1.heap ?_ id⟩
    · rw [HW.out]; have := heap_new1 (w.alloc (.cells #[.int .i64 t, .int .i64 x] 33)) (.cells #[.int .i64 0, .int .i64 0] 33); rw [World.size_alloc] at this; exact heap_old (heap_old this _) _
    · rw [HW.out]; have := heap_new1 ((w.alloc (.cells #[.int .i64 t, .int .i64 x] 33)).alloc (.cells #[.int .i64 0, .int .i64 0] 33)) (.cells #[.int .i64 0, .int .i64 0] 33); simp only [World.size_alloc] at this; exact heap_old this _
    · rw [HW.out]; have := heap_new1 (((w.alloc (.cells #[.int .i64 t, .int .i64 x] 33)).alloc (.cells #[.int .i64 0, .int .i64 0] 33)).alloc (.cells #[.int .i64 0, .int .i64 0] 33)) (.cells #[.int .i64 0] 44); simp only [World.size_alloc] at this; exact this
  have HK1 : Hid (Kept No w W1) := HK.out.trans hk1
  have HZ1 : Hid (w.heap.size + 4 ≤ W1.heap.size) := by show _ ≤ _; rw [← HZ.out]; exact hk1.size
  clear hk1 HW HB HK HZ
  gi_wp2_with (refine ⟨trivial, ?_⟩; gi_at_call 46; refine (callsIn_wide.2 (entries_any _ rfl _ _)).mono ?_; rintro e w' ⟨rfl, rfl⟩)
  obtain ⟨W2, HW2⟩ : ∃ W2, Hid (W2 = (W1.alloc (.cells #[MI P] 81)).alloc (.cells #[.int .i64 (f : Int)] 3)) := ⟨_, rfl⟩
  rw [← HW2.out]
  have HZ2 : Hid (W2.heap.size = W1.heap.size + 2) := by show _ = _; rw [HW2.out]; simp
  have HK12 : Hid (Kept No W1 W2) := by show Kept _ _ _; rw [HW2.out]; exact ((Kept.refl _ _).alloc _).alloc _
  have HD1 : Hid (W2.heap[W1.heap.size]? = some (.cells #[MI P] 81 (0, 0))) := by show _ = _; rw [HW2.out]; exact heap_old (heap_new1 W1 _) _
  have HD2 : Hid (W2.heap[W1.heap.size + 1]? = some (.cells #[.int .i64 (f : Int)] 3 (0, 0))) := by
    show _ = _; rw [HW2.out]; have := heap_new1 (W1.alloc (.cells #[MI P] 81)) (.cells #[.int .i64 (f : Int)] 3); rw [World.size_alloc] at this; exact this
  clear HW2
  obtain ⟨L, HL⟩ : ∃ L, Hid (ents a n sl f = L) := ⟨_, show _ = _ from rfl⟩
  have HRn := entries_rounds 5 P (by omega) most a n nn sl HSl.out W1.heap.size (W1.heap.size + 1) f hf6 (fun j W => NI w P most a n nn sl w.heap.size W1.heap.size f W ∧ j = 0) (fun j W h => h.1.val)
  rw [HL.out] at HRn
  refine range_two (by decide) rfl (enters_of Try.func73 (by kernel_rfl) rfl) L (fun j W => NI w P most a n nn sl w.heap.size W1.heap.size f W ∧ j = 0)
    (fun _ W' => W'.heap[w.heap.size + 1]? = some (.cells #[.int .i64 (fstE L).1.1, .int .i64 (fstE L).1.2] 33 (0, 0)) ∧ W'.heap[w.heap.size + 2]? = some (.cells #[.int .i64 (fstE L).2.1, .int .i64 (fstE L).2.2] 33 (0, 0)) ∧ W'.heap[w.heap.size + 3]? = some (.cells #[.int .i64 0] 44 (0, 0)) ∧ Kept No w W')
    (fun k W3 W' h hl => ⟨⟨⟨hl.tb h.1.val.tb (fun q hq => by have := HT.out.fp (FP.kept HT.out.lt h.1.kp hq); have := HZ2.out; have := HZ1.out; omega), hl.cells h.1.val.bs, hl.cells h.1.val.bf⟩, hl.cells h.1.r0, hl.cells h.1.r1, hl.cells h.1.r2, Loose.kept h.1.kp hl (by have := HZ2.out; have := HZ1.out; omega)⟩, h.2⟩)
    (fun k W3 W' h hl => ⟨hl.cells h.1, hl.cells h.2.1, hl.cells h.2.2.1, Loose.kept h.2.2.2 hl (by have := HZ2.out; have := HZ1.out; omega)⟩) ?h0 HRn (fun e s => { tmps := #[MI P, AV t x, undef, Value.pointer (some { block := w.heap.size, off := 0 }), Value.pointer (some { block := w.heap.size + 1, off := 0 }), Value.pointer (some { block := w.heap.size + 1 + 1, off := 0 }), Value.pointer (some { block := w.heap.size + 1 + 1 + 1, off := 0 }), Value.int IntKind.i64 (f : Int), Value.bool true, Value.pointer (some { block := s, off := 0 }), Value.pointer (some { block := s + 1, off := 0 }), MI P, Value.bool false, undef, undef, Value.tuple #[Value.int IntKind.i64 (f : Int), Value.bool true], MI P, Value.agg #[Value.int IntKind.i64 t, Value.int IntKind.i64 x], Value.tuple #[Value.int IntKind.i64 (f : Int), Value.bool true], Value.int IntKind.i64 (f : Int), Value.bool true, Value.bool true, Value.bool false, undef, undef, MI P, Value.int IntKind.i64 (f : Int), Value.func (Fn.func 73) #[] #[Value.pointer (some { block := W1.heap.size, off := 0 }), Value.pointer (some { block := W1.heap.size + 1, off := 0 })], iV e.1, iV e.2, undef, undef, undef, undef], defers := [] }) ?assign ?body ?done ?stop
  case h0 =>
    have hk2 := HK1.out.trans HK12.out
    exact ⟨⟨⟨HT.out.no hk2, HD1.out, HD2.out⟩, HK12.out.heap HR0.out.1 id, HK12.out.heap HR0.out.2.1 id, HK12.out.heap HR0.out.2.2 id, hk2⟩, rfl⟩
  case assign =>
    intro l' e W' K hK
    unfold boxE at hK
    gi_wp2
    exact hK
  case body =>
    rintro l' j e W3 W' ⟨hI0, -⟩ ⟨hI, rfl⟩ he hl
    obtain ⟨⟨k1, k2⟩, v1, v2⟩ := e
    have HF : Hid (fstE L = ((k1, k2), (v1, v2))) := by
      show _ = _
      cases L with
      | nil => cases he
      | cons e0 L0 => simp at he; rw [he]; rfl
    have hz3 : w.heap.size + 4 < W3.heap.size := by have := hp_lt hI0.val.bf; have := HZ1.out; omega
    have q5 : W'.heap[W3.heap.size]? = some (.cells #[.int .i64 k1, .int .i64 k2] 33 (0, 0)) := hl.cells (heap_old (heap_new1 W3 _) _)
    have q6 : W'.heap[W3.heap.size + 1]? = some (.cells #[.int .i64 v1, .int .i64 v2] 33 (0, 0)) := by
      refine hl.cells ?_
      have := heap_new1 (W3.alloc (.cells #[.int .i64 k1, .int .i64 k2] 33)) (.cells #[.int .i64 v1, .int .i64 v2] 33); rw [World.size_alloc] at this; exact this
    generalize W3.heap.size = V at hz3 q5 q6 ⊢
    have HI : Hid (NI w P most a n nn sl w.heap.size W1.heap.size f W') := hI
    clear hI0 hI he hl HRn
    have SV : W'.drew.cell? ⟨V, 0, none⟩ = some (.int .i64 k1) ∧ W'.drew.cell? ⟨V, 1, none⟩ = some (.int .i64 k2) ∧ W'.drew.cell? ⟨V + 1, 0, none⟩ = some (.int .i64 v1) ∧ W'.drew.cell? ⟨V + 1, 1, none⟩ = some (.int .i64 v2) := by
      refine ⟨?_, ?_, ?_, ?_⟩
      · show W'.cell? _ = _; rw [cell_of q5]; rfl
      · show W'.cell? _ = _; rw [cell_of q5]; rfl
      · show W'.cell? _ = _; rw [cell_of q6]; rfl
      · show W'.cell? _ = _; rw [cell_of q6]; rfl
    gi_wp2_with fail
    refine region_round (S := fun w' => w'.cell? ⟨V, 0, none⟩ = some (.int .i64 k1) ∧ w'.cell? ⟨V, 1, none⟩ = some (.int .i64 k2) ∧ w'.cell? ⟨V + 1, 0, none⟩ = some (.int .i64 v1) ∧ w'.cell? ⟨V + 1, 1, none⟩ = some (.int .i64 v2)) (by kernel_rfl) (noDefer_spec (by kernel_rfl)) ?_ SV (fun hS => ?_)
    · rintro ⟨a', w', h⟩; exact h
    clear SV
    have hkd : Kept No W' W'.drew := (Kept.refl _ _).drew
    have r0 := hkd.heap HI.out.r0 id
    have r1 := hkd.heap HI.out.r1 id
    have r2 := hkd.heap HI.out.r2 id
    have p5 := hkd.heap q5 id
    have p6 := hkd.heap q6 id
    generalize W'.drew = W4 at hS hkd r0 r1 r2 p5 p6 ⊢
    refine wpAnyH_take (i := 0) (v := iV (k1, k2)) rfl (by kernel_rfl) (by kernel_rfl) (by kernel_rfl) (fun _ _ _ h => h) (Or.inl ⟨by kernel_rfl, ?_⟩) hS ?_
    · rintro w' ⟨g0, g1, g2, g3⟩; simp [go_sem, g0, g1]
    try simp only [Act.put, List.setIfInBounds_toArray, List.set_cons_zero, List.set_cons_succ, List.getElem_toArray, List.getElem_cons_zero, List.getElem_cons_succ]
    refine wpAnyH_take (i := 1) (v := iV (v1, v2)) rfl (by kernel_rfl) (by kernel_rfl) (by kernel_rfl) (fun _ _ _ h => h) (Or.inl ⟨by kernel_rfl, ?_⟩) hS ?_
    · rintro w' ⟨g0, g1, g2, g3⟩; simp [go_sem, g2, g3]
    try simp only [Act.put, List.setIfInBounds_toArray, List.set_cons_zero, List.set_cons_succ, List.getElem_toArray, List.getElem_cons_zero, List.getElem_cons_succ]
    have z0 : W4.cell? ⟨w.heap.size + 1, 0, none⟩ = some (.int .i64 0) := by rw [cell_of r0]; rfl
    have z1 : W4.cell? ⟨w.heap.size + 1, 1, none⟩ = some (.int .i64 0) := by rw [cell_of r0]; rfl
    have fz : ∀ o, W4.frozen? ⟨w.heap.size + 1, o, none⟩ = false := frozen_of r0
    refine wpAnyH_ready (rs := [2]) (by kernel_rfl) (by simp) ?_
    refine AllReadyH.cons rfl (fun K hK => ?_) AllReadyH.nil
    go_simp
    obtain ⟨W5, hW5⟩ : ∃ X, X = (W4.setCell ⟨w.heap.size + 1, 0, none⟩ (.int .i64 k1)).setCell ⟨w.heap.size + 1, 1, none⟩ (.int .i64 k2) := ⟨_, rfl⟩
    rw [← hW5]
    have r0a : W5.heap[w.heap.size + 1]? = some (.cells #[.int .i64 k1, .int .i64 k2] 33 (0, 0)) := by rw [hW5]; exact hp_set_same (hp_set_same r0 0 _) 1 _
    have r1a : W5.heap[w.heap.size + 2]? = some (.cells #[.int .i64 0, .int .i64 0] 33 (0, 0)) := by rw [hW5]; exact hp_set_other (hp_set_other r1 0 _ (by omega)) 1 _ (by omega)
    have r2a : W5.heap[w.heap.size + 3]? = some (.cells #[.int .i64 0] 44 (0, 0)) := by rw [hW5]; exact hp_set_other (hp_set_other r2 0 _ (by omega)) 1 _ (by omega)
    have p5a : W5.heap[V]? = some (.cells #[.int .i64 k1, .int .i64 k2] 33 (0, 0)) := by rw [hW5]; exact hp_set_other (hp_set_other p5 0 _ (by omega)) 1 _ (by omega)
    have p6a : W5.heap[V + 1]? = some (.cells #[.int .i64 v1, .int .i64 v2] 33 (0, 0)) := by rw [hW5]; exact hp_set_other (hp_set_other p6 0 _ (by omega)) 1 _ (by omega)
    have hSW5 : W5.cell? ⟨V, 0, none⟩ = some (.int .i64 k1) ∧ W5.cell? ⟨V, 1, none⟩ = some (.int .i64 k2) ∧ W5.cell? ⟨V + 1, 0, none⟩ = some (.int .i64 v1) ∧ W5.cell? ⟨V + 1, 1, none⟩ = some (.int .i64 v2) := by
      refine ⟨?_, ?_, ?_, ?_⟩
      · rw [cell_of p5a]; rfl
      · rw [cell_of p5a]; rfl
      · rw [cell_of p6a]; rfl
      · rw [cell_of p6a]; rfl
    have k5 : Kept (fun k => k = w.heap.size + 1 ∨ k = w.heap.size + 2 ∨ k = w.heap.size + 3) W' W5 := by rw [hW5]; exact (hkd.no.set _ 0 _ (.inl (.inl rfl))).set _ 1 _ (.inl (.inl rfl))
    have kw5 : Kept No w W5 := by rw [hW5]; exact ((HI.out.kp.trans hkd).set _ 0 _ (.inr (by omega))).set _ 1 _ (.inr (by omega))
    clear z0 z1 fz hW5 r0 r1 r2 p5 p6 hkd hS
    refine hK.out _ _ hSW5 (fun _ => ?_)
    clear hK
    try simp only [Act.put, List.setIfInBounds_toArray, List.set_cons_zero, List.set_cons_succ, List.getElem_toArray, List.getElem_cons_zero, List.getElem_cons_succ]
    have z0 : W5.cell? ⟨w.heap.size + 1 + 1, 0, none⟩ = some (.int .i64 0) := by rw [cell_of r1a]; rfl
    have z1 : W5.cell? ⟨w.heap.size + 1 + 1, 1, none⟩ = some (.int .i64 0) := by rw [cell_of r1a]; rfl
    have fz : ∀ o, W5.frozen? ⟨w.heap.size + 1 + 1, o, none⟩ = false := frozen_of r1a
    refine wpAnyH_ready (rs := [3]) (by kernel_rfl) (by simp) ?_
    refine AllReadyH.cons rfl (fun K hK => ?_) AllReadyH.nil
    go_simp
    obtain ⟨W6, hW6⟩ : ∃ X, X = (W5.setCell ⟨w.heap.size + 1 + 1, 0, none⟩ (.int .i64 v1)).setCell ⟨w.heap.size + 1 + 1, 1, none⟩ (.int .i64 v2) := ⟨_, rfl⟩
    rw [← hW6]
    have r0b : W6.heap[w.heap.size + 1]? = some (.cells #[.int .i64 k1, .int .i64 k2] 33 (0, 0)) := by rw [hW6]; exact hp_set_other (hp_set_other r0a 0 _ (by omega)) 1 _ (by omega)
    have r1b : W6.heap[w.heap.size + 2]? = some (.cells #[.int .i64 v1, .int .i64 v2] 33 (0, 0)) := by rw [hW6]; exact hp_set_same (hp_set_same r1a 0 _) 1 _
    have r2b : W6.heap[w.heap.size + 3]? = some (.cells #[.int .i64 0] 44 (0, 0)) := by rw [hW6]; exact hp_set_other (hp_set_other r2a 0 _ (by omega)) 1 _ (by omega)
    have p5b : W6.heap[V]? = some (.cells #[.int .i64 k1, .int .i64 k2] 33 (0, 0)) := by rw [hW6]; exact hp_set_other (hp_set_other p5a 0 _ (by omega)) 1 _ (by omega)
    have p6b : W6.heap[V + 1]? = some (.cells #[.int .i64 v1, .int .i64 v2] 33 (0, 0)) := by rw [hW6]; exact hp_set_other (hp_set_other p6a 0 _ (by omega)) 1 _ (by omega)
    have hSW6 : W6.cell? ⟨V, 0, none⟩ = some (.int .i64 k1) ∧ W6.cell? ⟨V, 1, none⟩ = some (.int .i64 k2) ∧ W6.cell? ⟨V + 1, 0, none⟩ = some (.int .i64 v1) ∧ W6.cell? ⟨V + 1, 1, none⟩ = some (.int .i64 v2) := by
      refine ⟨?_, ?_, ?_, ?_⟩
      · rw [cell_of p5b]; rfl
      · rw [cell_of p5b]; rfl
      · rw [cell_of p6b]; rfl
      · rw [cell_of p6b]; rfl
    have k6 : Kept (fun k => k = w.heap.size + 1 ∨ k = w.heap.size + 2 ∨ k = w.heap.size + 3) W' W6 := by rw [hW6]; exact (k5.set _ 0 _ (.inl (.inr (.inl rfl)))).set _ 1 _ (.inl (.inr (.inl rfl)))
    have kw6 : Kept No w W6 := by rw [hW6]; exact (kw5.set _ 0 _ (.inr (by omega))).set _ 1 _ (.inr (by omega))
    clear z0 z1 fz hW6 r0a r1a r2a p5a p6a hSW5
    refine hK.out _ _ hSW6 (fun _ => ?_)
    clear hK
    try simp only [Act.put, List.setIfInBounds_toArray, List.set_cons_zero, List.set_cons_succ, List.getElem_toArray, List.getElem_cons_zero, List.getElem_cons_succ]
    have z0 : W6.cell? ⟨w.heap.size + 1 + 1 + 1, 0, none⟩ = some (.int .i64 0) := by rw [cell_of r2b]; rfl
    have fz : ∀ o, W6.frozen? ⟨w.heap.size + 1 + 1 + 1, o, none⟩ = false := frozen_of r2b
    refine wpAnyH_ready (rs := [4]) (by kernel_rfl) (by simp) ?_
    refine AllReadyH.cons rfl (fun K hK => ?_) AllReadyH.nil
    go_simp
    obtain ⟨W7, hW7⟩ : ∃ X, X = W6.setCell ⟨w.heap.size + 1 + 1 + 1, 0, none⟩ (.int .i64 0) := ⟨_, rfl⟩
    rw [← hW7]
    have r0c : W7.heap[w.heap.size + 1]? = some (.cells #[.int .i64 k1, .int .i64 k2] 33 (0, 0)) := by rw [hW7]; exact hp_set_other r0b 0 _ (by omega)
    have r1c : W7.heap[w.heap.size + 2]? = some (.cells #[.int .i64 v1, .int .i64 v2] 33 (0, 0)) := by rw [hW7]; exact hp_set_other r1b 0 _ (by omega)
    have r2c : W7.heap[w.heap.size + 3]? = some (.cells #[.int .i64 0] 44 (0, 0)) := by rw [hW7]; exact hp_set_same r2b 0 _
    have p5c : W7.heap[V]? = some (.cells #[.int .i64 k1, .int .i64 k2] 33 (0, 0)) := by rw [hW7]; exact hp_set_other p5b 0 _ (by omega)
    have p6c : W7.heap[V + 1]? = some (.cells #[.int .i64 v1, .int .i64 v2] 33 (0, 0)) := by rw [hW7]; exact hp_set_other p6b 0 _ (by omega)
    have hSW7 : W7.cell? ⟨V, 0, none⟩ = some (.int .i64 k1) ∧ W7.cell? ⟨V, 1, none⟩ = some (.int .i64 k2) ∧ W7.cell? ⟨V + 1, 0, none⟩ = some (.int .i64 v1) ∧ W7.cell? ⟨V + 1, 1, none⟩ = some (.int .i64 v2) := by
      refine ⟨?_, ?_, ?_, ?_⟩
      · rw [cell_of p5c]; rfl
      · rw [cell_of p5c]; rfl
      · rw [cell_of p6c]; rfl
      · rw [cell_of p6c]; rfl
    have k7 : Kept (fun k => k = w.heap.size + 1 ∨ k = w.heap.size + 2 ∨ k = w.heap.size + 3) W' W7 := by rw [hW7]; exact k6.set _ 0 _ (.inl (.inr (.inr rfl)))
    have kw7 : Kept No w W7 := by rw [hW7]; exact kw6.set _ 0 _ (.inr (by omega))
    have HX : Hid (Still W2.heap.size W' W7 ∧ W7.heap[w.heap.size + 1]? = some (.cells #[.int .i64 (fstE L).1.1, .int .i64 (fstE L).1.2] 33 (0, 0)) ∧ W7.heap[w.heap.size + 2]? = some (.cells #[.int .i64 (fstE L).2.1, .int .i64 (fstE L).2.2] 33 (0, 0)) ∧ W7.heap[w.heap.size + 3]? = some (.cells #[.int .i64 0] 44 (0, 0)) ∧ Kept No w W7) := by
      rw [HF.out]
      exact ⟨Still.of_kept k7 (fun k hk => .inl (by have := HZ2.out; have := HZ1.out; omega)), r0c, r1c, r2c, kw7⟩
    clear z0 fz hW7 r0b r1b r2b p5b p6b hSW6 r0c r1c r2c p5c p6c k5 k6 k7 kw5 kw6 kw7
    refine hK.out _ _ hSW7 (fun _ => ?_)
    clear hK
    try simp only [Act.put, List.setIfInBounds_toArray, List.set_cons_zero, List.set_cons_succ, List.getElem_toArray, List.getElem_cons_zero, List.getElem_cons_succ]
    refine wpAnyH_done (by kernel_rfl) ?_ _
    gi_wp2_with fail
    exact HX.out
  case done =>
    rintro D W' hD ⟨hI, hj⟩ hK
    have hL : L = [] := List.eq_nil_of_length_eq_zero hj
    have hD' : w.heap.size + 4 ≤ D := by have := HZ2.out; have := HZ1.out; omega
    have HF : Hid (fstE (ents a n sl f) = ((0, 0), (0, 0))) := by show _ = _; rw [HL.out, hL]; rfl
    have c0 : W'.cell? ⟨w.heap.size + 1, 0, none⟩ = some (.int .i64 0) := by rw [cell_of hI.r0]; rfl
    have c1 : W'.cell? ⟨w.heap.size + 1, 1, none⟩ = some (.int .i64 0) := by rw [cell_of hI.r0]; rfl
    have c2 : W'.cell? ⟨w.heap.size + 1 + 1, 0, none⟩ = some (.int .i64 0) := by rw [cell_of hI.r1]; rfl
    have c3 : W'.cell? ⟨w.heap.size + 1 + 1, 1, none⟩ = some (.int .i64 0) := by rw [cell_of hI.r1]; rfl
    have c4 : W'.cell? ⟨w.heap.size + 1 + 1 + 1, 0, none⟩ = some (.int .i64 0) := by rw [cell_of hI.r2]; rfl
    have f0 : ∀ o, W'.frozen? ⟨w.heap.size + 1, o, none⟩ = false := frozen_of hI.r0
    have f1 : ∀ o, W'.frozen? ⟨w.heap.size + 1 + 1, o, none⟩ = false := frozen_of hI.r1
    have f2 : ∀ o, W'.frozen? ⟨w.heap.size + 1 + 1 + 1, o, none⟩ = false := frozen_of hI.r2
    have HI : Hid (NI w P most a n nn sl w.heap.size W1.heap.size f W') := hI
    clear hI HRn
    gi_wp2
    obtain ⟨X, hX⟩ : ∃ X, X = (((((W'.setCell ⟨w.heap.size + 1, 0, none⟩ (.int .i64 0)).setCell ⟨w.heap.size + 1, 1, none⟩ (.int .i64 0)).setCell ⟨w.heap.size + 1 + 1, 0, none⟩ (.int .i64 0)).setCell ⟨w.heap.size + 1 + 1, 1, none⟩ (.int .i64 0)).setCell ⟨w.heap.size + 1 + 1 + 1, 0, none⟩ (.int .i64 0)) := ⟨_, rfl⟩
    rw [← hX]
    have hKX : X.heap[D]? = some (.deferred (some [])) := by rw [hX]; exact hp_set_other (hp_set_other (hp_set_other (hp_set_other (hp_set_other hK 0 _ (by omega)) 1 _ (by omega)) 0 _ (by omega)) 1 _ (by omega)) 0 _ (by omega)
    have x0 : X.heap[w.heap.size + 1]? = some (.cells #[.int .i64 0, .int .i64 0] 33 (0, 0)) := by rw [hX]; exact hp_set_other (hp_set_other (hp_set_other (hp_set_same (hp_set_same HI.out.r0 0 _) 1 _) 0 _ (by omega)) 1 _ (by omega)) 0 _ (by omega)
    have x1 : X.heap[w.heap.size + 2]? = some (.cells #[.int .i64 0, .int .i64 0] 33 (0, 0)) := by rw [hX]; exact hp_set_other (hp_set_same (hp_set_same (hp_set_other (hp_set_other HI.out.r1 0 _ (by omega)) 1 _ (by omega)) 0 _) 1 _) 0 _ (by omega)
    have x2 : X.heap[w.heap.size + 3]? = some (.cells #[.int .i64 0] 44 (0, 0)) := by rw [hX]; exact hp_set_same (hp_set_other (hp_set_other (hp_set_other (hp_set_other HI.out.r2 0 _ (by omega)) 1 _ (by omega)) 0 _ (by omega)) 1 _ (by omega)) 0 _
    have kX : Kept No w X := by rw [hX]; exact ((((HI.out.kp.set _ 0 _ (.inr (by omega))).set _ 1 _ (.inr (by omega))).set _ 0 _ (.inr (by omega))).set _ 1 _ (.inr (by omega))).set _ 0 _ (.inr (by omega))
    clear hX c0 c1 c2 c3 c4 f0 f1 f2
    have o0 := (World.putObj_heap_other (w := X) (o := .deferred none) (show w.heap.size + 1 ≠ D by omega)).trans x0
    have o1 := (World.putObj_heap_other (w := X) (o := .deferred none) (show w.heap.size + 2 ≠ D by omega)).trans x1
    have o2 := (World.putObj_heap_other (w := X) (o := .deferred none) (show w.heap.size + 3 ≠ D by omega)).trans x2
    refine ⟨by simp, .inl ⟨_, _, rfl, run_takeDeferred hKX, ?_⟩⟩
    refine ⟨.tuple #[iV (0, 0), iV (0, 0), .int .i64 0], ?_, by rw [HF.out], kX.putObj _ (by omega)⟩
    have c0 := cell_of o0 0
    have c1 := cell_of o0 1
    have c2 := cell_of o1 0
    have c3 := cell_of o1 1
    have c4 := cell_of o2 0
    simp at c0 c1 c2 c3 c4
    simp [results, Try.f20, go_sem, c0, c1, c2, c3, c4, iV]
  case stop =>
    rintro D k W' hD ⟨x0, x1, x2, xk⟩ hK
    have hD' : w.heap.size + 4 ≤ D := by have := HZ2.out; have := HZ1.out; omega
    have o0 := (World.putObj_heap_other (w := W') (o := .deferred none) (show w.heap.size + 1 ≠ D by omega)).trans x0
    have o1 := (World.putObj_heap_other (w := W') (o := .deferred none) (show w.heap.size + 2 ≠ D by omega)).trans x1
    have o2 := (World.putObj_heap_other (w := W') (o := .deferred none) (show w.heap.size + 3 ≠ D by omega)).trans x2
    have HX : Hid (Kept No w W') := xk
    clear x0 x1 x2 xk HRn
    gi_wp2
    refine ⟨by simp, .inl ⟨_, _, rfl, run_takeDeferred hK, ?_⟩⟩
    refine ⟨.tuple #[iV (fstE L).1, iV (fstE L).2, .int .i64 0], ?_, by rw [HL.out], HX.out.putObj _ (by omega)⟩
    have c0 := cell_of o0 0
    have c1 := cell_of o0 1
    have c2 := cell_of o1 0
    have c3 := cell_of o1 1
    have c4 := cell_of o2 0
    simp at c0 c1 c2 c3 c4
    simp [results, Try.f20, go_sem, c0, c1, c2, c3, c4, iV]
end Go.Proofs.Ythefmfjlinpepaa
