/- Joined: D12 D13 D14 D15 D16. -/
import Derived.Test.YthefmfjlinpepaaDc
import Derived.Test.YthefmfjlinpepaaDa
import Derived.Test.YthefmfjlinpepaaNn
import Derived.Test.YthefmfjlinpepaaO0
import Derived.Test.YthefmfjlinpepaaC1
import Derived.Test.YthefmfjlinpepaaU2
/- Both tables side by side. -/
namespace Go.Proofs.Ythefmfjlinpepaa
open Go.RowKit Go.Shelf
set_option linter.unusedSimpArgs false
set_option linter.unusedVariables false

/-- Blocks of other kinds than the tables' are kept. -/
def Fx (W W' : World) : Prop := ∀ (q : Nat) (c : Array Value) (t : TypeId), W.heap[q]? = some (Obj.cells c t (0, 0)) → t ≠ 67 → t ≠ 29 → t ≠ 33 → t ≠ 78 → W'.heap[q]? = some (Obj.cells c t (0, 0))
theorem Fx.refl (W : World) : Fx W W := fun _ _ _ h _ _ _ _ => h
theorem Fx.trans {a b c : World} (h : Fx a b) (k : Fx b c) : Fx a c := fun q x t h1 h2 h3 h4 h5 => k q x t (h q x t h1 h2 h3 h4 h5) h2 h3 h4 h5
theorem Fx.no {W W' : World} (h : Kept No W W') : Fx W W' := fun q c t h1 _ _ _ _ => h.heap h1 id

/-- The program's table and the document's, both made since w. -/
structure DS (w W : World) (P Q : Nat) (most : Int) (a n : Nat) (sl : Sl) (a2 n2 : Nat) (sl2 : Sl) (b : Nat) : Prop where
  re : Re w W P most a n sl b
  rt : Rt W Q most a2 n2 sl2
  qf : ∀ k, RF W Q k → w.heap.size ≤ k
section
variable {w W W' : World} {P Q : Nat} {most : Int} {a n : Nat} {sl : Sl} {a2 n2 : Nat} {sl2 : Sl} {b : Nat}
theorem DS.no (h : DS w W P Q most a n sl a2 n2 sl2 b) (hk : Kept No W W') : DS w W' P Q most a n sl a2 n2 sl2 b :=
  ⟨h.re.no hk, h.rt.no hk, fun k hq => h.qf k (hq.no hk h.rt.lt)⟩
/-- The program's table turns. -/
theorem DS.own (h : DS w W P Q most a n sl a2 n2 sl2 b) {a' n' : Nat} {sl' : Sl} {b' : Nat} (hr : Re w W' P most a' n' sl' b') (ho : Own W P W') : DS w W' P Q most a' n' sl' a2 n2 sl2 b' ∧ Fx W W' := by
  obtain ⟨nn, _, ht⟩ := h.re.tb
  have hk : ∀ (q : Nat) (c : Array Value) (t : TypeId), W.heap[q]? = some (Obj.cells c t (0, 0)) → t ≠ 67 → W'.heap[q]? = some (Obj.cells c t (0, 0)) := fun q c t hq htt => ho.kp.heap hq (fun hf => by
    rcases ht.kinds q hf with ⟨c', e', f', h1, h2⟩ | ⟨es, c', h1⟩
    · rw [hq] at h1; cases h1; exact htt h2
    · rw [hq] at h1; cases h1)
  have hn : ∀ k, RF W Q k → ¬ FP W P k := fun k hq hf => by
    obtain ⟨c, e, h1, h2⟩ := h.rt.kinds k hq
    rcases ht.kinds k hf with ⟨c', e', f', h3, h4⟩ | ⟨es, c', h3⟩
    · rw [h1] at h3; cases h3; rcases h2 with e | e | e <;> rw [e] at h4 <;> exact absurd h4 (by decide)
    · rw [h1] at h3; cases h3
  refine ⟨⟨hr, h.rt.kept ho.kp hn, fun k hq => h.qf k ?_⟩, fun q c t h1 h2 _ _ _ => hk q c t h1 h2⟩
  rcases hq with rfl | ⟨vA, vL, m, e, h2⟩
  · exact .inl rfl
  · rw [ho.kp.block Q h.rt.lt (hn Q (.inl rfl))] at e; exact .inr ⟨_, _, _, e, h2⟩
/-- The document's table turns. -/
theorem DS.ownR (h : DS w W P Q most a n sl a2 n2 sl2 b) {a' n' : Nat} {sl' : Sl} (hr : Rt W' Q most a' n' sl') (ho : OwnR W Q W') : DS w W' P Q most a n sl a' n' sl' b ∧ Fx W W' := by
  obtain ⟨nn, hnn, ht⟩ := h.re.tb
  have hn : ∀ k, FP W P k → ¬ RF W Q k := fun k hf hq => by
    obtain ⟨c, e, h1, h2⟩ := h.rt.kinds k hq
    rcases ht.kinds k hf with ⟨c', e', f', h3, h4⟩ | ⟨es, c', h3⟩
    · rw [h1] at h3; cases h3; rcases h2 with e | e | e <;> rw [e] at h4 <;> exact absurd h4 (by decide)
    · rw [h1] at h3; cases h3
  refine ⟨⟨⟨⟨nn, hnn, ht.kept ho.kp hn⟩, fun k hf => h.re.fp k ?_, h.re.kp.trans' ho.kp (fun i hi => .inr (h.qf i hi)), h.re.is⟩, hr, fun k hq => ?_⟩, fun q c t h1 h2 h3 h4 h5 => ho.kp.heap h1 (fun hq => ?_)⟩
  · rcases hf with rfl | ⟨m', a1, n1, e⟩
    · exact .inl rfl
    · rw [ho.kp.block P ht.lt (hn P (.inl rfl))] at e; exact .inr ⟨_, _, _, e⟩
  · rcases ho.fp k hq with h1 | h1
    · exact h.qf k h1
    · exact Nat.le_trans h.re.kp.size h1
  · obtain ⟨c', e, h6, h7⟩ := h.rt.kinds q hq
    rw [h1] at h6; cases h6
    rcases h7 with e | e | e
    · exact h3 e
    · exact h4 e
    · exact h5 e

theorem DS.set (h : DS w W P Q most a n sl a2 n2 sl2 b) (hm : I64 most) (hb : b ≤ 900000) (hl : (ents a n sl 0).length ≤ 200) (k v : Int × Int) (hk : I64 k.2) (hv : I64 v.2) {e : Int} {a' n' : Nat} {sl' : Sl} (hs : setR most a n sl k v = (e, a', n', sl')) :
    Calls Try.prog 22 #[MI P, AV k.1 k.2, AV v.1 v.2] W fun r w' => r = .returned (.int .i64 e) ∧ DS w w' P Q most a' n' sl' a2 n2 sl2 (b + 500) ∧ Fx W w' := by
  obtain ⟨nn, hnn, ht⟩ := h.re.tb
  have hi := setR_i64 (most := most) ht.bd.1 ht.bd.2 h.re.is hk hv
  refine (Set_any ht (by omega) hm h.re.is hl k v hk).mono ?_
  rintro r w' ⟨rfl, ⟨nn', hn', ht'⟩, ho⟩
  rw [hs] at ht' hi ⊢
  exact ⟨rfl, h.own (h.re.own ho ht' (by omega) hi) ho⟩
theorem DS.setR (h : DS w W P Q most a n sl a2 n2 sl2 b) (hv' : Nv a2 n2 sl2) (hs2 : I64s sl2) (hl : (ents a2 n2 sl2 0).length ≤ 200) (k v : Int × Int) (hk : I64 k.2) (hv : I64 v.2) {e : Int} {a' n' : Nat} {sl' : Sl} (hs : setR most a2 n2 sl2 k v = (e, a', n', sl')) :
    Calls Try.prog 35 #[RP Q, HV, AV k.1 k.2, AV v.1 v.2] W fun r w' => r = .returned (.int .i64 e) ∧ DS w w' P Q most a n sl a' n' sl' b ∧ Fx W w' := by
  refine (RSet_any h.rt hv' hs2 hl k.1 k.2 v.1 v.2 hk hv hs).mono ?_
  rintro r w' ⟨rfl, hr, ho⟩
  exact ⟨rfl, h.ownR hr ho⟩
theorem killR_i64 (ha : a ≤ 100000) (hn : n ≤ 100000) (hs : I64s sl) (i : Int) : I64s (killR a n sl i) := by
  unfold killR
  cases hv : vpB a n i
  · exact hs
  · have hr := vpB_rng hv
    rw [if_pos rfl]
    split
    · refine sput_i64 (sput_i64 hs ⟨by decide, by decide⟩) ?_
      unfold keyAt
      split
      · show I64 (i + 1)
        constructor <;> omega
      · exact sput_i64 hs ⟨by decide, by decide⟩ _
    · exact sput_i64 hs ⟨by decide, by decide⟩
theorem DS.kill (h : DS w W P Q most a n sl a2 n2 sl2 b) (hb : b ≤ 900000) (i : Int) (hi : I64 i) :
    Calls Try.prog 30 #[MI P, .int .i64 i] W fun r w' => r = .returned (.tuple #[]) ∧ DS w w' P Q most a n (killR a n sl i) a2 n2 sl2 (b + 500) ∧ Fx W w' := by
  obtain ⟨nn, hnn, ht⟩ := h.re.tb
  have h64 := killR_i64 ht.bd.1 ht.bd.2 h.re.is i
  refine (Kill_any ht (by omega) i hi).mono ?_
  rintro r w' ⟨rfl, ⟨nn', hn', ht'⟩, ho⟩
  exact ⟨rfl, h.own (h.re.own ho ht' (by omega) h64) ho⟩
theorem DS.killR (h : DS w W P Q most a n sl a2 n2 sl2 b) (i : Int) (hi : I64 i) :
    Calls Try.prog 38 #[RP Q, .int .i64 i] W fun r w' => r = .returned (.tuple #[]) ∧ DS w w' P Q most a n sl a2 n2 (killR a2 n2 sl2 i) b ∧ Fx W w' := by
  refine (RKill_any h.rt i hi).mono ?_
  rintro r w' ⟨rfl, hr, ho⟩
  exact ⟨rfl, h.ownR hr ho⟩
end
end Go.Proofs.Ythefmfjlinpepaa

/- The law's do. -/
namespace Go.Proofs.Ythefmfjlinpepaa
open Go.RowKit Go.Shelf
set_option linter.unusedSimpArgs false
set_option linter.unusedVariables false
attribute [local go_sem] Oper.semAt_some

theorem no_any2 (n : Int) (w : World) : Calls Try.prog 21 #[.int .i64 n] w fun e w' => e = .returned (.int .i64 n) ∧ w = w' := (no_any n w).mono (fun _ _ h => ⟨h.1, h.2.symm⟩)
theorem DS.more {w W : World} {P Q : Nat} {most : Int} {a n : Nat} {sl : Sl} {a2 n2 : Nat} {sl2 : Sl} {b c : Nat} (h : DS w W P Q most a n sl a2 n2 sl2 b) : DS w W P Q most a n sl a2 n2 sl2 (b + c) := by
  obtain ⟨nn, hnn, ht⟩ := h.re.tb
  exact ⟨⟨⟨nn, by omega, ht⟩, h.re.fp, h.re.kp, h.re.is⟩, h.rt, h.qf⟩
/-- What a call makes of a table. -/
def stepD (most : Int) (s : Nat × Nat × Sl) (x : Ac) : Nat × Nat × Sl :=
  if x.kind = 1 then (setR most s.1 s.2.1 s.2.2 x.k x.v).2 else if x.kind = 4 then (s.1, s.2.1, killR s.1 s.2.1 s.2.2 x.i) else s

set_option maxRecDepth 20000 in
set_option maxHeartbeats 4000000 in
theorem do_any {w W : World} {P Q : Nat} {most : Int} {a n : Nat} {sl : Sl} {b : Nat} (h : DS w W P Q most a n sl a n sl b) (hm : I64 most) (hb : b ≤ 800000) (hl : (ents a n sl 0).length ≤ 200) (hv : Nv a n sl) (kd k1 k2 v1 v2 i : Int) (hx1 : I64 k2) (hx2 : I64 v2) (hx3 : I64 i) :
    Calls Try.prog 14 #[MP P, RP Q, .agg #[.int .i64 kd, .int .i64 k1, .int .i64 k2, .int .i64 v1, .int .i64 v2, .int .i64 i]] W fun e w' => e = .returned (.bool true) ∧ ∃ a' n' sl', stepD most (a, n, sl) ⟨kd, (k1, k2), (v1, v2), i⟩ = (a', n', sl') ∧ DS w w' P Q most a' n' sl' a' n' sl' (b + 500) := by
  obtain ⟨W0, HW0⟩ : ∃ W0, Hid (W0 = (W.alloc (.cells #[.int .i64 kd, .int .i64 k1, .int .i64 k2, .int .i64 v1, .int .i64 v2, .int .i64 i] 35)).alloc (.cells #[.bool false, .slice none 0 0] 70)) := ⟨_, show _ = _ from rfl⟩
  have HK0 : Hid (Kept No W W0) := by rw [HW0.out]; exact ((Kept.refl _ _).alloc _).alloc _
  have HDS0 : Hid (DS w W0 P Q most a n sl a n sl b) := h.no HK0.out
  have HCl : Hid (∀ W', Fx W0 W' → (W'.cell? ⟨W.heap.size, 0, none⟩ = some (.int .i64 kd) ∧ W'.cell? ⟨W.heap.size, 1, none⟩ = some (.int .i64 k1) ∧ W'.cell? ⟨W.heap.size, 2, none⟩ = some (.int .i64 k2) ∧ W'.cell? ⟨W.heap.size, 3, none⟩ = some (.int .i64 v1) ∧ W'.cell? ⟨W.heap.size, 4, none⟩ = some (.int .i64 v2) ∧ W'.cell? ⟨W.heap.size, 5, none⟩ = some (.int .i64 i)) ∧ W'.cell? ⟨W.heap.size + 1, 0, none⟩ = some (.bool false) ∧ W'.cell? ⟨W.heap.size + 1, 1, none⟩ = some (.slice none 0 0)) := by
    intro W' hF
    have b0 : W0.heap[W.heap.size]? = some (.cells #[.int .i64 kd, .int .i64 k1, .int .i64 k2, .int .i64 v1, .int .i64 v2, .int .i64 i] 35 (0, 0)) := by rw [HW0.out]; exact heap_old (heap_new1 W _) _
    have b1 : W0.heap[W.heap.size + 1]? = some (.cells #[.bool false, .slice none 0 0] 70 (0, 0)) := by
      rw [HW0.out]; have := heap_new1 (W.alloc (.cells #[.int .i64 kd, .int .i64 k1, .int .i64 k2, .int .i64 v1, .int .i64 v2, .int .i64 i] 35)) (.cells #[.bool false, .slice none 0 0] 70); simp only [World.size_alloc] at this; exact this
    have d0 := hF _ _ _ b0 (by decide) (by decide) (by decide) (by decide)
    have d1 := hF _ _ _ b1 (by decide) (by decide) (by decide) (by decide)
    exact ⟨⟨by rw [cell_of d0]; rfl, by rw [cell_of d0]; rfl, by rw [cell_of d0]; rfl, by rw [cell_of d0]; rfl, by rw [cell_of d0]; rfl, by rw [cell_of d0]; rfl⟩, by rw [cell_of d1]; rfl, by rw [cell_of d1]; rfl⟩
  obtain ⟨⟨c0, c1, c2, c3, c4, c5⟩, c6, c7⟩ := HCl.out W0 (Fx.refl _)
  have HLen : Hid ((ents a n sl 0).length ≤ 200) := hl
  have HNv : Hid (Nv a n sl) := hv
  clear hl hv h
  by_cases h1 : kd = 1
  · subst h1
    obtain ⟨er, a', n', sl', hs⟩ : ∃ er a' n' sl', setR most a n sl (k1, k2) (v1, v2) = (er, a', n', sl') := ⟨_, _, _, _, rfl⟩
    have HSt : Hid (stepD most (a, n, sl) ⟨1, (k1, k2), (v1, v2), i⟩ = (a', n', sl')) := by show _ = _; unfold stepD; rw [if_pos rfl]; simp only; rw [hs]
    have HLaw22 : Hid (∀ W' a2 n2 sl2, DS w W' P Q most a n sl a2 n2 sl2 b → Calls Try.prog 22 #[MI P, AV k1 k2, AV v1 v2] W' fun r w' => r = .returned (.int .i64 er) ∧ DS w w' P Q most a' n' sl' a2 n2 sl2 (b + 500) ∧ Fx W' w') := fun W' a2 n2 sl2 hd => hd.set hm (by omega) HLen.out (k1, k2) (v1, v2) hx1 hx2 hs
    have HLaw35 : Hid (∀ W' a1 n1 sl1 b', DS w W' P Q most a1 n1 sl1 a n sl b' → Calls Try.prog 35 #[RP Q, HV, AV k1 k2, AV v1 v2] W' fun r w' => r = .returned (.int .i64 er) ∧ DS w w' P Q most a1 n1 sl1 a' n' sl' b' ∧ Fx W' w') := fun W' a1 n1 sl1 b' hd => hd.setR HNv.out HDS0.out.re.is HLen.out (k1, k2) (v1, v2) hx1 hx2 hs
    clear hs
    go_enter Try.func14, Try.ntmps14
    go_wp2_with fail
    rw [← HW0.out]
    clear c0 c1 c2 c3 c4 c5 c6 c7
    refine wp_region_held (S := fun w' => Fx W0 w') (by kernel_rfl) ?_
    show wpAnyH _ _ _ _ _ _ _ _ W0.drew
    generalize hV3 : W0.drew = V0
    have HFr : Hid (Fx W0 V0) := by rw [← hV3]; exact Fx.no (Kept.refl No _).drew
    have HD0 : Hid (DS w V0 P Q most a n sl a n sl b) := by rw [← hV3]; exact HDS0.out.no (Kept.refl No _).drew
    clear hV3
    refine wpAnyH_take (i := 0) (v := MP P) rfl (by kernel_rfl) (by kernel_rfl) (by kernel_rfl) (fun _ _ _ h => h) (Or.inl ⟨by kernel_rfl, ?_⟩) HFr.out ?_
    · intro w' _; simp [go_sem]
    try simp only [Act.put, List.setIfInBounds_toArray, List.set_cons_zero, List.set_cons_succ, List.getElem_toArray, List.getElem_cons_zero, List.getElem_cons_succ]
    refine wpAnyH_take (i := 1) (v := MI P) rfl (by kernel_rfl) (by kernel_rfl) (by kernel_rfl) (fun _ _ _ h => h) (Or.inl ⟨by kernel_rfl, ?_⟩) HFr.out ?_
    · intro w' _; simp [go_sem]
    try simp only [Act.put, List.setIfInBounds_toArray, List.set_cons_zero, List.set_cons_succ, List.getElem_toArray, List.getElem_cons_zero, List.getElem_cons_succ]
    refine wpAnyH_take (i := 2) (v := .pointer (some ⟨W.heap.size, 1, none⟩)) rfl (by kernel_rfl) (by kernel_rfl) (by kernel_rfl) (fun _ _ _ h => h) (Or.inl ⟨by kernel_rfl, ?_⟩) HFr.out ?_
    · intro w' _; simp [go_sem]
    try simp only [Act.put, List.setIfInBounds_toArray, List.set_cons_zero, List.set_cons_succ, List.getElem_toArray, List.getElem_cons_zero, List.getElem_cons_succ]
    refine wpAnyH_take (i := 3) (v := AV k1 k2) rfl (by kernel_rfl) (by kernel_rfl) (by kernel_rfl) (fun _ _ _ h => h) (Or.inl ⟨by kernel_rfl, ?_⟩) HFr.out ?_
    · intro w' hW; obtain ⟨⟨d0, d1, d2, d3, d4, d5⟩, d6, d7⟩ := HCl.out w' hW; simp [go_sem, d1, d2]
    try simp only [Act.put, List.setIfInBounds_toArray, List.set_cons_zero, List.set_cons_succ, List.getElem_toArray, List.getElem_cons_zero, List.getElem_cons_succ]
    refine wpAnyH_take (i := 4) (v := .pointer (some ⟨W.heap.size, 3, none⟩)) rfl (by kernel_rfl) (by kernel_rfl) (by kernel_rfl) (fun _ _ _ h => h) (Or.inl ⟨by kernel_rfl, ?_⟩) HFr.out ?_
    · intro w' _; simp [go_sem]
    try simp only [Act.put, List.setIfInBounds_toArray, List.set_cons_zero, List.set_cons_succ, List.getElem_toArray, List.getElem_cons_zero, List.getElem_cons_succ]
    refine wpAnyH_take (i := 5) (v := AV v1 v2) rfl (by kernel_rfl) (by kernel_rfl) (by kernel_rfl) (fun _ _ _ h => h) (Or.inl ⟨by kernel_rfl, ?_⟩) HFr.out ?_
    · intro w' hW; obtain ⟨⟨d0, d1, d2, d3, d4, d5⟩, d6, d7⟩ := HCl.out w' hW; simp [go_sem, d3, d4]
    try simp only [Act.put, List.setIfInBounds_toArray, List.set_cons_zero, List.set_cons_succ, List.getElem_toArray, List.getElem_cons_zero, List.getElem_cons_succ]
    refine wpAnyH_take (i := 8) (v := RP Q) rfl (by kernel_rfl) (by kernel_rfl) (by kernel_rfl) (fun _ _ _ h => h) (Or.inl ⟨by kernel_rfl, ?_⟩) HFr.out ?_
    · intro w' _; simp [go_sem]
    try simp only [Act.put, List.setIfInBounds_toArray, List.set_cons_zero, List.set_cons_succ, List.getElem_toArray, List.getElem_cons_zero, List.getElem_cons_succ]
    refine wpAnyH_take (i := 9) (v := HV) rfl (by kernel_rfl) (by kernel_rfl) (by kernel_rfl) (fun _ _ _ h => h) (Or.inl ⟨by kernel_rfl, ?_⟩) HFr.out ?_
    · intro w' hW; obtain ⟨⟨d0, d1, d2, d3, d4, d5⟩, d6, d7⟩ := HCl.out w' hW; simp [go_sem, d6, d7]
    try simp only [Act.put, List.setIfInBounds_toArray, List.set_cons_zero, List.set_cons_succ, List.getElem_toArray, List.getElem_cons_zero, List.getElem_cons_succ]
    refine wpAnyH_take (i := 10) (v := .pointer (some ⟨W.heap.size, 1, none⟩)) rfl (by kernel_rfl) (by kernel_rfl) (by kernel_rfl) (fun _ _ _ h => h) (Or.inl ⟨by kernel_rfl, ?_⟩) HFr.out ?_
    · intro w' _; simp [go_sem]
    try simp only [Act.put, List.setIfInBounds_toArray, List.set_cons_zero, List.set_cons_succ, List.getElem_toArray, List.getElem_cons_zero, List.getElem_cons_succ]
    refine wpAnyH_take (i := 11) (v := AV k1 k2) rfl (by kernel_rfl) (by kernel_rfl) (by kernel_rfl) (fun _ _ _ h => h) (Or.inl ⟨by kernel_rfl, ?_⟩) HFr.out ?_
    · intro w' hW; obtain ⟨⟨d0, d1, d2, d3, d4, d5⟩, d6, d7⟩ := HCl.out w' hW; simp [go_sem, d1, d2]
    try simp only [Act.put, List.setIfInBounds_toArray, List.set_cons_zero, List.set_cons_succ, List.getElem_toArray, List.getElem_cons_zero, List.getElem_cons_succ]
    refine wpAnyH_take (i := 12) (v := .pointer (some ⟨W.heap.size, 3, none⟩)) rfl (by kernel_rfl) (by kernel_rfl) (by kernel_rfl) (fun _ _ _ h => h) (Or.inl ⟨by kernel_rfl, ?_⟩) HFr.out ?_
    · intro w' _; simp [go_sem]
    try simp only [Act.put, List.setIfInBounds_toArray, List.set_cons_zero, List.set_cons_succ, List.getElem_toArray, List.getElem_cons_zero, List.getElem_cons_succ]
    refine wpAnyH_take (i := 13) (v := AV v1 v2) rfl (by kernel_rfl) (by kernel_rfl) (by kernel_rfl) (fun _ _ _ h => h) (Or.inl ⟨by kernel_rfl, ?_⟩) HFr.out ?_
    · intro w' hW; obtain ⟨⟨d0, d1, d2, d3, d4, d5⟩, d6, d7⟩ := HCl.out w' hW; simp [go_sem, d3, d4]
    try simp only [Act.put, List.setIfInBounds_toArray, List.set_cons_zero, List.set_cons_succ, List.getElem_toArray, List.getElem_cons_zero, List.getElem_cons_succ]
    refine wpAnyH_ready (rs := [6]) (by kernel_rfl) (by simp) ?_
    refine AllReadyH.cons rfl (fun K hK => ?_) AllReadyH.nil
    go_simp
    refine (HLaw22.out _ _ _ _ HD0.out).mono ?_
    rintro e V1 ⟨rfl, hd, hf⟩
    have D1 : Hid (DS w V1 P Q most a' n' sl' a n sl (b + 500)) := hd
    have F1 : Hid (Fx W0 V1) := HFr.out.trans hf
    clear hd hf
    refine hK.out _ _ F1.out (fun _ => ?_)
    clear hK
    try simp only [Act.put, List.setIfInBounds_toArray, List.set_cons_zero, List.set_cons_succ, List.getElem_toArray, List.getElem_cons_zero, List.getElem_cons_succ]
    refine wpAnyH_ready (rs := [7]) (by kernel_rfl) (by simp) ?_
    refine AllReadyH.cons rfl (fun K hK => ?_) AllReadyH.nil
    go_simp
    refine (no_any2 er _).mono ?_
    rintro e ww ⟨rfl, rfl⟩
    refine hK.out _ _ F1.out (fun _ => ?_)
    clear hK
    try simp only [Act.put, List.setIfInBounds_toArray, List.set_cons_zero, List.set_cons_succ, List.getElem_toArray, List.getElem_cons_zero, List.getElem_cons_succ]
    refine wpAnyH_ready (rs := [14]) (by kernel_rfl) (by simp) ?_
    refine AllReadyH.cons rfl (fun K hK => ?_) AllReadyH.nil
    go_simp
    refine (HLaw35.out _ _ _ _ _ D1.out).mono ?_
    rintro e V2 ⟨rfl, hd, hf⟩
    have D2 : Hid (DS w V2 P Q most a' n' sl' a' n' sl' (b + 500)) := hd
    have F2 : Hid (Fx W0 V2) := F1.out.trans hf
    clear hd hf
    refine hK.out _ _ F2.out (fun _ => ?_)
    clear hK
    try simp only [Act.put, List.setIfInBounds_toArray, List.set_cons_zero, List.set_cons_succ, List.getElem_toArray, List.getElem_cons_zero, List.getElem_cons_succ]
    refine wpAnyH_take (i := 15) (v := .bool true) rfl (by kernel_rfl) (by kernel_rfl) (by kernel_rfl) (fun _ _ _ h => h) (Or.inl ⟨by kernel_rfl, ?_⟩) F2.out ?_
    · intro w' _; simp [go_sem]
    try simp only [Act.put, List.setIfInBounds_toArray, List.set_cons_zero, List.set_cons_succ, List.getElem_toArray, List.getElem_cons_zero, List.getElem_cons_succ]
    refine wpAnyH_take (i := 16) (v := .bool true) rfl (by kernel_rfl) (by kernel_rfl) (by kernel_rfl) (fun _ _ _ h => h) (Or.inl ⟨by kernel_rfl, ?_⟩) F2.out ?_
    · intro w' _; simp [go_sem]
    try simp only [Act.put, List.setIfInBounds_toArray, List.set_cons_zero, List.set_cons_succ, List.getElem_toArray, List.getElem_cons_zero, List.getElem_cons_succ]
    refine wpAnyH_done (by kernel_rfl) ?_ _
    go_wp2
    go_ret
    exact ⟨rfl, _, _, _, HSt.out, D2.out⟩
  · have h1' : (kd == 1) = false := by simpa using h1
    by_cases h2 : kd = 2
    · subst h2
      have HSt : Hid (stepD most (a, n, sl) ⟨2, (k1, k2), (v1, v2), i⟩ = (a, n, sl)) := by show _ = _; unfold stepD; rw [if_neg (by show ¬ (2 : Int) = 1; decide), if_neg (by show ¬ (2 : Int) = 4; decide)]
      obtain ⟨gg, HG⟩ : ∃ gg, Hid (getR a n sl k1 k2 = gg) := ⟨_, show _ = _ from rfl⟩
      have HG36 : Hid (∀ W', Kept No W0 W' → Calls Try.prog 36 #[RP Q, HV, AV k1 k2] W' fun e w' => e = .returned (iV gg) ∧ Kept No W' w') := fun W' hW => by
        have := RGet_any (HDS0.out.no hW).rt k1 k2 hx1
        rw [HG.out] at this; exact this
      have heq : ∀ w, (Op.equalIn 10000 33 (iV gg) (iV gg)).run Try.prog w = .ok true w := fun w => (eq33 gg.1 gg.2 gg.1 gg.2 w).trans (by simp)
      go_enter Try.func14, Try.ntmps14
      go_wp2_with fail
      rw [← HW0.out]
      clear c0 c1 c2 c3 c4 c5 c6 c7
      refine region_quiet_class (C := fun W' => Kept No W0 W') (by kernel_rfl) (by kernel_rfl) ((Kept.refl _ _).drew) ?_
      refine q_op (MP P) (by kernel_rfl) (fun W' hW => by simp [go_sem]) ?_
      try simp only [Act.put, List.setIfInBounds_toArray, List.set_cons_zero, List.set_cons_succ]
      refine q_op (MI P) (by kernel_rfl) (fun W' hW => by simp [go_sem]) ?_
      try simp only [Act.put, List.setIfInBounds_toArray, List.set_cons_zero, List.set_cons_succ]
      refine q_op (.pointer (some ⟨W.heap.size, 1, none⟩)) (by kernel_rfl) (fun W' hW => by simp [go_sem]) ?_
      try simp only [Act.put, List.setIfInBounds_toArray, List.set_cons_zero, List.set_cons_succ]
      refine q_op (AV k1 k2) (by kernel_rfl) (fun W' hW => by obtain ⟨⟨d0, d1, d2, d3, d4, d5⟩, d6, d7⟩ := HCl.out W' (Fx.no hW); simp [go_sem, d1, d2]) ?_
      try simp only [Act.put, List.setIfInBounds_toArray, List.set_cons_zero, List.set_cons_succ]
      refine q_call 19 #[MI P, AV k1 k2] (iV gg) (by kernel_rfl) (fun W' hW => by simp [go_sem]) (fun W' hW => ((HDS0.out.no hW).re.get k1 k2 hx1 gg HG.out).mono (fun e w3 ⟨he, hb⟩ => ⟨he, hW.trans hb⟩)) ?_
      try simp only [Act.put, List.setIfInBounds_toArray, List.set_cons_zero, List.set_cons_succ]
      refine q_op (RP Q) (by kernel_rfl) (fun W' hW => by simp [go_sem]) ?_
      try simp only [Act.put, List.setIfInBounds_toArray, List.set_cons_zero, List.set_cons_succ]
      refine q_op (HV) (by kernel_rfl) (fun W' hW => by obtain ⟨⟨d0, d1, d2, d3, d4, d5⟩, d6, d7⟩ := HCl.out W' (Fx.no hW); simp [go_sem, d6, d7]) ?_
      try simp only [Act.put, List.setIfInBounds_toArray, List.set_cons_zero, List.set_cons_succ]
      refine q_op (.pointer (some ⟨W.heap.size, 1, none⟩)) (by kernel_rfl) (fun W' hW => by simp [go_sem]) ?_
      try simp only [Act.put, List.setIfInBounds_toArray, List.set_cons_zero, List.set_cons_succ]
      refine q_op (AV k1 k2) (by kernel_rfl) (fun W' hW => by obtain ⟨⟨d0, d1, d2, d3, d4, d5⟩, d6, d7⟩ := HCl.out W' (Fx.no hW); simp [go_sem, d1, d2]) ?_
      try simp only [Act.put, List.setIfInBounds_toArray, List.set_cons_zero, List.set_cons_succ]
      refine q_call 36 #[RP Q, HV, AV k1 k2] (iV gg) (by kernel_rfl) (fun W' hW => by simp [go_sem]) (fun W' hW => (HG36.out W' hW).mono (fun e w3 ⟨he, hb⟩ => ⟨he, hW.trans hb⟩)) ?_
      try simp only [Act.put, List.setIfInBounds_toArray, List.set_cons_zero, List.set_cons_succ]
      refine q_op (.bool true) (by kernel_rfl) (fun W' hW => by simp [go_sem, heq]) ?_
      try simp only [Act.put, List.setIfInBounds_toArray, List.set_cons_zero, List.set_cons_succ]
      refine q_op (.bool true) (by kernel_rfl) (fun W' hW => by simp [go_sem]) ?_
      try simp only [Act.put, List.setIfInBounds_toArray, List.set_cons_zero, List.set_cons_succ]
      refine wpQuiet_nil ?_
      intro V2 H2
      have HD2 : Hid (DS w V2 P Q most a n sl a n sl (b + 500)) := (HDS0.out.no H2).more
      clear H2
      go_wp2
      go_ret
      exact ⟨rfl, _, _, _, HSt.out, HD2.out⟩
    · have h2' : (kd == 2) = false := by simpa using h2
      by_cases h3 : kd = 3
      · subst h3
        have HSt : Hid (stepD most (a, n, sl) ⟨3, (k1, k2), (v1, v2), i⟩ = (a, n, sl)) := by show _ = _; unfold stepD; rw [if_neg (by show ¬ (3 : Int) = 1; decide), if_neg (by show ¬ (3 : Int) = 4; decide)]
        obtain ⟨r, HR⟩ : ∃ r, Hid (nextR a n sl k1 k2 = r) := ⟨_, show _ = _ from rfl⟩
        obtain ⟨⟨⟨e1, e2⟩, u1, u2⟩, er⟩ := r
        have HN20 : Hid (∀ W', Kept No W0 W' → Calls Try.prog 20 #[MI P, AV k1 k2] W' fun e w' => e = .returned (.tuple #[AV e1 e2, AV u1 u2, .int .i64 er]) ∧ Kept No W' w') := fun W' hW => (HDS0.out.no hW).re.nexts k1 k2 hx1 _ HR.out
        have HN37 : Hid (∀ W', Kept No W0 W' → Calls Try.prog 37 #[RP Q, HV, AV k1 k2] W' fun e w' => e = .returned (.tuple #[AV e1 e2, AV u1 u2, .int .i64 er]) ∧ Kept No W' w') := fun W' hW => by
          have := RNext_any (HDS0.out.no hW).rt HNv.out k1 k2 hx1
          rw [HR.out] at this; exact this
        have heq : ∀ w, (Op.equalIn 10000 33 (.agg #[.int .i64 e1, .int .i64 e2]) (.agg #[.int .i64 e1, .int .i64 e2])).run Try.prog w = .ok true w := fun w => (eq33 e1 e2 e1 e2 w).trans (by simp)
        have heq2 : ∀ w, (Op.equalIn 10000 33 (.agg #[.int .i64 u1, .int .i64 u2]) (.agg #[.int .i64 u1, .int .i64 u2])).run Try.prog w = .ok true w := fun w => (eq33 u1 u2 u1 u2 w).trans (by simp)
        clear HR
        go_enter Try.func14, Try.ntmps14
        go_wp2_with fail
        rw [← HW0.out]
        clear c0 c1 c2 c3 c4 c5 c6 c7
        refine (HN20.out _ (Kept.refl _ _)).mono ?_
        rintro e V1 ⟨rfl, hk1⟩
        obtain ⟨Vb, HVb⟩ : ∃ Vb, Hid (Vb = (V1.alloc (.cells #[.int .i64 e1, .int .i64 e2] 33)).alloc (.cells #[.int .i64 u1, .int .i64 u2] 33)) := ⟨_, show _ = _ from rfl⟩
        have HK1 : Hid (Kept No W0 Vb) := by rw [HVb.out]; exact (hk1.alloc _).alloc _
        have HB1 : Hid (Vb.heap[V1.heap.size]? = some (.cells #[.int .i64 e1, .int .i64 e2] 33 (0, 0)) ∧ Vb.heap[V1.heap.size + 1]? = some (.cells #[.int .i64 u1, .int .i64 u2] 33 (0, 0))) := by
          rw [HVb.out]
          refine ⟨heap_old (heap_new1 V1 _) _, ?_⟩
          have := heap_new1 (V1.alloc (.cells #[.int .i64 e1, .int .i64 e2] 33)) (.cells #[.int .i64 u1, .int .i64 u2] 33)
          rw [World.size_alloc] at this; exact this
        obtain ⟨⟨d0, d1, d2, d3, d4, d5⟩, d6, d7⟩ := HCl.out Vb (Fx.no HK1.out)
        clear hk1 HN20
        go_wp2_with (rw [← HVb.out])
        refine (HN37.out _ HK1.out).mono ?_
        rintro e V2 ⟨rfl, hk2⟩
        obtain ⟨Vc, HVc⟩ : ∃ Vc, Hid (Vc = (V2.alloc (.cells #[.int .i64 e1, .int .i64 e2] 33)).alloc (.cells #[.int .i64 u1, .int .i64 u2] 33)) := ⟨_, show _ = _ from rfl⟩
        have hk3 : Kept No Vb Vc := by rw [HVc.out]; exact (hk2.alloc _).alloc _
        have q0 := hk3.heap HB1.out.1 id
        have q1 := hk3.heap HB1.out.2 id
        have q2 : Vc.heap[V2.heap.size]? = some (.cells #[.int .i64 e1, .int .i64 e2] 33 (0, 0)) := by rw [HVc.out]; exact heap_old (heap_new1 V2 _) _
        have q3 : Vc.heap[V2.heap.size + 1]? = some (.cells #[.int .i64 u1, .int .i64 u2] 33 (0, 0)) := by
          rw [HVc.out]
          have := heap_new1 (V2.alloc (.cells #[.int .i64 e1, .int .i64 e2] 33)) (.cells #[.int .i64 u1, .int .i64 u2] 33)
          rw [World.size_alloc] at this; exact this
        have f0 : Vc.cell? ⟨V1.heap.size, 0, none⟩ = some (.int .i64 e1) := by rw [cell_of q0]; rfl
        have f1 : Vc.cell? ⟨V1.heap.size, 1, none⟩ = some (.int .i64 e2) := by rw [cell_of q0]; rfl
        have f2 : Vc.cell? ⟨V1.heap.size + 1, 0, none⟩ = some (.int .i64 u1) := by rw [cell_of q1]; rfl
        have f3 : Vc.cell? ⟨V1.heap.size + 1, 1, none⟩ = some (.int .i64 u2) := by rw [cell_of q1]; rfl
        have g0 : Vc.cell? ⟨V2.heap.size, 0, none⟩ = some (.int .i64 e1) := by rw [cell_of q2]; rfl
        have g1 : Vc.cell? ⟨V2.heap.size, 1, none⟩ = some (.int .i64 e2) := by rw [cell_of q2]; rfl
        have g2 : Vc.cell? ⟨V2.heap.size + 1, 0, none⟩ = some (.int .i64 u1) := by rw [cell_of q3]; rfl
        have g3 : Vc.cell? ⟨V2.heap.size + 1, 1, none⟩ = some (.int .i64 u2) := by rw [cell_of q3]; rfl
        have HE : Hid (DS w Vc P Q most a n sl a n sl (b + 500)) := (HDS0.out.no (HK1.out.trans hk3)).more
        clear q0 q1 q2 q3 hk2 hk3 HN37 d0 d1 d2 d3 d4 d5 d6 d7
        go_wp2_with (first | (rw [← HVc.out]) | (go_at_call 21; refine (no_any2 _ _).mono ?_; rintro e ww ⟨rfl, rfl⟩))
        go_ret
        exact ⟨rfl, _, _, _, HSt.out, HE.out⟩
      · have h3' : (kd == 3) = false := by simpa using h3
        by_cases h4 : kd = 4
        · subst h4
          have HSt : Hid (stepD most (a, n, sl) ⟨4, (k1, k2), (v1, v2), i⟩ = (a, n, killR a n sl i)) := by show _ = _; unfold stepD; rw [if_neg (by show ¬ (4 : Int) = 1; decide), if_pos rfl]
          go_enter Try.func14, Try.ntmps14
          go_wp2_with fail
          rw [← HW0.out]
          clear c0 c1 c2 c3 c4 c5 c6 c7
          refine (HDS0.out.kill (by omega) i hx3).mono ?_
          rintro e V1 ⟨rfl, hd1, hf1⟩
          obtain ⟨⟨d0, d1, d2, d3, d4, d5⟩, d6, d7⟩ := HCl.out V1 hf1
          have HD1 : Hid (DS w V1 P Q most a n (killR a n sl i) a n sl (b + 500)) := hd1
          clear hd1 hf1
          go_wp2_with fail
          refine (HD1.out.killR i hx3).mono ?_
          rintro e V2 ⟨rfl, hd2, hf2⟩
          have HD2 : Hid (DS w V2 P Q most a n (killR a n sl i) a n (killR a n sl i) (b + 500)) := hd2
          clear hd2 hf2 d0 d1 d2 d3 d4 d5 d6 d7
          go_wp2
          go_ret
          exact ⟨rfl, _, _, _, HSt.out, HD2.out⟩
        · have h4' : (kd == 4) = false := by simpa using h4
          have HSt : Hid (stepD most (a, n, sl) ⟨kd, (k1, k2), (v1, v2), i⟩ = (a, n, sl)) := by show _ = _; unfold stepD; rw [if_neg h1, if_neg h4]
          go_enter Try.func14, Try.ntmps14
          go_wp2
          rw [← HW0.out]
          go_ret
          exact ⟨rfl, _, _, _, HSt.out, HDS0.out.more⟩
end Go.Proofs.Ythefmfjlinpepaa

/- The law's looks. -/
namespace Go.Proofs.Ythefmfjlinpepaa
open Go.RowKit Go.Shelf
set_option linter.unusedSimpArgs false
set_option linter.unusedVariables false
attribute [local go_sem] Oper.semAt_some

theorem Re.slot2 {w W : World} {P : Nat} {most : Int} {a n : Nat} {sl : Sl} {b : Nat} (h : Re w W P most a n sl b) (i : Int) (hw : wf i) :
    Calls Try.prog 27 #[MP P, .int .i64 i] W fun e w' => e = .returned (iV (sl i)) ∧ Kept No W w' := by
  obtain ⟨nn, hnn, ht⟩ := h.tb
  exact (Slot_any ht i hw).mono (fun e w' hh => ⟨hh.1, Kept.of_below hh.2⟩)

set_option maxRecDepth 20000 in
set_option maxHeartbeats 8000000 in
theorem looks_any {w W : World} {P Q : Nat} {most : Int} {a n : Nat} {sl : Sl} {b : Nat} (h : DS w W P Q most a n sl a n sl b) (hl : (ents a n sl 0).length ≤ 200) :
    Calls Try.prog 15 #[MP P, RP Q] W fun e w' => e = .returned (.bool true) ∧ Kept No W w' := by
  obtain ⟨m, hm, hm0, hm1⟩ := len_there a n sl
  obtain ⟨ao, lo, ca, cl, h1, h2, h3⟩ := h.rt.ex
  obtain ⟨ha, hn⟩ := h.rt.bd
  have HD : Hid (DS w W P Q most a n sl a n sl b) := h
  have H1 : Hid (∀ W', Kept No W W' → W'.cell? ⟨Q, 0, none⟩ = some (.slice ao a ca) ∧ W'.cell? ⟨Q, 1, none⟩ = some (.slice lo n cl)) := by
    intro W' hW
    have e := hW.heap h1 id
    exact ⟨by rw [cell_of e]; rfl, by rw [cell_of e]; rfl⟩
  have H2 : Hid (∀ i : Nat, i < a → ∃ bA, ao = some ⟨bA, 0, none⟩ ∧ ∀ W', Kept No W W' → W'.cell? ⟨bA, i * 2, none⟩ = some (.int .i64 (sl (i : Int)).1) ∧ W'.cell? ⟨bA, i * 2 + 1, none⟩ = some (.int .i64 (sl (i : Int)).2)) := by
    intro i hi
    obtain ⟨bA, rfl, cs, hb, hc⟩ := h2 (by omega)
    refine ⟨bA, rfl, fun W' hW => ?_⟩
    have e := hW.heap hb id
    exact ⟨by rw [cell_of e]; exact (hc i hi).1, by rw [cell_of e]; exact (hc i hi).2⟩
  have H3 : Hid (∀ i : Nat, i < n → ∃ bL, lo = some ⟨bL, 0, none⟩ ∧ ∀ W', Kept No W W' → (W'.cell? ⟨bL, i * 4, none⟩ = some (.int .i64 (sl ((a : Int) + 2 * (i : Int))).1) ∧ W'.cell? ⟨bL, i * 4 + 1, none⟩ = some (.int .i64 (sl ((a : Int) + 2 * (i : Int))).2)) ∧ W'.cell? ⟨bL, i * 4 + 2, none⟩ = some (.int .i64 (sl ((a : Int) + 2 * (i : Int) + 1)).1) ∧ W'.cell? ⟨bL, i * 4 + 3, none⟩ = some (.int .i64 (sl ((a : Int) + 2 * (i : Int) + 1)).2)) := by
    intro i hi
    obtain ⟨bL, rfl, cs, hb, hc⟩ := h3 (by omega)
    refine ⟨bL, rfl, fun W' hW => ?_⟩
    have e := hW.heap hb id
    obtain ⟨⟨q1, q2⟩, q3, q4⟩ := hc i hi
    exact ⟨⟨by rw [cell_of e]; exact q1, by rw [cell_of e]; exact q2⟩, by rw [cell_of e]; exact q3, by rw [cell_of e]; exact q4⟩
  have HC25 : Hid (∀ W', Kept No W W' → Calls Try.prog 25 #[MP P] W' fun e w' => e = .returned (.int .i64 (a : Int)) ∧ Kept No W' w') := fun W' hW => ((HD.out.no hW).re.array).mono (fun e w' hh => ⟨hh.1, by rw [← hh.2]; exact Kept.refl _ _⟩)
  have HC26 : Hid (∀ W', Kept No W W' → Calls Try.prog 26 #[MP P] W' fun e w' => e = .returned (.int .i64 (n : Int)) ∧ Kept No W' w') := fun W' hW => ((HD.out.no hW).re.nodes).mono (fun e w' hh => ⟨hh.1, by rw [← hh.2]; exact Kept.refl _ _⟩)
  have HC23 : Hid (∀ W', Kept No W W' → Calls Try.prog 23 #[MI P] W' fun e w' => e = .returned (.int .i64 (m : Int)) ∧ Kept No W' w') := fun W' hW => (HD.out.no hW).re.len m (by omega) hm0 hm1
  have HC39 : Hid (∀ W', Kept No W W' → Calls Try.prog 39 #[RP Q, HV] W' fun e w' => e = .returned (.int .i64 (m : Int)) ∧ Kept No W' w') := fun W' hW => RLen_any (HD.out.no hW).rt m (by omega) hm0 hm1
  have HC27 : Hid (∀ (i : Int) W', 0 ≤ i → i ≤ 1000000 → Kept No W W' → Calls Try.prog 27 #[MP P, .int .i64 i] W' fun e w' => e = .returned (iV (sl i)) ∧ Kept No W' w') := fun i W' h1 h2 hW => (HD.out.no hW).re.slot2 i (wf_of (by omega) (by omega))
  clear h h1 h2 h3 hm0 hm1 hl hm
  go_enter Try.func15, Try.ntmps15
  go_wp2_with fail
  refine region_quiet_class (C := fun W' => Kept No W W') (by kernel_rfl) (by kernel_rfl) ((Kept.refl _ _).drew) ?_
  refine q_op (MP P) (by kernel_rfl) (fun W' hW => by simp [go_sem]) ?_
  try simp only [Act.put, List.setIfInBounds_toArray, List.set_cons_zero, List.set_cons_succ]
  refine q_call 25 #[MP P] (.int .i64 (a : Int)) (by kernel_rfl) (fun W' hW => by simp [go_sem]) (fun W' hW => (HC25.out W' hW).mono (fun e w3 ⟨he, hb⟩ => ⟨he, hW.trans hb⟩)) ?_
  try simp only [Act.put, List.setIfInBounds_toArray, List.set_cons_zero, List.set_cons_succ]
  refine q_op (RP Q) (by kernel_rfl) (fun W' hW => by simp [go_sem]) ?_
  try simp only [Act.put, List.setIfInBounds_toArray, List.set_cons_zero, List.set_cons_succ]
  refine q_op (RP Q) (by kernel_rfl) (fun W' hW => by simp [go_sem]) ?_
  try simp only [Act.put, List.setIfInBounds_toArray, List.set_cons_zero, List.set_cons_succ]
  refine q_op (RP Q) (by kernel_rfl) (fun W' hW => by simp [go_sem]) ?_
  try simp only [Act.put, List.setIfInBounds_toArray, List.set_cons_zero, List.set_cons_succ]
  refine q_op (.slice ao a ca) (by kernel_rfl) (fun W' hW => by obtain ⟨r0, r1⟩ := H1.out W' (hW); simp [go_sem, r0]) ?_
  try simp only [Act.put, List.setIfInBounds_toArray, List.set_cons_zero, List.set_cons_succ]
  refine q_op (.int .i64 (a : Int)) (by kernel_rfl) (fun W' hW => by simp [go_sem]) ?_
  try simp only [Act.put, List.setIfInBounds_toArray, List.set_cons_zero, List.set_cons_succ]
  refine q_op (.bool false) (by kernel_rfl) (fun W' hW => by simp [go_sem]) ?_
  try simp only [Act.put, List.setIfInBounds_toArray, List.set_cons_zero, List.set_cons_succ]
  refine q_op (.bool false) (by kernel_rfl) (fun W' hW => by simp [go_sem]) ?_
  try simp only [Act.put, List.setIfInBounds_toArray, List.set_cons_zero, List.set_cons_succ]
  refine q_op (MP P) (by kernel_rfl) (fun W' hW => by simp [go_sem]) ?_
  try simp only [Act.put, List.setIfInBounds_toArray, List.set_cons_zero, List.set_cons_succ]
  refine q_call 26 #[MP P] (.int .i64 (n : Int)) (by kernel_rfl) (fun W' hW => by simp [go_sem]) (fun W' hW => (HC26.out W' hW).mono (fun e w3 ⟨he, hb⟩ => ⟨he, hW.trans hb⟩)) ?_
  try simp only [Act.put, List.setIfInBounds_toArray, List.set_cons_zero, List.set_cons_succ]
  refine q_op (RP Q) (by kernel_rfl) (fun W' hW => by simp [go_sem]) ?_
  try simp only [Act.put, List.setIfInBounds_toArray, List.set_cons_zero, List.set_cons_succ]
  refine q_op (RP Q) (by kernel_rfl) (fun W' hW => by simp [go_sem]) ?_
  try simp only [Act.put, List.setIfInBounds_toArray, List.set_cons_zero, List.set_cons_succ]
  refine q_op (.pointer (some ⟨Q, 1, none⟩)) (by kernel_rfl) (fun W' hW => by simp [go_sem]) ?_
  try simp only [Act.put, List.setIfInBounds_toArray, List.set_cons_zero, List.set_cons_succ]
  refine q_op (.slice lo n cl) (by kernel_rfl) (fun W' hW => by obtain ⟨r0, r1⟩ := H1.out W' (hW); simp [go_sem, r1]) ?_
  try simp only [Act.put, List.setIfInBounds_toArray, List.set_cons_zero, List.set_cons_succ]
  refine q_op (.int .i64 (n : Int)) (by kernel_rfl) (fun W' hW => by simp [go_sem]) ?_
  try simp only [Act.put, List.setIfInBounds_toArray, List.set_cons_zero, List.set_cons_succ]
  refine q_op (.bool false) (by kernel_rfl) (fun W' hW => by simp [go_sem]) ?_
  try simp only [Act.put, List.setIfInBounds_toArray, List.set_cons_zero, List.set_cons_succ]
  refine q_op (.bool false) (by kernel_rfl) (fun W' hW => by simp [go_sem]) ?_
  try simp only [Act.put, List.setIfInBounds_toArray, List.set_cons_zero, List.set_cons_succ]
  refine q_op (.bool false) (by kernel_rfl) (fun W' hW => by simp [go_sem]) ?_
  try simp only [Act.put, List.setIfInBounds_toArray, List.set_cons_zero, List.set_cons_succ]
  refine q_op (MP P) (by kernel_rfl) (fun W' hW => by simp [go_sem]) ?_
  try simp only [Act.put, List.setIfInBounds_toArray, List.set_cons_zero, List.set_cons_succ]
  refine q_op (MI P) (by kernel_rfl) (fun W' hW => by simp [go_sem]) ?_
  try simp only [Act.put, List.setIfInBounds_toArray, List.set_cons_zero, List.set_cons_succ]
  refine q_call 23 #[MI P] (.int .i64 (m : Int)) (by kernel_rfl) (fun W' hW => by simp [go_sem]) (fun W' hW => (HC23.out W' hW).mono (fun e w3 ⟨he, hb⟩ => ⟨he, hW.trans hb⟩)) ?_
  try simp only [Act.put, List.setIfInBounds_toArray, List.set_cons_zero, List.set_cons_succ]
  refine q_op (RP Q) (by kernel_rfl) (fun W' hW => by simp [go_sem]) ?_
  try simp only [Act.put, List.setIfInBounds_toArray, List.set_cons_zero, List.set_cons_succ]
  refine q_op (HV) (by kernel_rfl) (fun W' hW => by simp [go_sem]) ?_
  try simp only [Act.put, List.setIfInBounds_toArray, List.set_cons_zero, List.set_cons_succ]
  refine q_call 39 #[RP Q, HV] (.int .i64 (m : Int)) (by kernel_rfl) (fun W' hW => by simp [go_sem]) (fun W' hW => (HC39.out W' hW).mono (fun e w3 ⟨he, hb⟩ => ⟨he, hW.trans hb⟩)) ?_
  try simp only [Act.put, List.setIfInBounds_toArray, List.set_cons_zero, List.set_cons_succ]
  refine q_op (.bool false) (by kernel_rfl) (fun W' hW => by simp [go_sem]) ?_
  try simp only [Act.put, List.setIfInBounds_toArray, List.set_cons_zero, List.set_cons_succ]
  refine q_op (.bool false) (by kernel_rfl) (fun W' hW => by simp [go_sem]) ?_
  try simp only [Act.put, List.setIfInBounds_toArray, List.set_cons_zero, List.set_cons_succ]
  refine wpQuiet_nil ?_
  intro W1 hk1
  have HK1 : Hid (Kept No W W1) := hk1
  clear hk1
  clear HC25 HC26 HC23 HC39
  go_wp2_with fail
  go_loopw [5] (fun i wr => ∃ j : Nat, j ≤ a ∧ i = .int .i64 (j : Int) ∧ Hid (Kept No W wr)) (fun i _ => a - (intOf i).toNat)
  case atStart => exact ⟨0, Nat.zero_le _, rfl, HK1⟩
  case round =>
    clear HK1
    obtain ⟨j, hj, rfl, HK⟩ := hrel
    obtain ⟨c0, c1⟩ := H1.out _ HK.out
    by_cases hlt : j < a
    · obtain ⟨bA, hb, hc⟩ := H2.out j hlt
      subst hb
      have HC : Hid (∀ W', Kept No W W' → W'.cell? ⟨bA, j * 2, none⟩ = some (.int .i64 (sl (j : Int)).1) ∧ W'.cell? ⟨bA, j * 2 + 1, none⟩ = some (.int .i64 (sl (j : Int)).2)) := hc
      have HSl : Hid (∀ W', Kept No W W' → Calls Try.prog 27 #[MP P, .int .i64 (j : Int)] W' fun e w' => e = .returned (iV (sl (j : Int))) ∧ Kept No W' w') := fun W' hW => HC27.out _ W' (by omega) (by omega) hW
      clear hc
      generalize sl (j : Int) = x at HC HSl
      obtain ⟨x1, x2⟩ := x
      simp only at HC HSl
      have heq : ∀ w, (Op.equalIn 10000 33 (.agg #[.int .i64 x1, .int .i64 x2]) (.agg #[.int .i64 x1, .int .i64 x2])).run Try.prog w = .ok true w := fun w => (eq33 x1 x2 x1 x2 w).trans (by simp)
      have e1 : (j : Int) < (a : Int) := by omega
      have e0 : (0 : Int) ≤ (j : Int) := by omega
      obtain ⟨V, hV⟩ : ∃ V, V = wr := ⟨_, rfl⟩
      rw [← hV] at HK c0 c1 ⊢
      clear hV
      go_wp2_with fail
      refine region_quiet_class (C := fun W' => Kept No V W') (by kernel_rfl) (by kernel_rfl) ((Kept.refl _ _).drew) ?_
      refine q_op (MP P) (by kernel_rfl) (fun W' hW => by simp [go_sem]) ?_
      try simp only [Act.put, List.setIfInBounds_toArray, List.set_cons_zero, List.set_cons_succ]
      refine q_op (.int .i64 (j : Int)) (by kernel_rfl) (fun W' hW => by simp [go_sem]) ?_
      try simp only [Act.put, List.setIfInBounds_toArray, List.set_cons_zero, List.set_cons_succ]
      refine q_call 27 #[MP P, .int .i64 (j : Int)] (AV x1 x2) (by kernel_rfl) (fun W' hW => by simp [go_sem]) (fun W' hW => (HSl.out W' (HK.out.trans hW)).mono (fun e w3 ⟨he, hb⟩ => ⟨he, hW.trans hb⟩)) ?_
      try simp only [Act.put, List.setIfInBounds_toArray, List.set_cons_zero, List.set_cons_succ]
      refine q_op (RP Q) (by kernel_rfl) (fun W' hW => by simp [go_sem]) ?_
      try simp only [Act.put, List.setIfInBounds_toArray, List.set_cons_zero, List.set_cons_succ]
      refine q_op (RP Q) (by kernel_rfl) (fun W' hW => by simp [go_sem]) ?_
      try simp only [Act.put, List.setIfInBounds_toArray, List.set_cons_zero, List.set_cons_succ]
      refine q_op (RP Q) (by kernel_rfl) (fun W' hW => by simp [go_sem]) ?_
      try simp only [Act.put, List.setIfInBounds_toArray, List.set_cons_zero, List.set_cons_succ]
      refine q_op (.slice (some ⟨bA, 0, none⟩) a ca) (by kernel_rfl) (fun W' hW => by obtain ⟨r0, r1⟩ := H1.out W' (HK.out.trans hW); simp [go_sem, r0]) ?_
      try simp only [Act.put, List.setIfInBounds_toArray, List.set_cons_zero, List.set_cons_succ]
      refine q_op (.int .i64 (j : Int)) (by kernel_rfl) (fun W' hW => by simp [go_sem]) ?_
      try simp only [Act.put, List.setIfInBounds_toArray, List.set_cons_zero, List.set_cons_succ]
      refine q_op (.pointer (some ⟨bA, j * 2, none⟩)) (by kernel_rfl) (fun W' hW => by simp [go_sem, e0, e1]) ?_
      try simp only [Act.put, List.setIfInBounds_toArray, List.set_cons_zero, List.set_cons_succ]
      refine q_op (AV x1 x2) (by kernel_rfl) (fun W' hW => by obtain ⟨r0, r1⟩ := HC.out W' (HK.out.trans hW); simp [go_sem, r0, r1]) ?_
      try simp only [Act.put, List.setIfInBounds_toArray, List.set_cons_zero, List.set_cons_succ]
      refine q_op (.bool false) (by kernel_rfl) (fun W' hW => by simp [go_sem, heq]) ?_
      try simp only [Act.put, List.setIfInBounds_toArray, List.set_cons_zero, List.set_cons_succ]
      refine wpQuiet_nil ?_
      intro V2 hk2
      have HK2 : Hid (Kept No W V2) := HK.out.trans hk2
      clear hk2 HSl HC c0 c1
      go_wp2
      go_roundw
      case rel => exact ⟨j + 1, by omega, by go_num, HK2⟩
      case measure => simp [intOf]; omega
    · obtain rfl : a = j := by omega
      obtain ⟨w1, hw1⟩ : ∃ w1, w1 = wr := ⟨_, rfl⟩
      rw [← hw1] at HK c0 c1 ⊢
      clear hw1 hlt
      go_wp2_with fail
      clear c0 c1
      go_loopw [6] (fun i wr => ∃ j : Nat, j ≤ n ∧ i = .int .i64 (j : Int) ∧ Hid (Kept No W wr)) (fun i _ => n - (intOf i).toNat)
      case atStart => exact ⟨0, Nat.zero_le _, rfl, HK⟩
      case round =>
        clear HK
        obtain ⟨j, hj, rfl, HK⟩ := hrel
        obtain ⟨c0, c1⟩ := H1.out _ HK.out
        by_cases hlt : j < n
        · obtain ⟨bL, hb, hc⟩ := H3.out j hlt
          subst hb
          have HC : Hid (∀ W', Kept No W W' → (W'.cell? ⟨bL, j * 4, none⟩ = some (.int .i64 (sl ((a : Int) + 2 * (j : Int))).1) ∧ W'.cell? ⟨bL, j * 4 + 1, none⟩ = some (.int .i64 (sl ((a : Int) + 2 * (j : Int))).2)) ∧ W'.cell? ⟨bL, j * 4 + 2, none⟩ = some (.int .i64 (sl ((a : Int) + 2 * (j : Int) + 1)).1) ∧ W'.cell? ⟨bL, j * 4 + 3, none⟩ = some (.int .i64 (sl ((a : Int) + 2 * (j : Int) + 1)).2)) := hc
          have HSk : Hid (∀ W', Kept No W W' → Calls Try.prog 27 #[MP P, .int .i64 ((a : Int) + 2 * (j : Int))] W' fun e w' => e = .returned (iV (sl ((a : Int) + 2 * (j : Int)))) ∧ Kept No W' w') := fun W' hW => HC27.out _ W' (by omega) (by omega) hW
          have HSv : Hid (∀ W', Kept No W W' → Calls Try.prog 27 #[MP P, .int .i64 ((a : Int) + 2 * (j : Int) + 1)] W' fun e w' => e = .returned (iV (sl ((a : Int) + 2 * (j : Int) + 1))) ∧ Kept No W' w') := fun W' hW => HC27.out _ W' (by omega) (by omega) hW
          clear hc
          generalize sl ((a : Int) + 2 * (j : Int)) = y at HC HSk
          generalize sl ((a : Int) + 2 * (j : Int) + 1) = x at HC HSv
          obtain ⟨x1, x2⟩ := x
          obtain ⟨y1, y2⟩ := y
          simp only at HC HSk HSv
          have heqk : ∀ w, (Op.equalIn 10000 33 (.agg #[.int .i64 y1, .int .i64 y2]) (.agg #[.int .i64 y1, .int .i64 y2])).run Try.prog w = .ok true w := fun w => (eq33 y1 y2 y1 y2 w).trans (by simp)
          have heqv : ∀ w, (Op.equalIn 10000 33 (.agg #[.int .i64 x1, .int .i64 x2]) (.agg #[.int .i64 x1, .int .i64 x2])).run Try.prog w = .ok true w := fun w => (eq33 x1 x2 x1 x2 w).trans (by simp)
          have e1 : (j : Int) < (n : Int) := by omega
          have e0 : (0 : Int) ≤ (j : Int) := by omega
          obtain ⟨V, hV⟩ : ∃ V, V = wr := ⟨_, rfl⟩
          rw [← hV] at HK c0 c1 ⊢
          clear hV
          go_wp2_with fail
          try simp only [List.append_eq, List.cons_append, List.nil_append]
          refine region_quiet_class (C := fun W' => Kept No V W') (by kernel_rfl) (by kernel_rfl) ((Kept.refl _ _).drew) ?_
          refine q_op (MP P) (by kernel_rfl) (fun W' hW => by simp [go_sem]) ?_
          try simp only [Act.put, List.setIfInBounds_toArray, List.set_cons_zero, List.set_cons_succ]
          refine q_op (RP Q) (by kernel_rfl) (fun W' hW => by simp [go_sem]) ?_
          try simp only [Act.put, List.setIfInBounds_toArray, List.set_cons_zero, List.set_cons_succ]
          refine q_op (RP Q) (by kernel_rfl) (fun W' hW => by simp [go_sem]) ?_
          try simp only [Act.put, List.setIfInBounds_toArray, List.set_cons_zero, List.set_cons_succ]
          refine q_op (RP Q) (by kernel_rfl) (fun W' hW => by simp [go_sem]) ?_
          try simp only [Act.put, List.setIfInBounds_toArray, List.set_cons_zero, List.set_cons_succ]
          refine q_op (.slice ao a ca) (by kernel_rfl) (fun W' hW => by obtain ⟨r0, r1⟩ := H1.out W' (HK.out.trans hW); simp [go_sem, r0]) ?_
          try simp only [Act.put, List.setIfInBounds_toArray, List.set_cons_zero, List.set_cons_succ]
          refine q_op (.int .i64 (a : Int)) (by kernel_rfl) (fun W' hW => by simp [go_sem]) ?_
          try simp only [Act.put, List.setIfInBounds_toArray, List.set_cons_zero, List.set_cons_succ]
          refine q_op (.int .i64 (j : Int)) (by kernel_rfl) (fun W' hW => by simp [go_sem]) ?_
          try simp only [Act.put, List.setIfInBounds_toArray, List.set_cons_zero, List.set_cons_succ]
          refine q_op (.int .i64 (2 * (j : Int))) (by kernel_rfl) (fun W' hW => by simp [go_sem]; rw [IntKind.wrap_i64]; omega) ?_
          try simp only [Act.put, List.setIfInBounds_toArray, List.set_cons_zero, List.set_cons_succ]
          refine q_op (.int .i64 ((a : Int) + 2 * (j : Int))) (by kernel_rfl) (fun W' hW => by simp [go_sem]; rw [IntKind.wrap_i64]; omega) ?_
          try simp only [Act.put, List.setIfInBounds_toArray, List.set_cons_zero, List.set_cons_succ]
          refine q_call 27 #[MP P, .int .i64 ((a : Int) + 2 * (j : Int))] (AV y1 y2) (by kernel_rfl) (fun W' hW => by simp [go_sem]) (fun W' hW => (HSk.out W' (HK.out.trans hW)).mono (fun e w3 ⟨he, hb⟩ => ⟨he, hW.trans hb⟩)) ?_
          try simp only [Act.put, List.setIfInBounds_toArray, List.set_cons_zero, List.set_cons_succ]
          refine q_op (RP Q) (by kernel_rfl) (fun W' hW => by simp [go_sem]) ?_
          try simp only [Act.put, List.setIfInBounds_toArray, List.set_cons_zero, List.set_cons_succ]
          refine q_op (RP Q) (by kernel_rfl) (fun W' hW => by simp [go_sem]) ?_
          try simp only [Act.put, List.setIfInBounds_toArray, List.set_cons_zero, List.set_cons_succ]
          refine q_op (.pointer (some ⟨Q, 1, none⟩)) (by kernel_rfl) (fun W' hW => by simp [go_sem]) ?_
          try simp only [Act.put, List.setIfInBounds_toArray, List.set_cons_zero, List.set_cons_succ]
          refine q_op (.slice (some ⟨bL, 0, none⟩) n cl) (by kernel_rfl) (fun W' hW => by obtain ⟨r0, r1⟩ := H1.out W' (HK.out.trans hW); simp [go_sem, r1]) ?_
          try simp only [Act.put, List.setIfInBounds_toArray, List.set_cons_zero, List.set_cons_succ]
          refine q_op (.int .i64 (j : Int)) (by kernel_rfl) (fun W' hW => by simp [go_sem]) ?_
          try simp only [Act.put, List.setIfInBounds_toArray, List.set_cons_zero, List.set_cons_succ]
          refine q_op (.pointer (some ⟨bL, j * 4, none⟩)) (by kernel_rfl) (fun W' hW => by simp [go_sem, e0, e1]) ?_
          try simp only [Act.put, List.setIfInBounds_toArray, List.set_cons_zero, List.set_cons_succ]
          refine q_op (.pointer (some ⟨bL, j * 4, none⟩)) (by kernel_rfl) (fun W' hW => by simp [go_sem]) ?_
          try simp only [Act.put, List.setIfInBounds_toArray, List.set_cons_zero, List.set_cons_succ]
          refine q_op (AV y1 y2) (by kernel_rfl) (fun W' hW => by obtain ⟨⟨r0, r1⟩, r2, r3⟩ := HC.out W' (HK.out.trans hW); simp [go_sem, r0, r1]) ?_
          try simp only [Act.put, List.setIfInBounds_toArray, List.set_cons_zero, List.set_cons_succ]
          refine q_op (.bool false) (by kernel_rfl) (fun W' hW => by simp [go_sem, heqk]) ?_
          try simp only [Act.put, List.setIfInBounds_toArray, List.set_cons_zero, List.set_cons_succ]
          refine q_op (.bool false) (by kernel_rfl) (fun W' hW => by simp [go_sem]) ?_
          try simp only [Act.put, List.setIfInBounds_toArray, List.set_cons_zero, List.set_cons_succ]
          refine q_op (MP P) (by kernel_rfl) (fun W' hW => by simp [go_sem]) ?_
          try simp only [Act.put, List.setIfInBounds_toArray, List.set_cons_zero, List.set_cons_succ]
          refine q_op (RP Q) (by kernel_rfl) (fun W' hW => by simp [go_sem]) ?_
          try simp only [Act.put, List.setIfInBounds_toArray, List.set_cons_zero, List.set_cons_succ]
          refine q_op (RP Q) (by kernel_rfl) (fun W' hW => by simp [go_sem]) ?_
          try simp only [Act.put, List.setIfInBounds_toArray, List.set_cons_zero, List.set_cons_succ]
          refine q_op (RP Q) (by kernel_rfl) (fun W' hW => by simp [go_sem]) ?_
          try simp only [Act.put, List.setIfInBounds_toArray, List.set_cons_zero, List.set_cons_succ]
          refine q_op (.slice ao a ca) (by kernel_rfl) (fun W' hW => by obtain ⟨r0, r1⟩ := H1.out W' (HK.out.trans hW); simp [go_sem, r0]) ?_
          try simp only [Act.put, List.setIfInBounds_toArray, List.set_cons_zero, List.set_cons_succ]
          refine q_op (.int .i64 (a : Int)) (by kernel_rfl) (fun W' hW => by simp [go_sem]) ?_
          try simp only [Act.put, List.setIfInBounds_toArray, List.set_cons_zero, List.set_cons_succ]
          refine q_op (.int .i64 (j : Int)) (by kernel_rfl) (fun W' hW => by simp [go_sem]) ?_
          try simp only [Act.put, List.setIfInBounds_toArray, List.set_cons_zero, List.set_cons_succ]
          refine q_op (.int .i64 (2 * (j : Int))) (by kernel_rfl) (fun W' hW => by simp [go_sem]; rw [IntKind.wrap_i64]; omega) ?_
          try simp only [Act.put, List.setIfInBounds_toArray, List.set_cons_zero, List.set_cons_succ]
          refine q_op (.int .i64 ((a : Int) + 2 * (j : Int))) (by kernel_rfl) (fun W' hW => by simp [go_sem]; rw [IntKind.wrap_i64]; omega) ?_
          try simp only [Act.put, List.setIfInBounds_toArray, List.set_cons_zero, List.set_cons_succ]
          refine q_op (.int .i64 ((a : Int) + 2 * (j : Int) + 1)) (by kernel_rfl) (fun W' hW => by simp [go_sem]; rw [IntKind.wrap_i64]; omega) ?_
          try simp only [Act.put, List.setIfInBounds_toArray, List.set_cons_zero, List.set_cons_succ]
          refine q_call 27 #[MP P, .int .i64 ((a : Int) + 2 * (j : Int) + 1)] (AV x1 x2) (by kernel_rfl) (fun W' hW => by simp [go_sem]) (fun W' hW => (HSv.out W' (HK.out.trans hW)).mono (fun e w3 ⟨he, hb⟩ => ⟨he, hW.trans hb⟩)) ?_
          try simp only [Act.put, List.setIfInBounds_toArray, List.set_cons_zero, List.set_cons_succ]
          refine q_op (RP Q) (by kernel_rfl) (fun W' hW => by simp [go_sem]) ?_
          try simp only [Act.put, List.setIfInBounds_toArray, List.set_cons_zero, List.set_cons_succ]
          refine q_op (RP Q) (by kernel_rfl) (fun W' hW => by simp [go_sem]) ?_
          try simp only [Act.put, List.setIfInBounds_toArray, List.set_cons_zero, List.set_cons_succ]
          refine q_op (.pointer (some ⟨Q, 1, none⟩)) (by kernel_rfl) (fun W' hW => by simp [go_sem]) ?_
          try simp only [Act.put, List.setIfInBounds_toArray, List.set_cons_zero, List.set_cons_succ]
          refine q_op (.slice (some ⟨bL, 0, none⟩) n cl) (by kernel_rfl) (fun W' hW => by obtain ⟨r0, r1⟩ := H1.out W' (HK.out.trans hW); simp [go_sem, r1]) ?_
          try simp only [Act.put, List.setIfInBounds_toArray, List.set_cons_zero, List.set_cons_succ]
          refine q_op (.int .i64 (j : Int)) (by kernel_rfl) (fun W' hW => by simp [go_sem]) ?_
          try simp only [Act.put, List.setIfInBounds_toArray, List.set_cons_zero, List.set_cons_succ]
          refine q_op (.pointer (some ⟨bL, j * 4, none⟩)) (by kernel_rfl) (fun W' hW => by simp [go_sem, e0, e1]) ?_
          try simp only [Act.put, List.setIfInBounds_toArray, List.set_cons_zero, List.set_cons_succ]
          refine q_op (.pointer (some ⟨bL, j * 4 + 2, none⟩)) (by kernel_rfl) (fun W' hW => by simp [go_sem]) ?_
          try simp only [Act.put, List.setIfInBounds_toArray, List.set_cons_zero, List.set_cons_succ]
          refine q_op (AV x1 x2) (by kernel_rfl) (fun W' hW => by obtain ⟨⟨r0, r1⟩, r2, r3⟩ := HC.out W' (HK.out.trans hW); simp [go_sem, r2, r3]) ?_
          try simp only [Act.put, List.setIfInBounds_toArray, List.set_cons_zero, List.set_cons_succ]
          refine q_op (.bool false) (by kernel_rfl) (fun W' hW => by simp [go_sem, heqv]) ?_
          try simp only [Act.put, List.setIfInBounds_toArray, List.set_cons_zero, List.set_cons_succ]
          refine q_op (.bool false) (by kernel_rfl) (fun W' hW => by simp [go_sem]) ?_
          try simp only [Act.put, List.setIfInBounds_toArray, List.set_cons_zero, List.set_cons_succ]
          refine wpQuiet_nil ?_
          intro V2 hk2
          have HK2 : Hid (Kept No W V2) := HK.out.trans hk2
          clear hk2 HSk HSv HC c0 c1
          go_wp2
          go_roundw
          case rel => exact ⟨j + 1, by omega, by go_num, HK2⟩
          case measure => simp [intOf]; omega
        · obtain rfl : j = n := by omega
          go_wp2
          go_ret
          exact ⟨rfl, HK.out⟩
end Go.Proofs.Ythefmfjlinpepaa

/- What both tables keep, behind any calls. -/
namespace Go.Proofs.Ythefmfjlinpepaa
open Go.RowKit Go.Shelf
set_option linter.unusedSimpArgs false
set_option linter.unusedVariables false

section
variable {a n : Nat} {sl : Sl}
theorem Nv.zero (a n : Nat) : Nv a n (fun _ => (0, 0)) := fun m _ h => absurd rfl h
theorem Nv.put (h : Nv a n sl) {k v : Int × Int} (hk : keyB k.1 k.2 = true) : Nv a n (putR a n sl k v).2 := by
  rcases put_cases a n sl k v with ⟨_, he, ⟨_, hp, h1, h2, _⟩ | ⟨_, m0, hm0, hp, hs⟩⟩ | ⟨_, he⟩ | ⟨_, _, _, m0, hm0, _, _, he⟩
  · rw [he]
    intro m hm hv
    rw [hp] at hv ⊢
    simp only at hv ⊢
    rw [sput_ne (by omega)] at hv ⊢
    exact h m hm hv
  · rw [he]
    intro m hm hv
    rw [hp] at hv ⊢
    simp only at hv ⊢
    rw [sput_ne (by omega)]
    by_cases e : m = m0
    · subst e; rw [hs]; exact hk
    · rw [sput_ne (by omega)] at hv
      exact h m hm hv
  · rw [he]; exact h
  · rw [he]
    intro m hm hv
    by_cases e : m = m0
    · subst e
      have e1 : sput (sput sl ((a : Int) + 2 * (m : Int)) k) ((a : Int) + 2 * (m : Int) + 1) v ((a + 2 * m : Nat) : Int) = k := by
        rw [sput_ne (by omega), show ((a + 2 * m : Nat) : Int) = (a : Int) + 2 * (m : Int) by omega, sput_same]
      simp only
      rw [e1]; exact hk
    · simp only at hv ⊢
      rw [sput_ne (by omega), sput_ne (by omega)] at hv ⊢
      exact h m hm hv
theorem Nv.putAll : ∀ (L : List Ent) {sl : Sl}, Nv a n sl → (∀ e ∈ L, keyB e.1.1 e.1.2 = true) → Nv a n (putAll a n sl L)
  | [], _, h, _ => h
  | e :: L, sl, h, hL => Nv.putAll L (h.put (k := e.1) (v := e.2) (hL e (by simp))) (fun x hx => hL x (by simp [hx]))
theorem ents_keyB (f : Nat) : ∀ e ∈ ents a n sl f, keyB e.1.1 e.1.2 = true := by
  intro e he
  unfold ents entsTo at he
  rw [List.mem_filterMap] at he
  obtain ⟨j, _, hj⟩ := he
  cases ho : okE a sl (plA a f j : Nat)
  · rw [ho] at hj; simp at hj
  · rw [ho] at hj
    simp at hj
    unfold okE at ho
    rw [← hj]
    simp only [Bool.and_eq_true] at ho
    exact ho.1
theorem Nv.set {most : Int} (h : Nv a n sl) (k v : Int × Int) : Nv (setR most a n sl k v).2.1 (setR most a n sl k v).2.2.1 (setR most a n sl k v).2.2.2 := by
  rcases setR_cases most a n sl k v with e | ⟨hk, e⟩ | ⟨hk, _, _, e⟩
  · rw [e]; exact h
  · rw [e]; exact h.put (kyP_nk hk).b
  · rw [e]; exact (Nv.putAll _ (Nv.zero _ _) (ents_keyB 0)).put (kyP_nk hk).b
theorem vpB_at {i : Int} (h : vpB a n i = true) : (0 ≤ i ∧ i < (a : Int)) ∨ ∃ m : Nat, m < n ∧ i = (a : Int) + 2 * (m : Int) + 1 := by
  simp only [vpB, Bool.and_eq_true, Bool.or_eq_true, decide_eq_true_eq] at h
  by_cases h1 : i < (a : Int)
  · exact .inl ⟨h.1, h1⟩
  · refine .inr ⟨((i - (a : Int)) / 2).toNat, by omega, by omega⟩
/-- What Kill makes of a slot. -/
theorem kill_at {i : Int} (p : Int) : (killR a n sl i) p = sl p ∨ (vpB a n i = true ∧ ((p = i ∧ (killR a n sl i) p = (0, 0)) ∨ (p = i - 1 ∧ (a : Int) ≤ i))) := by
  unfold killR
  cases hv : vpB a n i
  · exact .inl rfl
  · rw [if_pos rfl]
    by_cases hp : p = i - 1
    · by_cases ha : (a : Int) ≤ i
      · exact .inr ⟨rfl, .inr ⟨hp, ha⟩⟩
      · left
        rw [if_neg (by unfold keyAt; rw [if_pos (by omega)]; simp)]
        rw [sput_ne (by omega)]
    · by_cases hpi : p = i
      · refine .inr ⟨rfl, .inl ⟨hpi, ?_⟩⟩
        split
        · rw [sput_ne hp, hpi, sput_same]
        · rw [hpi, sput_same]
      · left
        split
        · rw [sput_ne hp, sput_ne hpi]
        · rw [sput_ne hpi]
theorem Nv.kill (h : Nv a n sl) (i : Int) : Nv a n (killR a n sl i) := by
  intro m hm hv
  rcases kill_at (a := a) (n := n) (sl := sl) (i := i) ((a + 2 * m + 1 : Nat) : Int) with e | ⟨hb, ⟨e, e0⟩ | ⟨e, hi⟩⟩
  · rw [e] at hv
    rcases kill_at (a := a) (n := n) (sl := sl) (i := i) ((a + 2 * m : Nat) : Int) with e' | ⟨hb, ⟨e', e0⟩ | ⟨e', hi⟩⟩
    · rw [e']; exact h m hm hv
    · rcases vpB_at hb with h1 | ⟨m', _, h1⟩ <;> omega
    · exfalso
      have h2 : ((a + 2 * m + 1 : Nat) : Int) = i := by omega
      rw [← e, h2] at hv
      rcases kill_at (a := a) (n := n) (sl := sl) (i := i) i with e3 | ⟨_, ⟨_, e3⟩ | ⟨e3, _⟩⟩
      · unfold killR at hv
        rw [hb, if_pos rfl] at hv
        split at hv
        · rw [sput_ne (by omega), sput_same] at hv; exact hv rfl
        · rw [sput_same] at hv; exact hv rfl
      · rw [e3] at hv; exact hv rfl
      · omega
  · rw [e0] at hv; exact absurd rfl hv
  · rcases vpB_at hb with h1 | ⟨m', _, h1⟩ <;> omega
theorem kill_ok (i : Int) (j : Nat) (h : okE a (killR a n sl i) (plA a 0 j : Nat) = true) : okE a sl (plA a 0 j : Nat) = true := by
  have hpl : plA a 0 j = if j < a then j else a + 2 * (j - a) + 1 := plA0 a j
  unfold okE at h ⊢
  simp only [Bool.and_eq_true, Bool.not_eq_true', beq_eq_false_iff_ne] at h ⊢
  obtain ⟨hk, hv⟩ := h
  have hval : (killR a n sl i) ((plA a 0 j : Nat) : Int) = sl ((plA a 0 j : Nat) : Int) := by
    rcases kill_at (a := a) (n := n) (sl := sl) (i := i) ((plA a 0 j : Nat) : Int) with e | ⟨hb, ⟨e, e0⟩ | ⟨e, hi⟩⟩
    · exact e
    · rw [e0] at hv; exact absurd rfl hv
    · exfalso
      rw [hpl] at e
      rcases vpB_at hb with h1 | ⟨m', _, h1⟩
      · omega
      · split at e <;> omega
  rw [hval] at hv
  refine ⟨?_, hv⟩
  unfold keyAt at hk ⊢
  by_cases hlt : ((plA a 0 j : Nat) : Int) < (a : Int)
  · rw [if_pos hlt] at hk ⊢; exact hk
  · rw [if_neg hlt] at hk ⊢
    rcases kill_at (a := a) (n := n) (sl := sl) (i := i) (((plA a 0 j : Nat) : Int) - 1) with e | ⟨hb, ⟨e, e0⟩ | ⟨e, hi⟩⟩
    · rw [e] at hk; exact hk
    · rw [e0] at hk; simp [keyB] at hk
    · exfalso
      have e2 : ((plA a 0 j : Nat) : Int) = i := by omega
      rw [e2] at hval
      unfold killR at hval
      rw [hb, if_pos rfl] at hval
      rw [e2] at hv
      split at hval
      · rw [sput_ne (by omega), sput_same] at hval; rw [← hval] at hv; exact hv rfl
      · rw [sput_same] at hval; rw [← hval] at hv; exact hv rfl
theorem ents_kill (i : Int) : (ents a n (killR a n sl i) 0).length ≤ (ents a n sl 0).length := by
  unfold ents
  generalize plN a n 0 = q
  induction q with
  | zero => exact Nat.le_refl _
  | succ q ih =>
    rw [entsTo_succ, entsTo_succ, List.length_append, List.length_append]
    cases h1 : okE a (killR a n sl i) (plA a 0 q : Nat)
    · simp; omega
    · rw [kill_ok i q h1]; simp; omega
end

/-- A table behind some calls. -/
def playD (most : Int) (L : List Ac) : Nat × Nat × Sl := L.foldl (stepD most) (0, 0, fun _ => (0, 0))
theorem playD_next (most : Int) (L : List Ac) (j : Nat) (x : Ac) (h : L[j]? = some x) : playD most (L.take (j + 1)) = stepD most (playD most (L.take j)) x := by
  rw [List.take_add_one, h]
  unfold playD; rw [Option.toList_some, List.foldl_append]; rfl
theorem playD_keeps (most : Int) (L : List Ac) : ∀ j, j ≤ L.length → (ents (playD most (L.take j)).1 (playD most (L.take j)).2.1 (playD most (L.take j)).2.2 0).length ≤ j ∧ Nv (playD most (L.take j)).1 (playD most (L.take j)).2.1 (playD most (L.take j)).2.2
  | 0, _ => by
    rw [List.take_zero]
    exact ⟨Nat.le_of_eq (ents_zero 0 0), Nv.zero 0 0⟩
  | j + 1, hj => by
    have ih := playD_keeps most L j (by omega)
    have hx : L[j]? = some (L[j]'hj) := List.getElem?_eq_getElem _
    rw [playD_next most L j _ hx]
    generalize L[j]'hj = x
    generalize playD most (L.take j) = s at ih
    obtain ⟨a, n, sl⟩ := s
    unfold stepD
    split
    · have := ents_set most a n sl x.k x.v
      exact ⟨by simp only at ih ⊢; omega, ih.2.set _ _⟩
    · split
      · have := ents_kill (a := a) (n := n) (sl := sl) x.i
        exact ⟨by simp only at ih ⊢; omega, ih.2.kill _⟩
      · exact ⟨by omega, ih.2⟩
end Go.Proofs.Ythefmfjlinpepaa

/- TablePlays. -/
namespace Go.Proofs.Ythefmfjlinpepaa
open Go.RowKit Go.Shelf
set_option linter.unusedSimpArgs false
set_option linter.unusedVariables false
attribute [local go_sem] Oper.semAt_some

theorem DS.start {w w1 : World} {most : Int} (h : Re w w1 w.heap.size most 0 0 (fun _ => (0, 0)) 0) : DS w (w1.alloc (.cells #[.slice none 0 0, .slice none 0 0, .int .i64 most] 29)) w.heap.size w1.heap.size most 0 0 (fun _ => (0, 0)) 0 0 (fun _ => (0, 0)) 0 := by
  have hb := heap_new1 w1 (.cells #[.slice none 0 0, .slice none 0 0, .int .i64 most] 29)
  refine ⟨h.no ((Kept.refl _ _).alloc _), ⟨⟨none, none, 0, 0, hb, fun h0 => absurd h0 (by decide), fun h0 => absurd h0 (by decide)⟩, by decide, by decide⟩, fun k hq => ?_⟩
  rcases hq with rfl | ⟨vA, vL, m, e, h2⟩
  · exact h.kp.size
  · rw [hb] at e
    simp only [Option.some.injEq, Obj.cells.injEq, Array.mk.injEq, List.cons.injEq] at e
    obtain ⟨⟨rfl, rfl, _⟩, _⟩ := e
    rcases h2 with h2 | h2 <;> cases h2

set_option maxRecDepth 100000 in
set_option maxHeartbeats 4000000 in
theorem TablePlays_any (most : Int) (v : Value) (L : List Ac) (w : World) (hm : I64 most) (hL : Acts w v L) :
    Calls Try.prog 3 #[.int .i64 most, v] w fun e w' => e = .returned (.bool true) ∧ Kept No w w' := by
  have HAc : Hid (Acts w v L) := hL
  obtain ⟨ao, cap, rfl, hwf, hcl⟩ := hL
  have HW : Hid (∀ a ∈ L, I64 a.k.2 ∧ I64 a.v.2 ∧ I64 a.i ∧ I64 a.k.1 ∧ I64 a.v.1) := hwf
  have HMo : Hid (I64 most) := hm
  have HKp : Hid (∀ j, j ≤ L.length → (ents (playD most (L.take j)).1 (playD most (L.take j)).2.1 (playD most (L.take j)).2.2 0).length ≤ j ∧ Nv (playD most (L.take j)).1 (playD most (L.take j)).2.1 (playD most (L.take j)).2.2) := playD_keeps most L
  clear hwf hcl hm
  go_enter Try.func3, Try.ntmps3
  go_wp2_with fail
  refine (NewMem_re most _).mono ?_
  rintro e w1 ⟨rfl, h1⟩
  have H1 := DS.start h1
  generalize HQ : w1.heap.size = Q at H1
  have HQ' : Hid (w1.heap.size = Q) := HQ
  clear h1 HQ
  go_wp2_with fail
  rw [HQ'.out]
  generalize w1.alloc _ = w2 at H1 ⊢
  refine (alive_any _).mono ?_
  rintro e w3 ⟨rfl, hk3⟩
  have H2 : Hid (DS w w3 w.heap.size Q most (playD most (L.take 0)).1 (playD most (L.take 0)).2.1 (playD most (L.take 0)).2.2 (playD most (L.take 0)).1 (playD most (L.take 0)).2.1 (playD most (L.take 0)).2.2 0) := H1.no hk3
  have HKe : Hid (Kept No w w3) := H2.out.re.kp
  clear hk3 H1 HQ'
  by_cases h80 : 80 < L.length
  · have h80' : (80 : Int) < (L.length : Int) := by omega
    go_wp2
    go_ret
    exact ⟨rfl, HKe.out⟩
  have h80' : ¬ (80 : Int) < (L.length : Int) := by omega
  go_wp2_with fail
  go_loopw [7] (fun i wr => ∃ j : Nat, j ≤ L.length ∧ i = .int .i64 (j : Int) ∧ Hid (DS w wr w.heap.size Q most (playD most (L.take j)).1 (playD most (L.take j)).2.1 (playD most (L.take j)).2.2 (playD most (L.take j)).1 (playD most (L.take j)).2.1 (playD most (L.take j)).2.2 (500 * j))) (fun i _ => L.length - (intOf i).toNat)
  case atStart => exact ⟨0, Nat.zero_le _, rfl, H2.out⟩
  case round =>
    clear H2 HKe
    obtain ⟨j, hj, rfl, HD⟩ := hrel
    by_cases hlt : j < L.length
    · obtain ⟨x, hx⟩ : ∃ x, L[j]? = some x := ⟨L[j]'hlt, List.getElem?_eq_getElem _⟩
      have hI := HW.out x (List.mem_of_getElem? hx)
      obtain ⟨ao', cap', hv', _, hc'⟩ := HAc.out.kept HD.out.re.kp
      injection hv' with e1 e2 e3
      subst e1
      obtain ⟨b, off, rfl, hc⟩ := hc' (by omega)
      obtain ⟨c0, c1, c2, c3, c4, c5⟩ := hc j x hx
      have HNx : Hid (playD most (L.take (j + 1)) = stepD most (playD most (L.take j)) x) := playD_next most L j x hx
      obtain ⟨hk1, hk2⟩ := HKp.out j (by omega)
      obtain ⟨hk3, _⟩ := HKp.out (j + 1) (by omega)
      have HLk : Hid (∀ wr', Kept No wr wr' → Calls Try.prog 14 #[MP w.heap.size, RP Q, .agg #[.int .i64 x.kind, .int .i64 x.k.1, .int .i64 x.k.2, .int .i64 x.v.1, .int .i64 x.v.2, .int .i64 x.i]] wr' fun e w' => e = .returned (.bool true) ∧ DS w w' w.heap.size Q most (playD most (L.take (j + 1))).1 (playD most (L.take (j + 1))).2.1 (playD most (L.take (j + 1))).2.2 (playD most (L.take (j + 1))).1 (playD most (L.take (j + 1))).2.1 (playD most (L.take (j + 1))).2.2 (500 * (j + 1))) := by
        intro wr' hk
        refine (do_any (HD.out.no hk) HMo.out (by omega) (by omega) hk2 x.kind x.k.1 x.k.2 x.v.1 x.v.2 x.i hI.1 hI.2.1 hI.2.2.1).mono ?_
        rintro e w' ⟨rfl, a', n', sl', hst, hd⟩
        refine ⟨rfl, ?_⟩
        rw [HNx.out]
        have e4 : stepD most (playD most (L.take j)) x = (a', n', sl') := hst
        rw [e4]
        exact hd
      have HLo : Hid (∀ W', DS w W' w.heap.size Q most (playD most (L.take (j + 1))).1 (playD most (L.take (j + 1))).2.1 (playD most (L.take (j + 1))).2.2 (playD most (L.take (j + 1))).1 (playD most (L.take (j + 1))).2.1 (playD most (L.take (j + 1))).2.2 (500 * (j + 1)) → Calls Try.prog 15 #[MP w.heap.size, RP Q] W' fun e w' => e = .returned (.bool true) ∧ Kept No W' w') := fun W' hd => looks_any hd (by omega)
      have k1 : (0 : Int) ≤ (j : Int) := by omega
      have k2 : (j : Int) < (L.length : Int) := by omega
      clear hc hc' hx hI hk1 hk2 hk3 HNx e2 e3
      obtain ⟨kd, ⟨x1, x2⟩, ⟨y1, y2⟩, xi⟩ := x
      simp only at c0 c1 c2 c3 c4 c5 HLk
      go_wp2_with fail
      refine (HLk.out _ (Kept.refl _ _)).mono ?_
      rintro e W5 ⟨rfl, hd5⟩
      have HD5 : Hid _ := hd5
      clear hd5 HLk c0 c1 c2 c3 c4 c5
      go_wp2_with fail
      refine (HLo.out _ HD5.out).mono ?_
      rintro e W6 ⟨rfl, hk6⟩
      have HD6 : Hid (DS w W6 w.heap.size Q most (playD most (L.take (j + 1))).1 (playD most (L.take (j + 1))).2.1 (playD most (L.take (j + 1))).2.2 (playD most (L.take (j + 1))).1 (playD most (L.take (j + 1))).2.1 (playD most (L.take (j + 1))).2.2 (500 * (j + 1))) := HD5.out.no hk6
      clear hk6 HLo HD5
      go_wp2
      go_roundw
      case rel => exact ⟨j + 1, by omega, by go_num, HD6⟩
      case measure => simp [intOf]; omega
    · obtain rfl : j = L.length := by omega
      have HKe : Hid (Kept No w wr) := HD.out.re.kp
      clear HD
      go_wp2
      go_ret
      exact ⟨rfl, HKe.out⟩
end Go.Proofs.Ythefmfjlinpepaa
