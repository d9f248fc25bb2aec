/- A range over a function whose variables are boxed in each round: an int and a value. -/
import Derived.Test.YtnofmpbdfcolfaaA9
namespace Go.Proofs.Ytnofmpbdfcolfaa
open Go.RowKit Go.Shelf
set_option linter.unusedSimpArgs false
set_option linter.unusedVariables false

section
variable {F : Fence} {n : Nat} {P : Program}

/-- One round, from the walk of its body: the record is busy in between. -/
theorem round_at2 {l D fn : Nat} {w : World} {I Ix : Nat → World → Prop} {k : Nat} {ps : Array Tmp} {args tmps : Array Value} {assign body : Code} {a₁ : Act} {W0 W : World} (hWa : Below W0.heap.size W0 W)
    (hB : w.heap.size ≤ l) (hD : w.heap.size ≤ D) (hDl : D ≠ l) (hfn : F.fn fn) (tI : Tame w.heap.size I) (tIx : Tame w.heap.size Ix)
    (hl0 : W0.heap[l]? = some (.loop { state := .ready, pending := none, fn := fn, tmps := tmps, params := ps, assign := assign, body := body, defers := D }))
    (hk0 : W0.heap[D]? = some (.deferred (some []))) (hs : args.size = ps.size) (hi0 : I k W0)
    (ha : ∀ (K : Act → World → Prop), K a₁ W → assign.wpIn (F.inRound l) n P (Exit.then K (fun _ _ _ => False)) { tmps := (ps.zip args).foldl (fun t (p, v) => t.setIfInBounds p v) tmps, defers := [] } W0)
    (hb : ∀ W', Loose w.heap.size W W' → I k W' → body.wpIn (F.inRound l) n P (post w.heap.size I Ix k W') a₁ W') :
    YieldAt F n P l args W0 fun e W' => (∀ B', l < B' → Still B' W0 W') ∧ (
      (e = .returned (.bool true) ∧ I (k + 1) W' ∧ W'.heap[l]? = some (.loop { state := .ready, pending := none, fn := fn, tmps := tmps, params := ps, assign := assign, body := body, defers := D }) ∧ W'.heap[D]? = some (.deferred (some []))) ∨
      (e = .returned (.bool false) ∧ Ix (k + 1) W' ∧ W'.heap[l]? = some (.loop { state := .done, pending := some .ret, fn := fn, tmps := tmps, params := ps, assign := assign, body := body, defers := D }) ∧ W'.heap[D]? = some (.deferred (some [])))) := by
  have hl := (hWa.block _ (hp_lt hl0)).trans hl0
  have hk := (hWa.block _ (hp_lt hk0)).trans hk0
  have hi := tI _ _ _ hi0 (Loose.of_below hWa)
  have hsW : ∀ B', Still B' W0 W := fun B' => ⟨hWa.size, fun k o _ h _ => (hWa.block _ (hp_lt h)).trans h⟩
  have hput : ∀ (W : World) (o : Obj) (B' : Nat), l < B' → Still B' W (W.putObj l o) := fun W o B' hB' => ⟨by simp, fun k o' hk h _ => (World.putObj_heap_other (by omega)).trans h⟩
  refine ⟨fn, _, assign, body, run_yield hl0 hs, roundIn_of_wpIn hfn (ha _ ⟨_, run_beginRound hl rfl, ?_⟩)⟩
  have hlo := Loose.putObj (.loop { state := .busy, pending := none, fn := fn, tmps := tmps, params := ps, assign := assign, body := body, defers := D }) hB hl rfl
  have hl2 : (W.putObj l (.loop { state := .busy, pending := none, fn := fn, tmps := tmps, params := ps, assign := assign, body := body, defers := D })).heap[l]? = _ := World.putObj_heap_same (hp_lt hl)
  have hk2 : (W.putObj l (.loop { state := .busy, pending := none, fn := fn, tmps := tmps, params := ps, assign := assign, body := body, defers := D })).heap[D]? = _ := (World.putObj_heap_other hDl).trans hk
  refine wpIn_mono (hb _ hlo (tI _ _ _ hi hlo)) ?_
  intro e a3 W3 hp
  cases e with
  | normal =>
    obtain ⟨hst, hi3⟩ := hp
    have hl3 := hst.2 l _ hB hl2 rfl
    have hk3 := hst.2 D _ hD hk2 rfl
    exact ⟨_, _, run_endRound none hl3, fun B' hB' => (((hsW B').trans (hput _ _ _ hB')).trans (hst.more (by omega))).trans (hput _ _ _ hB'), .inl ⟨rfl, tI _ _ _ hi3 (Loose.putObj _ hB hl3 rfl), World.putObj_heap_same (hp_lt hl3), (World.putObj_heap_other hDl).trans hk3⟩⟩
  | ret =>
    obtain ⟨hst, hi3⟩ := hp
    have hl3 := hst.2 l _ hB hl2 rfl
    have hk3 := hst.2 D _ hD hk2 rfl
    exact ⟨_, _, run_endRound (some .ret) hl3, fun B' hB' => (((hsW B').trans (hput _ _ _ hB')).trans (hst.more (by omega))).trans (hput _ _ _ hB'), .inr ⟨rfl, tIx _ _ _ hi3 (Loose.putObj _ hB hl3 rfl), World.putObj_heap_same (hp_lt hl3), (World.putObj_heap_other hDl).trans hk3⟩⟩
  | exit id => exact hp.elim
  | goto t => exact hp.elim
  | panic c => exact hp.elim
  | outgrown => exact hp.elim

/-- The statement. -/
theorem range_at2 {g : Operand} {ps : Array Tmp} {assign body : Code} {Q : Exit → Act → World → Prop} {a : Act} {w : World}
    (hro : F.round = none) (h1 : 1 ≤ n) {gf : Nat} {lb : Array Value} (hg : a.eval g = .func (.func gf) #[] lb) (hFg : F.fn gf) (eg : ∀ args w, (callFunc gf args).run P w = .ok (.enter gf args) w)
    (N : Nat) (E : Nat → World → Array Value → Prop) (hE : ∀ k W args, E k W args → args.size = ps.size) (hEt : ∀ k W W' args, E k W args → Loose w.heap.size W W' → E k W' args)
    (I Ix : Nat → World → Prop) (tI : Tame w.heap.size I) (tIx : Tame w.heap.size Ix) (h0 : I 0 w) (hseq : Rounds F (n - 1) P gf lb N E I)
    (a₁ : Array Value → World → Act) (gW : Array Value → World → World) (hgW : ∀ args W, Below W.heap.size W (gW args W))
    (hassign : ∀ (l : Nat) (args : Array Value) (W : World) (K : Act → World → Prop), args.size = ps.size → (∃ k W', E k W' args) → K (a₁ args W) (gW args W) →
      assign.wpIn (F.inRound l) (n - 1 - 1) P (Exit.then K (fun _ _ _ => False)) { tmps := (ps.zip args).foldl (fun t (p, v) => t.setIfInBounds p v) a.tmps, defers := [] } W)
    (hbody : ∀ (l k : Nat) (args : Array Value) (W W' : World), I k W → I k W' → E k W' args → k < N → Loose w.heap.size (gW args W) W' → body.wpIn (F.inRound l) (n - 1 - 1) P (post w.heap.size I Ix k W') (a₁ args W) W')
    (hdone : ∀ (D : Nat) (W : World), w.heap.size ≤ D → I N W → W.heap[D]? = some (.deferred (some [])) → Q .normal { a with defers := { target := .collected D, args := #[] } :: a.defers } W)
    (hstop : ∀ (D k : Nat) (W : World), w.heap.size ≤ D → Ix k W → W.heap[D]? = some (.deferred (some [])) → Code.ret.wpIn F n P Q { a with defers := { target := .collected D, args := #[] } :: a.defers } W) :
    (Code.rangeFunc g ps assign body).wpIn F n P Q a w := by
  refine wpIn_rangeFunc ?_
  intro fn hfn
  rw [hro]
  obtain ⟨W1, hW1⟩ : ∃ W1, (w.alloc (.deferred (some []))).alloc (.loop { state := .ready, pending := none, fn := fn, tmps := a.tmps, params := ps, assign := assign, body := body, defers := w.heap.size }) = W1 := ⟨_, rfl⟩
  have hlo : Loose w.heap.size w W1 := by rw [← hW1]; exact (Loose.alloc _ _ _).trans (Loose.alloc _ _ _)
  have hl1 : W1.heap[w.heap.size + 1]? = some (.loop { state := .ready, pending := none, fn := fn, tmps := a.tmps, params := ps, assign := assign, body := body, defers := w.heap.size }) := by
    rw [← hW1]; have := World.alloc_heap_new (w.alloc (.deferred (some []))) (.loop { state := .ready, pending := none, fn := fn, tmps := a.tmps, params := ps, assign := assign, body := body, defers := w.heap.size }); rwa [World.size_alloc] at this
  have hk1 : W1.heap[w.heap.size]? = some (.deferred (some [])) := by
    rw [← hW1]; exact (Below.heap_alloc _ _ _ (by simp)).trans (World.alloc_heap_new w _)
  have hz1 : w.heap.size ≤ W1.heap.size := hlo.size
  refine ⟨w.heap.size + 1, [{ target := .collected w.heap.size, args := #[] }], W1, { target := .fn (.func gf) lb, args := #[.func (.yield (w.heap.size + 1)) #[] #[]] }, W1, gf,
    #[.func (.yield (w.heap.size + 1)) #[] #[]] ++ lb, W1, ?_, ?_, ?_, ?_, fun _ => h1, ?_⟩
  · rw [← hW1]; exact run_enterLoop_outer _ _ _ _ _
  · simp only [resolve, hg]
    simp [go_sem]
  · intro f' hf'; simp [Target.leads] at hf'; subst hf'; exact hFg
  · simp [invoke, go_sem, eg]
  · refine (hseq (w.heap.size + 1)
      (fun k W => I k W ∧ W.heap[w.heap.size + 1]? = some (.loop { state := .ready, pending := none, fn := fn, tmps := a.tmps, params := ps, assign := assign, body := body, defers := w.heap.size }) ∧ W.heap[w.heap.size]? = some (.deferred (some [])))
      (fun k W => Ix k W ∧ W.heap[w.heap.size + 1]? = some (.loop { state := .done, pending := some .ret, fn := fn, tmps := a.tmps, params := ps, assign := assign, body := body, defers := w.heap.size }) ∧ W.heap[w.heap.size]? = some (.deferred (some [])))
      W1 (fun k W h => h.1) (fun k W W' h hb => ⟨tI _ _ _ h.1 (hb.less hz1), hb.same _ _ h.2.1 (.inl (hp_lt hl1)), hb.same _ _ h.2.2 (.inl (hp_lt hk1))⟩) ?_ ⟨tI _ _ _ h0 hlo, hl1, hk1⟩ (fun k W W' h hb => ⟨tIx _ _ _ h.1 (hb.less hz1), hb.same _ _ h.2.1 (.inl (hp_lt hl1)), hb.same _ _ h.2.2 (.inl (hp_lt hk1))⟩)).mono ?_
    · rintro k args W ⟨hi, hl, hk⟩ hEk hkN
      refine YieldAt.mono (round_at2 (hgW args W) (by omega) (Nat.le_refl _) (by omega) hfn tI tIx hl hk (hE _ _ _ hEk) hi (fun K hK => hassign _ args W K (hE _ _ _ hEk) ⟨_, _, hEk⟩ hK)
        (fun W' hl' hi' => hbody _ k args W W' hi hi' (hEt _ _ _ _ hEk ((Loose.of_below (hgW args W)).trans hl')) hkN hl')) (fun e W' h => ⟨h.1 _ (hp_lt hl1), h.2⟩)
    · rintro e W2 ⟨⟨v, rfl⟩, (⟨hi, hl, hk⟩ | ⟨k, _, hi, hl, hk⟩)⟩
      · exact ⟨none, _, run_endLoop hl (by simp), hdone _ _ (Nat.le_refl _) (tI _ _ _ hi (Loose.putObj _ (by omega) hl rfl)) ((World.putObj_heap_other (by omega)).trans hk)⟩
      · exact ⟨some .ret, _, run_endLoop hl (by simp), hstop _ k _ (Nat.le_refl _) (tIx _ _ _ hi (Loose.putObj _ (by omega) hl rfl)) ((World.putObj_heap_other (by omega)).trans hk)⟩
end


def decV : Value → V
  | .agg xs => (intOf (xs.getD 0 undef), intOf (xs.getD 1 undef))
  | _ => (0, 0)
def decP (args : Array Value) : Nat × V := ((intOf (args.getD 0 undef)).toNat, decV (args.getD 1 undef))
theorem decP_mk (p : Nat × V) : decP #[.int .i64 (p.1 : Int), AV p.2] = p := by
  obtain ⟨a, b, c⟩ := p
  simp [decP, decV, intOf]
/-- The box of a round. -/
def boxV (p : Nat × V) (W : World) : World := W.alloc (.cells #[.int .i64 p.2.1, .int .i64 p.2.2] 40)
theorem boxV_below (p : Nat × V) (W : World) : Below W.heap.size W (boxV p W) := (Below.refl _ _).alloc (Nat.le_refl _) _

/-- A range over a table's values. -/
theorem range_iv {n : Nat} {P : Program} {g : Operand} {t1 t2 : Tmp} {assign body : Code} {Q : Exit → Act → World → Prop} {a : Act} {w : World} (h1 : 1 ≤ n) {gf : Nat} {lb : Array Value}
    (hg : a.eval g = .func (.func gf) #[] lb) (eg : ∀ args w, (callFunc gf args).run P w = .ok (.enter gf args) w) (N : Nat) (Ev : Nat → Nat × V)
    (I Ix : Nat → World → Prop) (tI : Tame w.heap.size I) (tIx : Tame w.heap.size Ix) (h0 : I 0 w) (hseq : Rounds Fence.wide (n - 1) P gf lb N (fun j W args => args = #[.int .i64 ((Ev j).1 : Nat), AV (Ev j).2]) I) (mk : Nat × V → Nat → Act)
    (hassign : ∀ (l : Nat) (e : Nat × V) (W : World) (K : Act → World → Prop), K (mk e W.heap.size) (boxV e W) →
      assign.wpIn (Fence.wide.inRound l) (n - 1 - 1) P (Exit.then K (fun _ _ _ => False)) { tmps := (a.tmps.setIfInBounds t1 (.int .i64 (e.1 : Int))).setIfInBounds t2 (AV e.2), defers := [] } W)
    (hbody : ∀ (l j : Nat) (W W' : World), I j W → I j W' → j < N → Loose w.heap.size (boxV (Ev j) W) W' → body.wpIn (Fence.wide.inRound l) (n - 1 - 1) P (post w.heap.size I Ix j W') (mk (Ev j) W.heap.size) W')
    (hdone : ∀ (D : Nat) (W : World), w.heap.size ≤ D → I N W → W.heap[D]? = some (.deferred (some [])) → Q .normal { a with defers := { target := .collected D, args := #[] } :: a.defers } W)
    (hstop : ∀ (D k : Nat) (W : World), w.heap.size ≤ D → Ix k W → W.heap[D]? = some (.deferred (some [])) → Code.ret.wpIn Fence.wide n P Q { a with defers := { target := .collected D, args := #[] } :: a.defers } W) :
    (Code.rangeFunc g #[t1, t2] assign body).wpIn Fence.wide n P Q a w := by
  refine range_at2 rfl h1 hg trivial eg N (fun j W args => args = #[.int .i64 ((Ev j).1 : Nat), AV (Ev j).2]) ?_ ?_ I Ix tI tIx h0 hseq (fun args W => mk (decP args) W.heap.size) (fun args W => boxV (decP args) W) (fun args W => boxV_below _ _) ?_ ?_ hdone hstop
  · rintro k W args rfl; rfl
  · rintro k W W' args h hl; exact h
  · rintro l args W K hs ⟨k, W', rfl⟩ hK
    rw [decP_mk] at hK
    have := hassign l (Ev k) W K hK
    simpa using this
  · rintro l k args W W' hi0 hi rfl hk hl
    rw [decP_mk] at hl ⊢
    exact hbody l k W W' hi0 hi hk hl
end Go.Proofs.Ytnofmpbdfcolfaa
