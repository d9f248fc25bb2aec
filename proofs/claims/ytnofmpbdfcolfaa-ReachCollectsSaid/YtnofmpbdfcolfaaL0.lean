/- A range over a function whose rounds are counted: the body of round k is asked only where k rounds are over and what comes is the k-th. -/
import Derived.Test.YtnofmpbdfcolfaaA8
import Derived.RangeFuncNested
import Derived.RangeFuncBound
import Derived.RangeFuncCalls
import Derived.RangeFuncLeaves
import Derived.Shelf.Abstract
import Derived.Shelf.RegionOpen
import Derived.OwnWalkIn
import Derived.TacticsInMore
import Derived.LoopNIn
import Derived.LoopIn
namespace Go.Proofs.Ytnofmpbdfcolfaa
open Go.RowKit Go.Shelf
set_option linter.unusedSimpArgs false
set_option linter.unusedVariables false

/-- Nothing has turned but, from B on, what is no cells. -/
structure Loose (B : Nat) (w w' : World) : Prop where
  os : w'.os = w.os
  tape : w'.tape = w.tape
  output : w'.output = w.output
  size : w.heap.size ≤ w'.heap.size
  same : ∀ (k : Nat) (o : Obj), w.heap[k]? = some o → (k < B ∨ o.isCells = true) → w'.heap[k]? = some o

theorem Loose.less {B B' : Nat} {w w' : World} (h : Loose B' w w') (hB : B ≤ B') : Loose B w w' := ⟨h.os, h.tape, h.output, h.size, fun k o hk ho => h.same k o hk (ho.imp (fun e => Nat.lt_of_lt_of_le e hB) id)⟩
theorem Loose.refl (B : Nat) (w : World) : Loose B w w := ⟨rfl, rfl, rfl, Nat.le_refl _, fun _ _ h _ => h⟩
theorem Loose.trans {B : Nat} {a b c : World} (h : Loose B a b) (k : Loose B b c) : Loose B a c :=
  ⟨k.os.trans h.os, k.tape.trans h.tape, k.output.trans h.output, Nat.le_trans h.size k.size, fun i o hi ho => k.same i o (h.same i o hi ho) ho⟩
theorem Loose.drewN (B : Nat) (w : World) (n : Nat) : Loose B w (w.drewN n) := ⟨rfl, rfl, rfl, Nat.le_refl _, fun _ _ h _ => h⟩
theorem Loose.of_below {B : Nat} {w w' : World} (h : Below w.heap.size w w') : Loose B w w' := ⟨h.os, h.tape, h.output, h.size, fun k o hk _ => (h.block k (hp_lt hk)).trans hk⟩
theorem Loose.alloc (B : Nat) (w : World) (o : Obj) : Loose B w (w.alloc o) :=
  ⟨rfl, rfl, rfl, by simp, fun k o' hk _ => (Below.heap_alloc w o k (hp_lt hk)).trans hk⟩
theorem Loose.putObj {B : Nat} {w : World} {l : Nat} {o : Obj} (o' : Obj) (hB : B ≤ l) (hl : w.heap[l]? = some o) (ho : o.isCells = false) : Loose B w (w.putObj l o') :=
  ⟨rfl, rfl, rfl, by simp, fun k o'' hk hc => by
    have hne : k ≠ l := by
      rintro rfl
      rw [hl] at hk; cases hk
      rcases hc with hc | hc
      · omega
      · rw [ho] at hc; cases hc
    exact (World.putObj_heap_other hne).trans hk⟩
theorem Loose.kept {B : Nat} {S : Nat → Prop} {w0 w w' : World} (h : Kept S w0 w) (hl : Loose B w w') (hB : w0.heap.size ≤ B) : Kept S w0 w' :=
  ⟨hl.os.trans h.os, hl.tape.trans h.tape, hl.output.trans h.output, Nat.le_trans h.size hl.size, fun k hk hn => by
    rw [← h.block k hk hn]
    have hlt : k < w.heap.size := Nat.lt_of_lt_of_le hk h.size
    rw [Array.getElem?_eq_getElem hlt]
    exact hl.same k _ (Array.getElem?_eq_getElem hlt) (.inl (by omega))⟩
theorem Loose.cells {B : Nat} {w w' : World} (hl : Loose B w w') {k : Nat} {c : Array Value} {e : TypeId} {f : Nat × Nat} (h : w.heap[k]? = some (.cells c e f)) : w'.heap[k]? = some (.cells c e f) := hl.same k _ h (.inr rfl)
/-- What is said abides that. -/
def Tame (B : Nat) (I : Nat → World → Prop) : Prop := ∀ k w w', I k w → Loose B w w' → I k w'

/-- From B on what is no cells is as it was. -/
def Still (B : Nat) (w w' : World) : Prop := w.heap.size ≤ w'.heap.size ∧ ∀ (k : Nat) (o : Obj), B ≤ k → w.heap[k]? = some o → o.isCells = false → w'.heap[k]? = some o

theorem Still.refl (B : Nat) (w : World) : Still B w w := ⟨Nat.le_refl _, fun _ _ _ h _ => h⟩
theorem Still.more {B B' : Nat} {w w' : World} (h : Still B w w') (hB : B ≤ B') : Still B' w w' := ⟨h.1, fun k o hk => h.2 k o (Nat.le_trans hB hk)⟩
theorem Still.trans {B : Nat} {a b c : World} (h : Still B a b) (k : Still B b c) : Still B a c := ⟨Nat.le_trans h.1 k.1, fun i o hB hi ho => k.2 i o hB (h.2 i o hB hi ho) ho⟩
theorem Still.of_kept {B : Nat} {S : Nat → Prop} {w w' : World} (h : Kept S w w') (hs : ∀ k, S k → k < B ∨ ∃ c e f, w.heap[k]? = some (.cells c e f)) : Still B w w' :=
  ⟨h.size, fun k o hB hk ho => h.heap hk (fun hS => by
    rcases hs k hS with h1 | ⟨c, e, f, h1⟩
    · omega
    · rw [hk] at h1; cases h1; cases ho)⟩
theorem Still.of_tn {B B' : Nat} {ts : List Nat} {w w' : World} (h : Tn ts B' w w') : Still B w w' := Still.of_kept h (fun k ⟨_, c, e, f, h1, _⟩ => .inr ⟨c, e, f, h1⟩)
theorem Loose.tn {B B' : Nat} {ts : List Nat} {w0 w w' : World} (h : Tn ts B' w0 w) (hl : Loose B w w') (hB : w0.heap.size ≤ B) : Tn ts B' w0 w' := Loose.kept h hl hB

/-- How the body of a round may be left. -/
def post (B : Nat) (I : Nat → World → Prop) (Ix : Nat → World → Prop) (k : Nat) (w : World) : Exit → Act → World → Prop
  | .normal, _, w' => Still B w w' ∧ I (k + 1) w'
  | .ret, _, w' => Still B w w' ∧ Ix (k + 1) w'
  | _, _, _ => False

/-- What an iterator promises: its rounds come one behind the other, N at the most; what comes in round k is told by E. -/
def Rounds (F : Fence) (n : Nat) (P : Program) (g : Nat) (lb : Array Value) (N : Nat) (E : Nat → World → Array Value → Prop) (I : Nat → World → Prop) : Prop :=
  ∀ (l : Nat) (J Jx : Nat → World → Prop) (W : World), (∀ k W, J k W → I k W) → (∀ k W1 W', J k W1 → Loose W.heap.size W1 W' → J k W') →
    (∀ k args W1, J k W1 → E k W1 args → k < N → YieldAt F (n - 1) P l args W1 fun e W' => Still W.heap.size W1 W' ∧ ((e = .returned (.bool true) ∧ J (k + 1) W') ∨ (e = .returned (.bool false) ∧ Jx (k + 1) W'))) →
    J 0 W → (∀ k W1 W', Jx k W1 → Loose W.heap.size W1 W' → Jx k W') →
    CallsIn F n P g (#[.func (.yield l) #[] #[]] ++ lb) W fun e W' => (∃ v, e = .returned v) ∧ (J N W' ∨ ∃ k, k ≤ N ∧ Jx k W')

section
variable {F : Fence} {n : Nat} {P : Program}

/-- One round, from the walk of its body: the record is busy in between. -/
theorem round_at {l D fn : Nat} {w : World} {I Ix : Nat → World → Prop} {k : Nat} {ps : Array Tmp} {args tmps : Array Value} {assign body : Code} {a₁ : Act} {W : World}
    (hB : w.heap.size ≤ l) (hD : w.heap.size ≤ D) (hDl : D ≠ l) (hfn : F.fn fn) (tI : Tame w.heap.size I) (tIx : Tame w.heap.size Ix)
    (hl : W.heap[l]? = some (.loop { state := .ready, pending := none, fn := fn, tmps := tmps, params := ps, assign := assign, body := body, defers := D }))
    (hk : W.heap[D]? = some (.deferred (some []))) (hs : args.size = ps.size) (hi : I k W)
    (ha : ∀ (K : Act → World → Prop), K a₁ W → assign.wpIn (F.inRound l) n P (Exit.then K (fun _ _ _ => False)) { tmps := (ps.zip args).foldl (fun t (p, v) => t.setIfInBounds p v) tmps, defers := [] } W)
    (hb : ∀ W', Loose w.heap.size W W' → I k W' → body.wpIn (F.inRound l) n P (post w.heap.size I Ix k W') a₁ W') :
    YieldAt F n P l args W fun e W' => (∀ B', l < B' → Still B' W W') ∧ (
      (e = .returned (.bool true) ∧ I (k + 1) W' ∧ W'.heap[l]? = some (.loop { state := .ready, pending := none, fn := fn, tmps := tmps, params := ps, assign := assign, body := body, defers := D }) ∧ W'.heap[D]? = some (.deferred (some []))) ∨
      (e = .returned (.bool false) ∧ Ix (k + 1) W' ∧ W'.heap[l]? = some (.loop { state := .done, pending := some .ret, fn := fn, tmps := tmps, params := ps, assign := assign, body := body, defers := D }) ∧ W'.heap[D]? = some (.deferred (some [])))) := by
  have hput : ∀ (W : World) (o : Obj) (B' : Nat), l < B' → Still B' W (W.putObj l o) := fun W o B' hB' => ⟨by simp, fun k o' hk h _ => (World.putObj_heap_other (by omega)).trans h⟩
  refine ⟨fn, _, assign, body, run_yield hl hs, roundIn_of_wpIn hfn (ha _ ⟨_, run_beginRound hl rfl, ?_⟩)⟩
  have hlo := Loose.putObj (.loop { state := .busy, pending := none, fn := fn, tmps := tmps, params := ps, assign := assign, body := body, defers := D }) hB hl rfl
  have hl2 : (W.putObj l (.loop { state := .busy, pending := none, fn := fn, tmps := tmps, params := ps, assign := assign, body := body, defers := D })).heap[l]? = _ := World.putObj_heap_same (hp_lt hl)
  have hk2 : (W.putObj l (.loop { state := .busy, pending := none, fn := fn, tmps := tmps, params := ps, assign := assign, body := body, defers := D })).heap[D]? = _ := (World.putObj_heap_other hDl).trans hk
  refine wpIn_mono (hb _ hlo (tI _ _ _ hi hlo)) ?_
  intro e a3 W3 hp
  cases e with
  | normal =>
    obtain ⟨hst, hi3⟩ := hp
    have hl3 := hst.2 l _ hB hl2 rfl
    have hk3 := hst.2 D _ hD hk2 rfl
    exact ⟨_, _, run_endRound none hl3, fun B' hB' => ((hput _ _ _ hB').trans (hst.more (by omega))).trans (hput _ _ _ hB'), .inl ⟨rfl, tI _ _ _ hi3 (Loose.putObj _ hB hl3 rfl), World.putObj_heap_same (hp_lt hl3), (World.putObj_heap_other hDl).trans hk3⟩⟩
  | ret =>
    obtain ⟨hst, hi3⟩ := hp
    have hl3 := hst.2 l _ hB hl2 rfl
    have hk3 := hst.2 D _ hD hk2 rfl
    exact ⟨_, _, run_endRound (some .ret) hl3, fun B' hB' => ((hput _ _ _ hB').trans (hst.more (by omega))).trans (hput _ _ _ hB'), .inr ⟨rfl, tIx _ _ _ hi3 (Loose.putObj _ hB hl3 rfl), World.putObj_heap_same (hp_lt hl3), (World.putObj_heap_other hDl).trans hk3⟩⟩
  | exit id => exact hp.elim
  | goto t => exact hp.elim
  | panic c => exact hp.elim
  | outgrown => exact hp.elim

/-- The statement. -/
theorem range_at {g : Operand} {ps : Array Tmp} {assign body : Code} {Q : Exit → Act → World → Prop} {a : Act} {w : World}
    (hro : F.round = none) (h1 : 1 ≤ n) {gf : Nat} {lb : Array Value} (hg : a.eval g = .func (.func gf) #[] lb) (hFg : F.fn gf) (eg : ∀ args w, (callFunc gf args).run P w = .ok (.enter gf args) w)
    (N : Nat) (E : Nat → World → Array Value → Prop) (hE : ∀ k W args, E k W args → args.size = ps.size) (hEt : ∀ k W W' args, E k W args → Loose w.heap.size W W' → E k W' args)
    (I Ix : Nat → World → Prop) (tI : Tame w.heap.size I) (tIx : Tame w.heap.size Ix) (h0 : I 0 w) (hseq : Rounds F (n - 1) P gf lb N E I)
    (a₁ : Array Value → Act)
    (hassign : ∀ (l : Nat) (args : Array Value) (W : World) (K : Act → World → Prop), args.size = ps.size → K (a₁ args) W →
      assign.wpIn (F.inRound l) (n - 1 - 1) P (Exit.then K (fun _ _ _ => False)) { tmps := (ps.zip args).foldl (fun t (p, v) => t.setIfInBounds p v) a.tmps, defers := [] } W)
    (hbody : ∀ (l k : Nat) (args : Array Value) (W : World), I k W → E k W args → k < N → body.wpIn (F.inRound l) (n - 1 - 1) P (post w.heap.size I Ix k W) (a₁ args) W)
    (hdone : ∀ (D : Nat) (W : World), w.heap.size ≤ D → I N W → W.heap[D]? = some (.deferred (some [])) → Q .normal { a with defers := { target := .collected D, args := #[] } :: a.defers } W)
    (hstop : ∀ (D k : Nat) (W : World), w.heap.size ≤ D → Ix k W → W.heap[D]? = some (.deferred (some [])) → Code.ret.wpIn F n P Q { a with defers := { target := .collected D, args := #[] } :: a.defers } W) :
    (Code.rangeFunc g ps assign body).wpIn F n P Q a w := by
  refine wpIn_rangeFunc ?_
  intro fn hfn
  rw [hro]
  obtain ⟨W1, hW1⟩ : ∃ W1, (w.alloc (.deferred (some []))).alloc (.loop { state := .ready, pending := none, fn := fn, tmps := a.tmps, params := ps, assign := assign, body := body, defers := w.heap.size }) = W1 := ⟨_, rfl⟩
  have hlo : Loose w.heap.size w W1 := by rw [← hW1]; exact (Loose.alloc _ _ _).trans (Loose.alloc _ _ _)
  have hl1 : W1.heap[w.heap.size + 1]? = some (.loop { state := .ready, pending := none, fn := fn, tmps := a.tmps, params := ps, assign := assign, body := body, defers := w.heap.size }) := by
    rw [← hW1]; have := World.alloc_heap_new (w.alloc (.deferred (some []))) (.loop { state := .ready, pending := none, fn := fn, tmps := a.tmps, params := ps, assign := assign, body := body, defers := w.heap.size }); rwa [World.size_alloc] at this
  have hk1 : W1.heap[w.heap.size]? = some (.deferred (some [])) := by
    rw [← hW1]; exact (Below.heap_alloc _ _ _ (by simp)).trans (World.alloc_heap_new w _)
  have hz1 : w.heap.size ≤ W1.heap.size := hlo.size
  refine ⟨w.heap.size + 1, [{ target := .collected w.heap.size, args := #[] }], W1, { target := .fn (.func gf) lb, args := #[.func (.yield (w.heap.size + 1)) #[] #[]] }, W1, gf,
    #[.func (.yield (w.heap.size + 1)) #[] #[]] ++ lb, W1, ?_, ?_, ?_, ?_, fun _ => h1, ?_⟩
  · rw [← hW1]; exact run_enterLoop_outer _ _ _ _ _
  · simp only [resolve, hg]
    simp [go_sem]
  · intro f' hf'; simp [Target.leads] at hf'; subst hf'; exact hFg
  · simp [invoke, go_sem, eg]
  · refine (hseq (w.heap.size + 1)
      (fun k W => I k W ∧ W.heap[w.heap.size + 1]? = some (.loop { state := .ready, pending := none, fn := fn, tmps := a.tmps, params := ps, assign := assign, body := body, defers := w.heap.size }) ∧ W.heap[w.heap.size]? = some (.deferred (some [])))
      (fun k W => Ix k W ∧ W.heap[w.heap.size + 1]? = some (.loop { state := .done, pending := some .ret, fn := fn, tmps := a.tmps, params := ps, assign := assign, body := body, defers := w.heap.size }) ∧ W.heap[w.heap.size]? = some (.deferred (some [])))
      W1 (fun k W h => h.1) (fun k W W' h hb => ⟨tI _ _ _ h.1 (hb.less hz1), hb.same _ _ h.2.1 (.inl (hp_lt hl1)), hb.same _ _ h.2.2 (.inl (hp_lt hk1))⟩) ?_ ⟨tI _ _ _ h0 hlo, hl1, hk1⟩ (fun k W W' h hb => ⟨tIx _ _ _ h.1 (hb.less hz1), hb.same _ _ h.2.1 (.inl (hp_lt hl1)), hb.same _ _ h.2.2 (.inl (hp_lt hk1))⟩)).mono ?_
    · rintro k args W ⟨hi, hl, hk⟩ hEk hkN
      refine YieldAt.mono (round_at (by omega) (Nat.le_refl _) (by omega) hfn tI tIx hl hk (hE _ _ _ hEk) hi (fun K hK => hassign _ args W K (hE _ _ _ hEk) hK)
        (fun W' hl' hi' => hbody _ k args W' hi' (hEt _ _ _ _ hEk hl') hkN)) (fun e W' h => ⟨h.1 _ (hp_lt hl1), h.2⟩)
    · rintro e W2 ⟨⟨v, rfl⟩, (⟨hi, hl, hk⟩ | ⟨k, _, hi, hl, hk⟩)⟩
      · exact ⟨none, _, run_endLoop hl (by simp), hdone _ _ (Nat.le_refl _) (tI _ _ _ hi (Loose.putObj _ (by omega) hl rfl)) ((World.putObj_heap_other (by omega)).trans hk)⟩
      · exact ⟨some .ret, _, run_endLoop hl (by simp), hstop _ k _ (Nat.le_refl _) (tIx _ _ _ hi (Loose.putObj _ (by omega) hl rfl)) ((World.putObj_heap_other (by omega)).trans hk)⟩
end
end Go.Proofs.Ytnofmpbdfcolfaa
