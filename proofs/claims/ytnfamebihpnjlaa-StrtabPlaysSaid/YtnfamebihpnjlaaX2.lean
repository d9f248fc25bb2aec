/- A range over a function that yields ints: the body of a round is asked only for what may come behind those that came; one block of the iterator's own is left alone by the rounds. -/
import Derived.Test.YtnfamebihpnjlaaX1
import Derived.RangeFuncBound
import Derived.RangeFuncCalls
import Derived.RangeFuncLeaves
import Derived.Shelf.Abstract
import Derived.Shelf.RegionOpen
import Derived.OwnWalkIn
import Derived.TacticsInMore
import Derived.LoopNIn
import Derived.LoopIn
namespace Go.Proofs.Ytnfamebihpnjlaa
open Go.RowKit Go.Shelf
set_option linter.unusedSimpArgs false
set_option linter.unusedVariables false

/-- Nothing has turned but, from B on, what is no cells. -/
structure Loose (B : Nat) (w w' : World) : Prop where
  os : w'.os = w.os
  tape : w'.tape = w.tape
  output : w'.output = w.output
  size : w.heap.size ≤ w'.heap.size
  same : ∀ (k : Nat) (o : Obj), w.heap[k]? = some o → (k < B ∨ o.isCells = true) → w'.heap[k]? = some o

theorem Loose.refl (B : Nat) (w : World) : Loose B w w := ⟨rfl, rfl, rfl, Nat.le_refl _, fun _ _ h _ => h⟩
theorem Loose.trans {B : Nat} {a b c : World} (h : Loose B a b) (k : Loose B b c) : Loose B a c :=
  ⟨k.os.trans h.os, k.tape.trans h.tape, k.output.trans h.output, Nat.le_trans h.size k.size, fun i o hi ho => k.same i o (h.same i o hi ho) ho⟩
theorem Loose.drewN (B : Nat) (w : World) (n : Nat) : Loose B w (w.drewN n) := ⟨rfl, rfl, rfl, Nat.le_refl _, fun _ _ h _ => h⟩
theorem Loose.of_kept {B : Nat} {w w' : World} (h : Kept No w w') : Loose B w w' := ⟨h.os, h.tape, h.output, h.size, fun k o hk _ => h.heap hk id⟩
theorem Loose.alloc (B : Nat) (w : World) (o : Obj) : Loose B w (w.alloc o) :=
  ⟨rfl, rfl, rfl, by simp, fun k o' hk _ => (Below.heap_alloc w o k (hp_lt hk)).trans hk⟩
theorem Loose.putObj {B : Nat} {w : World} {l : Nat} {o : Obj} (o' : Obj) (hB : B ≤ l) (hl : w.heap[l]? = some o) (ho : o.isCells = false) : Loose B w (w.putObj l o') :=
  ⟨rfl, rfl, rfl, by simp, fun k o'' hk hc => by
    have hne : k ≠ l := by
      rintro rfl
      rw [hl] at hk; cases hk
      rcases hc with hc | hc
      · omega
      · rw [ho] at hc; cases hc
    exact (World.putObj_heap_other hne).trans hk⟩
theorem Loose.kept {B : Nat} {S : Nat → Prop} {w0 w w' : World} (h : Kept S w0 w) (hl : Loose B w w') (hB : w0.heap.size ≤ B) : Kept S w0 w' :=
  ⟨hl.os.trans h.os, hl.tape.trans h.tape, hl.output.trans h.output, Nat.le_trans h.size hl.size, fun k hk hn => by
    rw [← h.block k hk hn]
    have hlt : k < w.heap.size := Nat.lt_of_lt_of_le hk h.size
    rw [Array.getElem?_eq_getElem hlt]
    exact hl.same k _ (Array.getElem?_eq_getElem hlt) (.inl (by omega))⟩
theorem Loose.cells {B : Nat} {w w' : World} (hl : Loose B w w') {k : Nat} {c : Array Value} {e : TypeId} {f : Nat × Nat} (h : w.heap[k]? = some (.cells c e f)) : w'.heap[k]? = some (.cells c e f) := hl.same k _ h (.inr rfl)
theorem Loose.map {B : Nat} {w w' : World} (hl : Loose B w w') {M n c : Nat} {g : Int → Option (ByteArray × Nat)} (h : MapIs w M n c g) (hB : M < B) : MapIs w' M n c g := by
  obtain ⟨D, ⟨es, cc, hb, r⟩, hD⟩ := h
  exact ⟨D, ⟨es, cc, hl.same M _ hb (.inl hB), r⟩, hD⟩
theorem Loose.row {B : Nat} {w w' : World} (hl : Loose B w w') {b e sz n : Nat} {v : Value} {xs : List Value} (h : w.ownsRow b e sz v n xs) : w'.ownsRow b e sz v n xs := by
  obtain ⟨h1, h2⟩ := h
  refine ⟨h1, ?_⟩
  rcases h2 with h2 | ⟨g, cap, cur, a1, a2, a3, r⟩
  · exact Or.inl h2
  · exact Or.inr ⟨g, cap, cur, a1, a2, hl.cells a3, r⟩

/-- From B on what is no cells is as it was. -/
def Still (B : Nat) (w w' : World) : Prop := w.heap.size ≤ w'.heap.size ∧ ∀ (k : Nat) (o : Obj), B ≤ k → w.heap[k]? = some o → o.isCells = false → w'.heap[k]? = some o
theorem Still.of_kept {B : Nat} {S : Nat → Prop} {w w' : World} (h : Kept S w w') (hs : ∀ k, S k → k < B ∨ ∃ c e f, w.heap[k]? = some (.cells c e f)) : Still B w w' :=
  ⟨h.size, fun k o hB hk ho => h.heap hk (fun hS => by
    rcases hs k hS with h1 | ⟨c, e, f, h1⟩
    · omega
    · rw [hk] at h1; cases h1; cases ho)⟩

/-- What is said, of the iterator's block and what has come. -/
abbrev Inv := Nat → List Int → World → Prop
/-- It abides that. -/
def Tame (B : Nat) (I : Inv) : Prop := ∀ b ks w w', I b ks w → Loose B w w' → I b ks w'

/-- How the body of a round is left. -/
def post (B : Nat) (I : Inv) (b : Nat) (ks : List Int) (w : World) : Exit → Act → World → Prop
  | .normal, _, w' => Still B w w' ∧ I b ks w' ∧ w'.heap[b]? = w.heap[b]?
  | _, _, _ => False

/-- What an iterator promises. -/
def Rounds (F : Fence) (n : Nat) (P : Program) (g : Nat) (lb : Array Value) (Ok : List Int → Int → Prop) (Fin : List Int → Prop) (W : World) : Prop :=
  ∀ (l : Nat) (J : Inv) (W1 : World), Kept No W W1 → (∀ b W', Kept No W1 W' → W1.heap.size ≤ b → J b [] W') → (∀ b ks W m, J b ks W → J b ks (W.drewN m)) →
    (∀ b ks x W2, J b ks W2 → W1.heap.size ≤ b → b < W2.heap.size → Ok ks x → YieldAt F (n - 1) P l #[.int .i64 x] W2 fun e W' => e = .returned (.bool true) ∧ J b (ks ++ [x]) W' ∧ W'.heap[b]? = W2.heap[b]?) →
    CallsIn F n P g (#[.func (.yield l) #[] #[]] ++ lb) W1 fun e W' => (∃ v, e = .returned v) ∧ ∃ b ks, Fin ks ∧ J b ks W'

section
variable {F : Fence} {n : Nat} {P : Program}

/-- One round, from the walk of its body: the record is busy in between. -/
theorem round_at {l D fn : Nat} {B : Nat} {I : Inv} {b : Nat} {ks ks' : List Int} {ps : Array Tmp} {args tmps : Array Value} {assign body : Code} {a₁ : Act} {W : World}
    (hB : B ≤ l) (hD : B ≤ D) (hDl : D ≠ l) (hbl : b ≠ l) (hfn : F.fn fn) (tI : Tame B I)
    (hl : W.heap[l]? = some (.loop { state := .ready, pending := none, fn := fn, tmps := tmps, params := ps, assign := assign, body := body, defers := D }))
    (hk : W.heap[D]? = some (.deferred (some []))) (hs : args.size = ps.size) (hi : I b ks W)
    (ha : ∀ (K : Act → World → Prop), K a₁ W → assign.wpIn (F.inRound l) n P (Exit.then K (fun _ _ _ => False)) { tmps := (ps.zip args).foldl (fun t (p, v) => t.setIfInBounds p v) tmps, defers := [] } W)
    (hb : ∀ W', Loose B W W' → I b ks W' → body.wpIn (F.inRound l) n P (post B I b ks' W') a₁ W') :
    YieldAt F n P l args W fun e W' =>
      e = .returned (.bool true) ∧ (I b ks' W' ∧ W'.heap[l]? = some (.loop { state := .ready, pending := none, fn := fn, tmps := tmps, params := ps, assign := assign, body := body, defers := D }) ∧ W'.heap[D]? = some (.deferred (some []))) ∧ W'.heap[b]? = W.heap[b]? := by
  refine ⟨fn, _, assign, body, run_yield hl hs, roundIn_of_wpIn hfn (ha _ ⟨_, run_beginRound hl rfl, ?_⟩)⟩
  have hlo := Loose.putObj (.loop { state := .busy, pending := none, fn := fn, tmps := tmps, params := ps, assign := assign, body := body, defers := D }) hB hl rfl
  have hl2 : (W.putObj l (.loop { state := .busy, pending := none, fn := fn, tmps := tmps, params := ps, assign := assign, body := body, defers := D })).heap[l]? = _ := World.putObj_heap_same (hp_lt hl)
  have hk2 : (W.putObj l (.loop { state := .busy, pending := none, fn := fn, tmps := tmps, params := ps, assign := assign, body := body, defers := D })).heap[D]? = _ := (World.putObj_heap_other hDl).trans hk
  refine wpIn_mono (hb _ hlo (tI _ _ _ _ hi hlo)) ?_
  intro e a3 W3 hp
  cases e with
  | normal =>
    obtain ⟨hst, hi3, hbb⟩ := hp
    have hl3 := hst.2 l _ hB hl2 rfl
    have hk3 := hst.2 D _ hD hk2 rfl
    exact ⟨_, _, run_endRound none hl3, rfl, ⟨tI _ _ _ _ hi3 (Loose.putObj _ hB hl3 rfl), World.putObj_heap_same (hp_lt hl3), (World.putObj_heap_other hDl).trans hk3⟩,
      (World.putObj_heap_other hbl).trans (hbb.trans (World.putObj_heap_other hbl))⟩
  | ret => exact hp.elim
  | exit id => exact hp.elim
  | goto t => exact hp.elim
  | panic c => exact hp.elim
  | outgrown => exact hp.elim

/-- The statement. -/
theorem range_at {g : Operand} {t : Tmp} {assign body : Code} {Q : Exit → Act → World → Prop} {a : Act} {w : World}
    (hro : F.round = none) (h1 : 1 ≤ n) {gf : Nat} {lb : Array Value} (hg : a.eval g = .func (.func gf) #[] lb) (hFg : F.fn gf) (eg : ∀ args w, (callFunc gf args).run P w = .ok (.enter gf args) w)
    (Ok : List Int → Int → Prop) (Fin : List Int → Prop)
    (I : Inv) (tI : Tame w.heap.size I) (h0 : ∀ b W', Kept No w W' → w.heap.size ≤ b → I b [] W') (hseq : Rounds F (n - 1) P gf lb Ok Fin w)
    (a₁ : Value → Act)
    (hassign : ∀ (l : Nat) (x : Value) (W : World) (K : Act → World → Prop), K (a₁ x) W →
      assign.wpIn (F.inRound l) (n - 1 - 1) P (Exit.then K (fun _ _ _ => False)) { tmps := a.tmps.setIfInBounds t x, defers := [] } W)
    (hbody : ∀ (l b : Nat) (ks : List Int) (x : Int) (W : World), I b ks W → w.heap.size ≤ b → b < W.heap.size → Ok ks x → body.wpIn (F.inRound l) (n - 1 - 1) P (post w.heap.size I b (ks ++ [x]) W) (a₁ (.int .i64 x)) W)
    (hdone : ∀ (D b : Nat) (ks : List Int) (W : World), w.heap.size ≤ D → Fin ks → I b ks W → W.heap[D]? = some (.deferred (some [])) → Q .normal { a with defers := { target := .collected D, args := #[] } :: a.defers } W) :
    (Code.rangeFunc g #[t] assign body).wpIn F n P Q a w := by
  refine wpIn_rangeFunc ?_
  intro fn hfn
  rw [hro]
  obtain ⟨W1, hW1⟩ : ∃ W1, (w.alloc (.deferred (some []))).alloc (.loop { state := .ready, pending := none, fn := fn, tmps := a.tmps, params := #[t], assign := assign, body := body, defers := w.heap.size }) = W1 := ⟨_, rfl⟩
  have hkp : Kept No w W1 := by rw [← hW1]; exact ((Kept.refl _ _).alloc _).alloc _
  have hsz : W1.heap.size = w.heap.size + 2 := by rw [← hW1]; simp
  have hl1 : W1.heap[w.heap.size + 1]? = some (.loop { state := .ready, pending := none, fn := fn, tmps := a.tmps, params := #[t], assign := assign, body := body, defers := w.heap.size }) := by
    rw [← hW1]; have := World.alloc_heap_new (w.alloc (.deferred (some []))) (.loop { state := .ready, pending := none, fn := fn, tmps := a.tmps, params := #[t], assign := assign, body := body, defers := w.heap.size }); rwa [World.size_alloc] at this
  have hk1 : W1.heap[w.heap.size]? = some (.deferred (some [])) := by
    rw [← hW1]; exact (Below.heap_alloc _ _ _ (by simp)).trans (World.alloc_heap_new w _)
  refine ⟨w.heap.size + 1, [{ target := .collected w.heap.size, args := #[] }], W1, { target := .fn (.func gf) lb, args := #[.func (.yield (w.heap.size + 1)) #[] #[]] }, W1, gf,
    #[.func (.yield (w.heap.size + 1)) #[] #[]] ++ lb, W1, ?_, ?_, ?_, ?_, fun _ => h1, ?_⟩
  · rw [← hW1]; exact run_enterLoop_outer _ _ _ _ _
  · simp only [resolve, hg]
    simp [go_sem]
  · intro f' hf'; simp [Target.leads] at hf'; subst hf'; exact hFg
  · simp [invoke, go_sem, eg]
  · refine (hseq (w.heap.size + 1)
      (fun b ks W => I b ks W ∧ W.heap[w.heap.size + 1]? = some (.loop { state := .ready, pending := none, fn := fn, tmps := a.tmps, params := #[t], assign := assign, body := body, defers := w.heap.size }) ∧ W.heap[w.heap.size]? = some (.deferred (some [])))
      W1 hkp ?_ (fun b ks W m h => ⟨tI _ _ _ _ h.1 (Loose.drewN _ _ _), h.2⟩) ?_).mono ?_
    · intro b W' hk hb
      exact ⟨h0 b W' (hkp.trans hk) (by omega), hk.heap hl1 id, hk.heap hk1 id⟩
    · rintro b ks x W ⟨hi, hl, hk⟩ hb hbl hok
      exact (round_at (ks' := ks ++ [x]) (by omega) (Nat.le_refl _) (by omega) (by omega) hfn tI hl hk rfl hi (fun K hK => by have := hassign (w.heap.size + 1) (.int .i64 x) W K hK; simpa using this)
        (fun W' hl' hi' => hbody _ b ks x W' hi' (by omega) (Nat.lt_of_lt_of_le hbl hl'.size) hok))
    · rintro e W2 ⟨⟨v, rfl⟩, b, ks, hfin, hi, hl, hk⟩
      exact ⟨none, _, run_endLoop hl (by simp), hdone _ b ks _ (Nat.le_refl _) hfin (tI _ _ _ _ hi (Loose.putObj _ (by omega) hl rfl)) ((World.putObj_heap_other (by omega)).trans hk)⟩
end
end Go.Proofs.Ytnfamebihpnjlaa
