/- A table made since; its calls. -/
import Derived.Test.YthefmfjlinpepaaV1
import Derived.Test.YthefmfjlinpepaaV2
import Derived.Test.YthefmfjlinpepaaN2
namespace Go.Proofs.Ythefmfjlinpepaa
open Go.RowKit Go.Shelf
set_option linter.unusedSimpArgs false
set_option linter.unusedVariables false
attribute [local go_sem] Oper.semAt_some

theorem ky_i64 (t n : Int) (h : I64 n) : I64 (kyN t n) := by
  unfold kyN
  split
  · rename_i h0
    unfold whE at h0
    unfold whN
    split at h0
    · rename_i h1
      rw [if_pos h1]
      split at h0
      · rename_i h2; rw [if_pos h2]; exact h
      · rename_i h2
        rw [if_neg h2]
        split at h0
        · rename_i h3
          rw [if_pos h3]
          have hw : withinB (B n) = true := by
            unfold whB at h3; rw [Bool.and_eq_true] at h3; exact h3.1
          have := within_facts hw
          exact ⟨this.2.1, this.2.2.1⟩
        · exact absurd h0 (by decide)
    · exact absurd h0 (by decide)
  · exact h

/-- All numbers of slots are int64s. -/
def I64s (sl : Sl) : Prop := ∀ i, I64 (sl i).2
theorem sput_i64 {sl : Sl} (h : I64s sl) {i : Int} {x : Int × Int} (hx : I64 x.2) : I64s (sput sl i x) := by
  intro j; unfold sput; split
  · exact hx
  · exact h j
theorem putR_i64 {a n : Nat} {sl : Sl} (h : I64s sl) {k v : Int × Int} (hk : I64 k.2) (hv : I64 v.2) : I64s (putR a n sl k v).2 := by
  unfold putR
  split
  · exact sput_i64 h hv
  · split
    · exact h
    · split
      · exact h
      · exact sput_i64 (sput_i64 h hk) hv
theorem putAll_i64 {a n : Nat} : ∀ (L : List Ent) {sl : Sl}, I64s sl → (∀ e ∈ L, I64 e.1.2 ∧ I64 e.2.2) → I64s (putAll a n sl L)
  | [], _, h, _ => h
  | e :: L, sl, h, hL => by
    have he := hL e List.mem_cons_self
    exact putAll_i64 L (putR_i64 h he.1 he.2) (fun x hx => hL x (List.mem_cons_of_mem _ hx))
theorem ents_i64 {a n : Nat} {sl : Sl} (ha : a ≤ 100000) (hn : n ≤ 100000) (h : I64s sl) (f : Nat) (hf : f ≤ 100000) : ∀ e ∈ ents a n sl f, I64 e.1.2 ∧ I64 e.2.2 := by
  intro e he
  unfold ents entsTo at he
  rw [List.mem_filterMap] at he
  obtain ⟨j, hj, hje⟩ := he
  split at hje
  · cases hje
    refine ⟨?_, h _⟩
    unfold keyAt
    split
    · rename_i hlt
      constructor <;> simp <;> omega
    · exact h _
  · cases hje
theorem setR_i64 {most : Int} {a n : Nat} {sl : Sl} (ha : a ≤ 100000) (hn : n ≤ 100000) (h : I64s sl) {k v : Int × Int} (hk : I64 k.2) (hv : I64 v.2) : I64s (setR most a n sl k v).2.2.2 := by
  unfold setR
  split
  · exact h
  · split
    · exact putR_i64 h (ky_i64 _ _ hk) hv
    · split
      · exact h
      · exact putR_i64 (putAll_i64 _ (fun _ => ⟨by decide, by decide⟩) (ents_i64 ha hn h 0 (by omega))) (ky_i64 _ _ hk) hv

/-- A table made since w. -/
structure Re (w W : World) (P : Nat) (most : Int) (a n : Nat) (sl : Sl) (b : Nat) : Prop where
  tb : ∃ nn, nn ≤ b ∧ Tb W P most a n nn sl
  fp : ∀ k, FP W P k → w.heap.size ≤ k
  kp : Kept No w W
  is : I64s sl

theorem Re.made {w w1 : World} {most : Int} (ht : Tb w1 w.heap.size most 0 0 0 (fun _ => (0, 0))) (hk : Kept No w w1) (hM : w1.heap[w.heap.size]? = some (mb most 0 0 none)) : Re w w1 w.heap.size most 0 0 (fun _ => (0, 0)) 0 := by
  refine ⟨⟨0, Nat.le_refl _, ht⟩, ?_, hk, fun _ => ⟨by decide, by decide⟩⟩
  rintro k (rfl | ⟨m, a, n, e⟩)
  · exact Nat.le_refl _
  · rw [hM] at e; simp [mb] at e
theorem NewMem_re (most : Int) (w : World) : Calls Try.prog 12 #[.int .i64 most] w fun e w' => e = .returned (MP w.heap.size) ∧ Re w w' w.heap.size most 0 0 (fun _ => (0, 0)) 0 := by
  go_enter Try.func12, Try.ntmps12
  go_wp2
  go_ret
  exact ⟨rfl, Re.made ⟨⟨none, World.alloc_heap_new w _, fun _ => ⟨rfl, rfl, fun _ => rfl⟩, fun m e => by cases e⟩, fun i h => absurd rfl h, by omega⟩ ((Kept.refl _ _).alloc _) (World.alloc_heap_new w _)⟩
theorem Re.lt {w W : World} {P : Nat} {most : Int} {a n : Nat} {sl : Sl} {b : Nat} (h : Re w W P most a n sl b) : P < W.heap.size := by
  obtain ⟨nn, _, ht⟩ := h.tb; exact ht.lt
theorem Re.own {w W W' : World} {P : Nat} {most : Int} {a n : Nat} {sl : Sl} {b : Nat} (h : Re w W P most a n sl b) (ho : Own W P W') {a' n' nn' b' : Nat} {sl' : Sl} (ht : Tb W' P most a' n' nn' sl') (hb : nn' ≤ b') (hi : I64s sl') : Re w W' P most a' n' sl' b' :=
  ⟨⟨nn', hb, ht⟩, fun k hk => (ho.fp k hk).elim (h.fp k) (fun e => Nat.le_trans h.kp.size e), h.kp.trans' ho.kp (fun i e => .inr (h.fp i e)), hi⟩
theorem Re.no {w W W' : World} {P : Nat} {most : Int} {a n : Nat} {sl : Sl} {b : Nat} (h : Re w W P most a n sl b) (hk : Kept No W W') : Re w W' P most a n sl b := by
  obtain ⟨nn, hb, ht⟩ := h.tb
  exact h.own (Own.of_no hk ht.lt) (ht.no hk) hb h.is

theorem Re.set' {w W : World} {P : Nat} {most : Int} {a n : Nat} {sl : Sl} {b : Nat} (h : Re w W P most a n sl b) (hm : I64 most) (hb : b ≤ 900000) (hl : (ents a n sl 0).length ≤ 200) (k v : Int × Int) (hk : I64 k.2) (hv : I64 v.2) {e : Int} {a' n' : Nat} {sl' : Sl} (hs : setR most a n sl k v = (e, a', n', sl')) :
    Calls Try.prog 22 #[MI P, AV k.1 k.2, AV v.1 v.2] W fun r w' => r = .returned (.int .i64 e) ∧ Re w w' P most a' n' sl' (b + 500) ∧ ∀ (q : Nat) (c : Array Value) (t : TypeId), W.heap[q]? = some (Obj.cells c t (0, 0)) → t ≠ 67 → w'.heap[q]? = some (Obj.cells c t (0, 0)) := by
  obtain ⟨nn, hnn, ht⟩ := h.tb
  have hi := setR_i64 (most := most) ht.bd.1 ht.bd.2 h.is hk hv
  refine (Set_any ht (by omega) hm h.is hl k v hk).mono ?_
  rintro r w' ⟨rfl, ⟨nn', hn', ht'⟩, ho⟩
  rw [hs] at ht' hi ⊢
  refine ⟨rfl, h.own ho ht' (by omega) hi, fun q c t hq htt => ho.kp.heap hq (fun hf => ?_)⟩
  rcases ht.kinds q hf with ⟨c', e', f', h1, h2⟩ | ⟨es, c', h1⟩
  · rw [hq] at h1; cases h1; exact htt h2
  · rw [hq] at h1; cases h1
theorem Re.set {w W : World} {P : Nat} {most : Int} {a n : Nat} {sl : Sl} {b : Nat} (h : Re w W P most a n sl b) (hm : I64 most) (hb : b ≤ 900000) (hl : (ents a n sl 0).length ≤ 200) (k v : Int × Int) (hk : I64 k.2) (hv : I64 v.2) {e : Int} {a' n' : Nat} {sl' : Sl} (hs : setR most a n sl k v = (e, a', n', sl')) :
    Calls Try.prog 22 #[MI P, AV k.1 k.2, AV v.1 v.2] W fun r w' => r = .returned (.int .i64 e) ∧ Re w w' P most a' n' sl' (b + 500) :=
  (h.set' hm hb hl k v hk hv hs).mono (fun _ _ hh => ⟨hh.1, hh.2.1⟩)
theorem Re.array {w W : World} {P : Nat} {most : Int} {a n : Nat} {sl : Sl} {b : Nat} (h : Re w W P most a n sl b) : Calls Try.prog 25 #[MP P] W fun e w' => e = .returned (.int .i64 a) ∧ W = w' := by
  obtain ⟨nn, hnn, ht⟩ := h.tb; exact Array_any ht
theorem Re.nodes {w W : World} {P : Nat} {most : Int} {a n : Nat} {sl : Sl} {b : Nat} (h : Re w W P most a n sl b) : Calls Try.prog 26 #[MP P] W fun e w' => e = .returned (.int .i64 n) ∧ W = w' := by
  obtain ⟨nn, hnn, ht⟩ := h.tb; exact Nodes_any ht
theorem Re.len {w W : World} {P : Nat} {most : Int} {a n : Nat} {sl : Sl} {b : Nat} (h : Re w W P most a n sl b) (m : Nat) (hm : m ≤ 1000000) (h0 : (getR a n sl 2 ((m : Int) + 1)).1 = 0) (h1 : ∀ j : Nat, j < m → (getR a n sl 2 ((j : Int) + 1)).1 ≠ 0) :
    Calls Try.prog 23 #[MI P] W fun e w' => e = .returned (.int .i64 (m : Int)) ∧ Kept No W w' := by
  obtain ⟨nn, hnn, ht⟩ := h.tb; exact Len_any ht m hm h0 h1
theorem Re.get {w W : World} {P : Nat} {most : Int} {a n : Nat} {sl : Sl} {b : Nat} (h : Re w W P most a n sl b) (t x : Int) (hx : I64 x) (v : Int × Int) (hv : getR a n sl t x = v) :
    Calls Try.prog 19 #[MI P, AV t x] W fun e w' => e = .returned (iV v) ∧ Kept No W w' := by
  obtain ⟨nn, hnn, ht⟩ := h.tb; rw [← hv]; exact Get_any ht t x hx
theorem Re.next {w W : World} {P : Nat} {most : Int} {a n : Nat} {sl : Sl} {b : Nat} (h : Re w W P most a n sl b) (t x : Int) (hx : I64 x) (kv : Ent) (hb : (behR a n sl t x).2 = true) (he : fstE (ents a n sl (behR a n sl t x).1.toNat) = kv) :
    Calls Try.prog 20 #[MI P, AV t x] W fun e w' => e = .returned (.tuple #[iV kv.1, iV kv.2, .int .i64 0]) ∧ Kept No W w' := by
  obtain ⟨nn, hnn, ht⟩ := h.tb; rw [← he]; exact Next_some ht h.is t x hx hb
end Go.Proofs.Ythefmfjlinpepaa
