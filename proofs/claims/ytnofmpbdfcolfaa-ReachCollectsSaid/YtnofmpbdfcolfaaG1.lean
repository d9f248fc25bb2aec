/- What is needed, as a relation; the walk finds nothing else. -/
import Derived.Test.YtnofmpbdfcolfaaE1
namespace Go.Proofs.Ytnofmpbdfcolfaa
open Go.RowKit Go.Shelf
set_option linter.unusedSimpArgs false
set_option linter.unusedVariables false

/-- The place of a value's object. -/
def ix (v : V) : Nat := v.2.toNat - 1
/-- A thing leads to the object at a place, where the object at another one is needed (none: in any case). -/
inductive Ld (T : List Th) (t : Th) : Option Nat → Nat → Prop
  | plain (v : V) : isWk t = false → v ∈ t.sl → obj T v = true → Ld T t none (ix v)
  | meta' (h : 0 < t.sl.length) : isWk t = true → obj T t.sl[0] = true → Ld T t none (ix t.sl[0])
  | key1 (p : Nat × V) : isWk t = true → t.weak = 1 → p ∈ vals t → held T p.2 = false → obj T p.2 = true → Ld T t none (ix p.2)
  | val1 (p : Nat × V) : isWk t = true → t.weak = 1 → p ∈ vals t → held T p.2 = false → obj T (t.sl.getD p.1 (0, 0)) = true → Ld T t none (ix (t.sl.getD p.1 (0, 0)))
  | eph (p : Nat × V) : isWk t = true → t.weak = 1 → p ∈ vals t → held T p.2 = true → obj T (t.sl.getD p.1 (0, 0)) = true → Ld T t (some (ix p.2)) (ix (t.sl.getD p.1 (0, 0)))
  | key2 (p : Nat × V) : isWk t = true → t.weak = 2 → p ∈ vals t → obj T p.2 = true → Ld T t none (ix p.2)
  | val2 (p : Nat × V) : isWk t = true → t.weak = 2 → p ∈ vals t → (t.sl.getD p.1 (0, 0)).1 = 4 → obj T (t.sl.getD p.1 (0, 0)) = true → Ld T t none (ix (t.sl.getD p.1 (0, 0)))
  | key3 (p : Nat × V) : isWk t = true → t.weak = 3 → p ∈ vals t → p.2.1 = 4 → obj T p.2 = true → Ld T t none (ix p.2)
  | val3 (p : Nat × V) : isWk t = true → t.weak = 3 → p ∈ vals t → (t.sl.getD p.1 (0, 0)).1 = 4 → obj T (t.sl.getD p.1 (0, 0)) = true → Ld T t none (ix (t.sl.getD p.1 (0, 0)))

/-- Needed. -/
inductive Nd (T : List Th) (R : List V) (M : List Int) : Nat → Prop
  | root (v : V) : v ∈ R → obj T v = true → Nd T R M (ix v)
  | more (h : Int) : h ∈ M → 1 ≤ h → h ≤ (T.length : Int) → Nd T R M (h.toNat - 1)
  | edge (i : Nat) (c : Option Nat) (o : Nat) : Nd T R M i → i < T.length → Ld T (thAt T i) c o → (∀ k, c = some k → Nd T R M k) → Nd T R M o

/-- Is the object at a place needed so far? -/
def isOn (s : St) (i : Nat) : Prop := s.nd.getD i true = true ∧ i < s.nd.length

theorem obj_ix {T : List Th} {v : V} (h : obj T v = true) : ix v < T.length ∧ 1 ≤ v.2 ∧ v.2 ≤ (T.length : Int) := by
  simp only [obj, Bool.and_eq_true, decide_eq_true_eq] at h
  unfold ix; omega
theorem held_obj {T : List Th} {v : V} (h : held T v = true) : obj T v = true := by
  simp only [held, Bool.and_eq_true] at h; exact h.2

/-- A walk's state while things are needed: what stays true. -/
structure Inc (n : Nat) (s s' : St) : Prop where
  len : s'.nd.length = s.nd.length
  on : ∀ i, isOn s i → isOn s' i
  new : ∀ i, isOn s' i → isOn s i ∨ ((i : Int) + 1) ∈ s'.sk
  sk : ∀ x ∈ s.sk, x ∈ s'.sk
  wl : s'.wt.length = s.wt.length
  wt : ∀ k v, v ∈ s.wt.getD k [] → v ∈ s'.wt.getD k []
theorem Inc.refl (n : Nat) (s : St) : Inc n s s := ⟨rfl, fun _ h => h, fun _ h => .inl h, fun _ h => h, rfl, fun _ _ h => h⟩
theorem Inc.trans {n : Nat} {a b c : St} (h : Inc n a b) (k : Inc n b c) : Inc n a c :=
  ⟨k.len.trans h.len, fun i hi => k.on i (h.on i hi), fun i hi => by
    rcases k.new i hi with h1 | h1
    · rcases h.new i h1 with h2 | h2
      · exact .inl h2
      · exact .inr (k.sk _ h2)
    · exact .inr h1, fun x hx => k.sk x (h.sk x hx), k.wl.trans h.wl, fun q v hv => k.wt q v (h.wt q v hv)⟩

theorem getD_setB (l : List Bool) (i j : Nat) (hi : i < l.length) : (l.set i true).getD j true = if i = j then true else l.getD j true := getD_set l i j true true hi

theorem needH_inc (n : Nat) (s : St) (x : Int) : Inc n s (needH n s x) := by
  unfold needH
  split
  · rename_i h
    have hi : x.toNat - 1 < s.nd.length := by
      rcases Nat.lt_or_ge (x.toNat - 1) s.nd.length with hi | hi
      · exact hi
      · have := h.2.2; simp [List.getD, List.getElem?_eq_none hi] at this
    refine ⟨by simp, fun i hi' => ⟨?_, by simpa using hi'.2⟩, fun i hi' => ?_, fun y hy => List.mem_append_left _ hy, rfl, fun _ _ h => h⟩
    · rw [getD_setB _ _ _ hi]; split
      · rfl
      · exact hi'.1
    · have h1 := hi'.1
      have h2 := hi'.2
      simp only [List.length_set] at h2
      rw [getD_setB _ _ _ hi] at h1
      by_cases e : x.toNat - 1 = i
      · refine .inr (List.mem_append_right _ ?_)
        simp; omega
      · rw [if_neg e] at h1; exact .inl ⟨h1, h2⟩
  · exact Inc.refl _ _
theorem need_inc (T : List Th) (n : Nat) (s : St) (v : V) : Inc n s (need T s v) := by
  unfold need; split
  · have := needH_inc T.length s v.2; exact ⟨this.len, this.on, this.new, this.sk, this.wl, this.wt⟩
  · exact Inc.refl _ _
theorem needT_inc (T : List Th) (n : Nat) (s : St) (v : V) : Inc n s (needT T s v) := by
  unfold needT; split
  · exact need_inc T n s v
  · exact Inc.refl _ _
theorem needP_inc (T : List Th) (n : Nat) (s : St) (k v : V) : Inc n s (needP T s k v) := by
  unfold needP; split
  · refine ⟨rfl, fun _ h => h, fun _ h => .inl h, fun _ h => h, by simp, fun q w hw => ?_⟩
    by_cases hq : k.2.toNat - 1 < s.wt.length
    · show w ∈ (s.wt.set _ _).getD q []
      rw [getD_set _ _ _ _ _ hq]
      split
      · rename_i e; subst e; exact List.mem_append_left _ hw
      · exact hw
    · show w ∈ (s.wt.set _ _).getD q []
      rw [List.set_eq_of_length_le (Nat.le_of_not_lt hq)]; exact hw
  · exact (need_inc T n s k).trans (need_inc T n _ v)
theorem modeF_inc (T : List Th) (n : Nat) (m : Int) (s : St) (k v : V) : Inc n s (modeF T m s k v) := by
  unfold modeF
  split
  · exact needP_inc _ _ _ _ _
  · split
    · exact (need_inc T n s k).trans (needT_inc T n _ v)
    · exact (needT_inc T n s k).trans (needT_inc T n _ v)
theorem fold_inc {α : Type} {n : Nat} {f : St → α → St} (hf : ∀ s a, Inc n s (f s a)) (L : List α) : ∀ s, Inc n s (L.foldl f s) := by
  induction L with
  | nil => exact fun s => Inc.refl _ _
  | cons a L ih => exact fun s => (hf s a).trans (ih _)
/-- What one of many does stays. -/
theorem fold_has {α : Type} {n : Nat} {f : St → α → St} (hf : ∀ s a, Inc n s (f s a)) (L : List α) {a : α} (ha : a ∈ L) (s : St) : ∃ s1, Inc n s s1 ∧ Inc n (f s1 a) (L.foldl f s) := by
  induction L generalizing s with
  | nil => cases ha
  | cons b L ih =>
    rcases List.mem_cons.1 ha with rfl | h
    · exact ⟨s, Inc.refl _ _, fold_inc hf L _⟩
    · obtain ⟨s1, h1, h2⟩ := ih h (f s b)
      exact ⟨s1, (hf s b).trans h1, h2⟩

theorem need_on (T : List Th) (s : St) (hs : s.nd.length = T.length) (v : V) (hv : obj T v = true) : isOn (need T s v) (ix v) := by
  have ho := obj_ix hv
  unfold need; rw [if_pos hv]
  unfold needH
  unfold ix at ho ⊢
  split
  · exact ⟨by rw [getD_setB _ _ _ (by rw [hs]; exact ho.1), if_pos rfl], by simp; rw [hs]; exact ho.1⟩
  · rename_i h
    refine ⟨?_, by rw [hs]; exact ho.1⟩
    cases hq : s.nd.getD (v.2.toNat - 1) true with
    | true => rfl
    | false => exact (h ⟨ho.2.1, ho.2.2, hq⟩).elim
end Go.Proofs.Ytnofmpbdfcolfaa
