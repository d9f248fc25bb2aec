/- What a compaction does: plain lists. -/
import Derived.Test.YtdaklohfecinjaaA13
namespace Go.Proofs.Ytdaklohfecinjaa
open Go.RowKit
set_option linter.unusedSimpArgs false
set_option linter.unusedVariables false

/-- Blocks that lie one behind the other from o on. -/
def comp : Nat → List Nd → List Nd
  | _, [] => []
  | o, x :: r => ⟨x.p, o, x.s⟩ :: comp (o + x.s) r

theorem comp_length : ∀ (o : Nat) (l : List Nd), (comp o l).length = l.length
  | _, [] => rfl
  | o, x :: r => by simp [comp, comp_length (o + x.s) r]
theorem comp_map : ∀ (o : Nat) (l : List Nd), (comp o l).map Nd.p = l.map Nd.p
  | _, [] => rfl
  | o, x :: r => by simp [comp, comp_map (o + x.s) r]
theorem sumS_cons (x : Nd) (r : List Nd) : sumS (x :: r) = x.s + sumS r := by simp [sumS]
theorem sumS_append (l m : List Nd) : sumS (l ++ m) = sumS l + sumS m := by simp [sumS]
theorem comp_append : ∀ (o : Nat) (l m : List Nd), comp o (l ++ m) = comp o l ++ comp (o + sumS l) m
  | o, [], m => by simp [comp, sumS]
  | o, x :: r, m => by simp [comp, comp_append (o + x.s) r m, sumS_cons, Nat.add_assoc]
theorem sumS_comp : ∀ (o : Nat) (l : List Nd), sumS (comp o l) = sumS l
  | _, [] => rfl
  | o, x :: r => by simp [comp, sumS_cons, sumS_comp (o + x.s) r]
theorem comp_at : ∀ (o : Nat) (l : List Nd) (k : Nat) (hk : k < l.length), (comp o l)[k]'(by rw [comp_length]; exact hk) = ⟨l[k].p, o + sumS (l.take k), l[k].s⟩
  | o, x :: r, 0, _ => by simp [comp, sumS]
  | o, x :: r, k + 1, hk => by
    have := comp_at (o + x.s) r k (by simpa using hk)
    simp only [comp, List.getElem_cons_succ, this, List.take_succ_cons, sumS_cons, Nat.add_assoc]

/-- The order when the first k blocks have been moved. -/
def cmpK (l : List Nd) (k : Nat) : List Nd := comp 0 (l.take k) ++ l.drop k

theorem cmpK_map (l : List Nd) (k : Nat) : (cmpK l k).map Nd.p = l.map Nd.p := by
  unfold cmpK; rw [List.map_append, comp_map, ← List.map_append, List.take_append_drop]
theorem cmpK_zero (l : List Nd) : cmpK l 0 = l := rfl
theorem cmpK_end (l : List Nd) : cmpK l l.length = comp 0 l := by simp [cmpK]
theorem cmpK_split {l : List Nd} {k : Nat} (hk : k < l.length) : cmpK l k = comp 0 (l.take k) ++ l[k] :: l.drop (k + 1) := by
  unfold cmpK; rw [List.drop_eq_getElem_cons hk]
theorem cmpK_succ {l : List Nd} {k : Nat} (hk : k < l.length) : cmpK l (k + 1) = comp 0 (l.take k) ++ ⟨l[k].p, sumS (l.take k), l[k].s⟩ :: l.drop (k + 1) := by
  unfold cmpK; rw [List.take_succ_eq_append_getElem hk, comp_append]; simp [comp]

/-- Blocks in order, apart, from o on within size. -/
def Geo (size : Nat) : Nat → List Nd → Prop
  | o, [] => o ≤ size
  | o, x :: r => o ≤ x.a ∧ Geo size (x.a + x.s) r

theorem Geo.le : ∀ {size o : Nat} {l : List Nd}, Geo size o l → o + sumS l ≤ size
  | size, o, [], h => by simpa [Geo, sumS] using h
  | size, o, x :: r, h => by have := Geo.le h.2; rw [sumS_cons]; have := h.1; omega
theorem Geo.at : ∀ {size o : Nat} {l : List Nd}, Geo size o l → ∀ (k : Nat) (hk : k < l.length), o + sumS (l.take k) ≤ l[k].a ∧ l[k].a + l[k].s + sumS (l.drop (k + 1)) ≤ size
  | size, o, x :: r, h, 0, _ => by simpa [sumS] using ⟨h.1, h.2.le⟩
  | size, o, x :: r, h, k + 1, hk => by
    have := Geo.at h.2 k (by simpa using hk)
    have h1 := h.1
    simp only [List.take_succ_cons, sumS_cons, List.getElem_cons_succ, List.drop_succ_cons]
    omega
theorem Geo.pair : ∀ {size o : Nat} {l : List Nd}, Geo size o l → ∀ (i k : Nat) (hi : i < k) (hk : k < l.length), (l[i]'(by omega)).a + (l[i]'(by omega)).s ≤ l[k].a
  | size, o, x :: r, h, 0, k + 1, _, hk => by
    have := (Geo.at h.2 k (by simpa using hk)).1
    simp only [List.getElem_cons_zero, List.getElem_cons_succ]
    omega
  | size, o, x :: r, h, i + 1, k + 1, hi, hk => by
    simpa using Geo.pair h.2 i k (by omega) (by simpa using hk)
theorem Geo.comp : ∀ {size o o' : Nat} {l : List Nd}, o' + sumS l ≤ size → Geo size o' (comp o' l)
  | size, o, o', [], h => by simpa [Ytdaklohfecinjaa.comp, Geo, sumS] using h
  | size, o, o', x :: r, h => by
    rw [sumS_cons] at h
    exact ⟨Nat.le_refl _, Geo.comp (o := o) (o' := o' + x.s) (by omega)⟩
theorem Geo.bd : ∀ {size o : Nat} {l : List Nd}, Geo size o l → ∀ x ∈ l, x.a + x.s ≤ size := by
  intro size o l h x hx
  obtain ⟨k, hk, rfl⟩ := List.getElem_of_mem hx
  have := (h.at k hk).2; omega

/-- The cells when the first k blocks have been moved. -/
def cc (cs : List Int) (l : List Nd) : Nat → List Int
  | 0 => cs
  | k + 1 => match l[k]? with
    | none => cc cs l k
    | some x => putL (cc cs l k) (sumS (l.take k)) (((cc cs l k).drop x.a).take x.s)
theorem cc_succ {cs : List Int} {l : List Nd} {k : Nat} (hk : k < l.length) : cc cs l (k + 1) = putL (cc cs l k) (sumS (l.take k)) (((cc cs l k).drop l[k].a).take l[k].s) := by
  rw [cc, List.getElem?_eq_getElem hk]
theorem cc_length {cs : List Int} {l : List Nd} {size : Nat} (hg : Geo size 0 l) (hc : cs.length = size) : ∀ k, (cc cs l k).length = size
  | 0 => hc
  | k + 1 => by
    by_cases hk : k < l.length
    · have ih := cc_length hg hc k
      have := hg.at k hk
      rw [cc_succ hk, putL_length (by simp; omega)]; exact ih
    · rw [cc, List.getElem?_eq_none (by omega)]; exact cc_length hg hc k

/-- How many of the first k blocks were moved. -/
def mv (l : List Nd) : Nat → Nat
  | 0 => 0
  | k + 1 => match l[k]? with
    | none => mv l k
    | some x => mv l k + if x.a = sumS (l.take k) then 0 else 1
theorem mv_succ {l : List Nd} {k : Nat} (hk : k < l.length) : mv l (k + 1) = mv l k + if l[k].a = sumS (l.take k) then 0 else 1 := by
  rw [mv, List.getElem?_eq_getElem hk]
theorem mv_le (l : List Nd) : ∀ k, mv l k ≤ k
  | 0 => Nat.le_refl _
  | k + 1 => by
    have := mv_le l k
    unfold mv
    split
    · omega
    · split <;> omega

/-- Cells laid over themselves. -/
theorem putL_self (xs : List Int) (o s : Nat) (h : o + s ≤ xs.length) : putL xs o ((xs.drop o).take s) = xs := by
  unfold putL
  have e : ((xs.drop o).take s).length = s := by simp; omega
  rw [e, List.append_assoc, ← List.drop_drop, List.take_append_drop, List.take_append_drop]

/-- The cells of a block. -/
def data (cs : List Int) (x : Nd) : List Int := (cs.drop x.a).take x.s

theorem take_drop_ext {xs ys : List Int} {a b s : Nat} (h1 : a + s ≤ xs.length) (h2 : b + s ≤ ys.length) (h : ∀ j, j < s → xs.getD (a + j) 0 = ys.getD (b + j) 0) : (xs.drop a).take s = (ys.drop b).take s := by
  apply List.ext_getElem
  · simp; omega
  · intro j hj hj'
    have hjs : j < s := by simp at hj; omega
    have := h j hjs
    rw [List.getElem_take, List.getElem_take, List.getElem_drop, List.getElem_drop]
    simpa [List.getD, List.getElem?_eq_getElem (show a + j < xs.length by omega), List.getElem?_eq_getElem (show b + j < ys.length by omega)] using this
theorem data_getD {cs : List Int} {x : Nd} {j : Nat} (h : x.a + x.s ≤ cs.length) (hj : j < x.s) : (data cs x).getD j 0 = cs.getD (x.a + j) 0 := by
  unfold data
  simp [List.getD, List.getElem?_take, hj, List.getElem?_drop]

/-- Each block has its cells all along. -/
theorem cc_data {cs : List Int} {l : List Nd} {size : Nat} (hg : Geo size 0 l) (hc : cs.length = size) : ∀ (k : Nat), k ≤ l.length → ∀ (i : Nat) (hi : i < l.length),
    data (cc cs l k) (if i < k then ⟨l[i].p, sumS (l.take i), l[i].s⟩ else l[i]) = data cs l[i]
  | 0, _, i, hi => by rw [if_neg (by omega)]; rfl
  | k + 1, hk, i, hi => by
    have ih := cc_data hg hc k (by omega) i hi
    have hk' : k < l.length := by omega
    have hlen := cc_length hg hc k
    have hlen1 := cc_length hg hc (k + 1)
    have gk := hg.at k hk'
    have gi := hg.at i hi
    by_cases hik : i < k
    · rw [if_pos (by omega), ← ih, if_pos hik]
      have hs : sumS (l.take i) + l[i].s ≤ sumS (l.take k) := by
        have e1 := sumS_take hi
        have e2 : sumS (l.take (i + 1)) ≤ sumS (l.take k) := by
          have e : l.take (i + 1) = (l.take k).take (i + 1) := by rw [List.take_take, Nat.min_eq_left (by omega)]
          have := sumS_append ((l.take k).take (i + 1)) ((l.take k).drop (i + 1))
          rw [List.take_append_drop, ← e] at this
          omega
        omega
      refine take_drop_ext (by dsimp only; omega) (by dsimp only; omega) (fun j hj => ?_)
      dsimp only at hj ⊢
      rw [cc_succ hk', putL_getD _ _ _ (by simp; omega), if_neg (by omega)]
    · by_cases e : i = k
      · subst e
        rw [if_pos (by omega), ← ih, if_neg (by omega)]
        refine take_drop_ext (by dsimp only; omega) (by dsimp only; omega) (fun j hj => ?_)
        dsimp only at hj ⊢
        rw [cc_succ hk', putL_getD _ _ _ (by simp; omega), if_pos ⟨by omega, by simp; omega⟩]
        simp [List.getD, List.getElem?_take, hj, List.getElem?_drop]
      · rw [if_neg (by omega), ← ih, if_neg (by omega)]
        have gp := hg.pair k i (by omega) hi
        refine take_drop_ext (by omega) (by omega) (fun j hj => ?_)
        rw [cc_succ hk', putL_getD _ _ _ (by simp; omega), if_neg (by simp; omega)]
end Go.Proofs.Ytdaklohfecinjaa
