/- Points that do nothing, or the same again, are left out: as data; again. -/
import Derived.Test.YtbhmgmbgplkkeaaDoorA1
namespace Go.Proofs.YtbhmgmbgplkkeaaDoor
open Go.RowKit
set_option linter.unusedSimpArgs false
set_option linter.unusedVariables false

/-- What a kind does once more does nothing more. -/
def agK (k : Int) : Bool := decide (k = 3) || (decide (k = 2) || decide (k = 5))
def agB (a k : Int) : Bool := agK k && (a == k)
/-- The points behind one of kind a that are kept. -/
def keepF : Option Int → List V → List V
  | _, [] => []
  | a, p :: r => if agK p.1 = true ∧ a = some p.1 then keepF (some p.1) r else p :: keepF (some p.1) r
/-- How many points stand ahead of the empty ones at the end. -/
def endN : List V → Nat
  | [] => 0
  | p :: r => if endN r = 0 then (if p.1 = 0 then 0 else 1) else endN r + 1
def trimF (l : List V) : List V := l.take (endN l)
def shr (l : List V) : List V := keepF none (trimF l)

theorem endN_le : ∀ l, endN l ≤ l.length
  | [] => Nat.le_refl _
  | p :: r => by
    have := endN_le r
    unfold endN
    split
    · split <;> simp
    · simp; omega
theorem endN_snoc : ∀ (l : List V) (p : V), endN (l ++ [p]) = if p.1 = 0 then endN l else l.length + 1
  | [], p => by simp [endN]
  | q :: l, p => by
    have ih := endN_snoc l p
    rw [List.cons_append, endN, ih]
    by_cases h : p.1 = 0
    · rw [if_pos h, if_pos h]; rfl
    · rw [if_neg h, if_neg h, if_neg (by omega)]; rfl
theorem endN_take (l : List V) (e : Nat) (h0 : 0 < e) (h : e ≤ l.length) : endN (l.take e) = if (l[e - 1]'(by omega)).1 = 0 then endN (l.take (e - 1)) else e := by
  obtain ⟨e, rfl⟩ : ∃ k, e = k + 1 := ⟨e - 1, by omega⟩
  rw [List.take_succ_eq_append_getElem (by omega), endN_snoc, List.length_take, Nat.min_eq_left (by omega)]; rfl
theorem take_endN (l : List V) (e : Nat) (h : endN (l.take e) = e ∨ e = 0) (hr : endN l = endN (l.take e)) : endN l = e := by
  rcases h with h | rfl
  · rw [hr, h]
  · rw [hr]; simp [endN]

theorem keepF_snoc : ∀ (l : List V) (a : Option Int) (p : V), keepF a (l ++ [p]) = keepF a l ++ (if agK p.1 = true ∧ (match l.getLast? with | some q => some q.1 | none => a) = some p.1 then [] else [p])
  | [], a, p => by
    show (if agK p.1 = true ∧ a = some p.1 then [] else [p]) = [] ++ (if agK p.1 = true ∧ a = some p.1 then [] else [p])
    rw [List.nil_append]
  | q :: l, a, p => by
    have ih := keepF_snoc l (some q.1) p
    have e : (match (q :: l).getLast? with | some q => some q.1 | none => a) = (match l.getLast? with | some q => some q.1 | none => some q.1) := by
      cases l with
      | nil => rfl
      | cons r l =>
        rw [List.getLast?_cons_cons]
        cases h : (r :: l).getLast? with
        | none => simp at h
        | some x => rfl
    rw [List.cons_append, keepF, ih, e, keepF]
    split <;> simp
theorem keepF_step (l : List V) (i : Nat) (hi : i < l.length) : keepF none (l.take (i + 1)) = keepF none (l.take i) ++ (if i = 0 ∨ agB (l.getD (i - 1) (0, 0)).1 l[i].1 = false then [l[i]] else []) := by
  rw [List.take_succ_eq_append_getElem hi, keepF_snoc]
  congr 1
  rcases i with _ | i
  · simp
  · have e : (match (l.take (i + 1)).getLast? with | some q => some q.1 | none => (none : Option Int)) = some (l.getD i (0, 0)).1 := by
      rw [List.take_succ_eq_append_getElem (by omega), List.getLast?_concat]
      simp [List.getD, List.getElem?_eq_getElem (show i < l.length by omega)]
    rw [e]
    unfold agB
    simp only [Nat.add_one_ne_zero, false_or, Nat.add_sub_cancel]
    by_cases h1 : agK l[i + 1].1 = true
    · by_cases h2 : (l.getD i (0, 0)).1 = l[i + 1].1
      · rw [if_pos ⟨h1, by rw [h2]⟩, if_neg (by rw [h1, h2]; simp)]
      · rw [if_neg (fun q => h2 (by injection q.2)), if_pos (by rw [h1, Bool.true_and]; exact beq_false_of_ne h2)]
    · rw [if_neg (fun q => h1 q.1), if_pos (by simp [h1])]
theorem keepF_le : ∀ (l : List V) (a : Option Int), (keepF a l).length ≤ l.length
  | [], _ => Nat.le_refl _
  | p :: r, a => by
    have := keepF_le r (some p.1)
    unfold keepF
    split <;> simp <;> omega
theorem shr_le (l : List V) : (shr l).length ≤ l.length := by
  unfold shr trimF
  have := keepF_le (l.take (endN l)) none
  rw [List.length_take] at this
  omega
/-- Once more nothing is left out. -/
theorem keepF_head : ∀ (l : List V) (a : Option Int) (p : V) (r : List V), keepF a l = p :: r → ¬ (agK p.1 = true ∧ a = some p.1)
  | [], _, _, _, h => by simp [keepF] at h
  | q :: l, a, p, r, h => by
    unfold keepF at h
    split at h
    · rename_i hq
      have := keepF_head l (some q.1) p r h
      rw [hq.2]; exact this
    · rename_i hq
      injection h with h1 h2
      subst h1; exact hq
theorem keepF_some (l : List V) (a : Option Int) (h : ∀ p r, l = p :: r → ¬ (agK p.1 = true ∧ a = some p.1)) (b : Option Int) (hb : b = none) : keepF a l = keepF b l := by
  subst hb
  cases l with
  | nil => rfl
  | cons p r =>
    unfold keepF
    rw [if_neg (h p r rfl), if_neg (fun q => by cases q.2)]
theorem keepF_twice : ∀ (l : List V) (a : Option Int), keepF none (keepF a l) = keepF a l
  | [], _ => rfl
  | p :: l, a => by
    by_cases h : agK p.1 = true ∧ a = some p.1
    · rw [show keepF a (p :: l) = keepF (some p.1) l from by rw [keepF, if_pos h]]
      exact keepF_twice l (some p.1)
    · rw [show keepF a (p :: l) = p :: keepF (some p.1) l from by rw [keepF, if_neg h]]
      have e : keepF none (p :: keepF (some p.1) l) = p :: keepF (some p.1) (keepF (some p.1) l) := by rw [keepF, if_neg (fun q => by cases q.2)]
      rw [e, keepF_some _ (some p.1) (fun q r e => keepF_head l (some p.1) q r e) none rfl, keepF_twice l (some p.1)]
theorem keepF_last : ∀ (l : List V) (a : Option Int), (keepF a l = [] ∧ (l = [] ∨ ∃ k, a = some k ∧ agK k = true)) ∨ ((keepF a l).getLast?.map Prod.fst = l.getLast?.map Prod.fst)
  | [], _ => .inl ⟨rfl, .inl rfl⟩
  | p :: l, a => by
    have hl : ∀ x : V, (x :: l).getLast?.map Prod.fst = if l = [] then some x.1 else l.getLast?.map Prod.fst := fun x => by cases l <;> simp
    by_cases h : agK p.1 = true ∧ a = some p.1
    · rw [show keepF a (p :: l) = keepF (some p.1) l from by rw [keepF, if_pos h]]
      rcases keepF_last l (some p.1) with ⟨h1, h2⟩ | h1
      · exact .inl ⟨h1, .inr ⟨p.1, h.2, h.1⟩⟩
      · cases l with
        | nil => exact .inl ⟨rfl, .inr ⟨p.1, h.2, h.1⟩⟩
        | cons q l => exact .inr (by rw [hl, if_neg (by simp)]; exact h1)
    · rw [show keepF a (p :: l) = p :: keepF (some p.1) l from by rw [keepF, if_neg h]]
      right
      rcases keepF_last l (some p.1) with ⟨h1, h2⟩ | h1
      · rw [h1]
        rcases h2 with rfl | ⟨k, hk, hk2⟩
        · rfl
        · injection hk with hk
          subst hk
          rw [hl]
          split
          · rfl
          · rename_i hne
            have hall : ∀ (m : List V), keepF (some p.1) m = [] → ∀ x ∈ m, x.1 = p.1 := by
              intro m
              induction m with
              | nil => intro _ x hx; cases hx
              | cons y m ih =>
                intro hm x hx
                unfold keepF at hm
                split at hm
                · rename_i hy
                  have hy2 : p.1 = y.1 := by have := hy.2; injection this
                  rw [← hy2] at hm
                  rcases List.mem_cons.1 hx with rfl | hx
                  · exact hy2.symm
                  · exact ih hm x hx
                · cases hm
            obtain ⟨x, hx⟩ : ∃ x, l.getLast? = some x := by
              cases hh : l.getLast? with
              | none => exact absurd (List.getLast?_eq_none_iff.1 hh) hne
              | some x => exact ⟨x, rfl⟩
            have := hall l h1 x (List.mem_of_getLast? hx)
            simp [hx, this]
      · cases hk : keepF (some p.1) l with
        | nil =>
          rw [hk] at h1
          cases l with
          | nil => rfl
          | cons q l =>
            cases hg : (q :: l).getLast? with
            | none => simp at hg
            | some x => rw [hg] at h1; cases h1
        | cons y ys =>
          rw [hk] at h1
          rw [List.getLast?_cons_cons, h1, hl]
          cases l with
          | nil => simp [keepF] at hk
          | cons q l => rfl
theorem endN_all (l : List V) (h : ∀ x, l.getLast? = some x → x.1 ≠ 0) : endN l = l.length := by
  rcases List.eq_nil_or_concat l with rfl | ⟨m, p, rfl⟩
  · rfl
  · rw [List.concat_eq_append] at h ⊢
    rw [endN_snoc, if_neg (h p (by simp))]; simp
theorem trim_last (l : List V) (x : V) (h : (trimF l).getLast? = some x) : x.1 ≠ 0 := by
  unfold trimF at h
  rcases Nat.eq_zero_or_pos (endN l) with h0 | h0
  · rw [h0] at h; simp at h
  · have hle := endN_le l
    intro hx
    have h1 : ∀ (m : List V), 0 < endN m → ∀ y, (m.take (endN m)).getLast? = some y → y.1 ≠ 0 := by
      intro m
      induction m with
      | nil => intro h; simp [endN] at h
      | cons p r ih =>
        intro hp y hy
        unfold endN at hp hy
        by_cases hr : endN r = 0
        · rw [if_pos hr] at hp hy
          by_cases h0 : p.1 = 0
          · rw [if_pos h0] at hp; omega
          · rw [if_neg h0] at hy
            simp at hy
            subst hy; exact h0
        · rw [if_neg hr, List.take_succ_cons] at hy
          cases hq : r.take (endN r) with
          | nil =>
            have := congrArg List.length hq
            rw [List.length_take, Nat.min_eq_left (endN_le r)] at this
            simp at this; omega
          | cons z zs =>
            rw [hq, List.getLast?_cons_cons, ← hq] at hy
            exact ih (by omega) y hy
    exact h1 l h0 x h hx
theorem shr_twice (l : List V) : shr (shr l) = shr l := by
  have h : trimF (shr l) = shr l := by
    unfold trimF
    rw [endN_all _ (fun x hx => ?_)]
    · exact List.take_length
    · unfold shr at hx
      rcases keepF_last (trimF l) none with ⟨h1, _⟩ | h1
      · rw [h1] at hx; simp at hx
      · rw [hx] at h1
        cases hq : (trimF l).getLast? with
        | none => rw [hq] at h1; cases h1
        | some y =>
          rw [hq] at h1
          injection h1 with h1
          have h1 : x.1 = y.1 := h1
          rw [h1]; exact trim_last l y hq
  show keepF none (trimF (shr l)) = _
  rw [h]
  exact keepF_twice _ _

set_option maxRecDepth 20000 in
set_option maxHeartbeats 1000000 in
theorem again_any (p q : V) (w : World) : Calls Tryd.prog 35 #[AV p, AV q] w fun e w' => e = .returned (.bool (agB p.1 q.1)) ∧ Kept No w w' := by
  obtain ⟨a, n⟩ := p
  obtain ⟨k, m⟩ := q
  have HK : Hid (∀ o1 o2 : Obj, Kept No w ((w.alloc o1).alloc o2)) := fun o1 o2 => ((Kept.refl _ _).alloc _).alloc _
  show Calls Tryd.prog 35 #[.agg #[.int .i64 a, .int .i64 n], .agg #[.int .i64 k, .int .i64 m]] w fun e w' => e = .returned (.bool (agB a k)) ∧ Kept No w w'
  go_enter Tryd.func35, Tryd.ntmps35
  have e : agB a k = (agK k && (a == k)) := rfl
  rw [e]
  unfold agK
  by_cases h3 : k = 3
  · subst h3
    go_wp2
    go_ret
    exact ⟨by simp, HK.out _ _⟩
  by_cases h2 : k = 2
  · subst h2
    go_wp2
    go_ret
    exact ⟨by simp, HK.out _ _⟩
  by_cases h5 : k = 5
  · subst h5
    go_wp2
    go_ret
    exact ⟨by simp, HK.out _ _⟩
  go_wp2
  go_ret
  exact ⟨by simp [h2, h3, h5], HK.out _ _⟩
end Go.Proofs.YtbhmgmbgplkkeaaDoor
