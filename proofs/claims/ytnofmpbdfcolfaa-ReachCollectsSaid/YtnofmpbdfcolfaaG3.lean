/- The walk finds nothing else; which objects are needed. -/
import Derived.Test.YtnofmpbdfcolfaaG2
namespace Go.Proofs.Ytnofmpbdfcolfaa
open Go.RowKit Go.Shelf
set_option linter.unusedSimpArgs false
set_option linter.unusedVariables false

/-- Nothing is found but what is needed. -/
structure Snd (T : List Th) (R : List V) (M : List Int) (s : St) : Prop where
  nl : s.nd.length = T.length
  on : ∀ i, isOn s i → Nd T R M i
  wt : ∀ k v, v ∈ s.wt.getD k [] → obj T v = true → Nd T R M k → Nd T R M (ix v)
  rng : ∀ x ∈ s.sk, 1 ≤ x ∧ x ≤ (T.length : Int) ∧ isOn s (x.toNat - 1)

theorem needH_snd {T : List Th} {R : List V} {M : List Int} {s : St} (h : Snd T R M s) (x : Int) (hx : 1 ≤ x → x ≤ (T.length : Int) → Nd T R M (x.toNat - 1)) : Snd T R M (needH T.length s x) := by
  have hi := needH_inc T.length s x
  refine ⟨hi.len.trans h.nl, fun i hi' => ?_, fun k v hv => ?_, fun y hy => ?_⟩
  · unfold needH at hi'
    split at hi'
    · rename_i hc
      have hl : x.toNat - 1 < s.nd.length := by rw [h.nl]; omega
      by_cases e : x.toNat - 1 = i
      · rw [← e]; exact hx hc.1 hc.2.1
      · refine h.on i ⟨?_, by simpa using hi'.2⟩
        have := hi'.1
        rw [getD_setB _ _ _ hl, if_neg e] at this
        exact this
    · exact h.on i hi'
  · rw [needH_wt] at hv; exact h.wt k v hv
  · by_cases hm : y ∈ s.sk
    · have := h.rng y hm
      exact ⟨this.1, this.2.1, hi.on _ this.2.2⟩
    · unfold needH at hy ⊢
      split at hy
      · rename_i hc
        rw [if_pos hc]
        rcases List.mem_append.1 hy with h1 | h1
        · exact (hm h1).elim
        · simp at h1; subst h1
          have hl : y.toNat - 1 < s.nd.length := by rw [h.nl]; omega
          exact ⟨hc.1, hc.2.1, by show (s.nd.set _ _).getD _ _ = _; rw [getD_setB _ _ _ hl, if_pos rfl], by simpa using hl⟩
      · exact (hm hy).elim
theorem need_snd {T : List Th} {R : List V} {M : List Int} {s : St} (h : Snd T R M s) (v : V) (hv : obj T v = true → Nd T R M (ix v)) : Snd T R M (need T s v) := by
  unfold need; split
  · rename_i ho; exact needH_snd h v.2 (fun _ _ => hv ho)
  · exact h
theorem needT_snd {T : List Th} {R : List V} {M : List Int} {s : St} (h : Snd T R M s) (v : V) (hv : v.1 = 4 → obj T v = true → Nd T R M (ix v)) : Snd T R M (needT T s v) := by
  unfold needT; split
  · rename_i ho; exact need_snd h v (hv ho)
  · exact h
theorem fold_snd {α : Type} {T : List Th} {R : List V} {M : List Int} {f : St → α → St} (L : List α) (hf : ∀ s a, a ∈ L → Snd T R M s → Snd T R M (f s a)) : ∀ s, Snd T R M s → Snd T R M (L.foldl f s) := by
  induction L with
  | nil => exact fun s h => h
  | cons a L ih => exact fun s h => ih (fun s b hb => hf s b (List.mem_cons_of_mem _ hb)) _ (hf s a (by simp) h)
theorem modeF_snd {T : List Th} {R : List V} {M : List Int} {i : Nat} (hi : Nd T R M i) (hl : i < T.length) (hk : isWk (thAt T i) = true) {s : St} (h : Snd T R M s) (p : Nat × V) (hp : p ∈ vals (thAt T i)) :
    Snd T R M (modeF T (thAt T i).weak s p.2 ((thAt T i).sl.getD p.1 (0, 0))) := by
  have ed : ∀ o, Ld T (thAt T i) none o → Nd T R M o := fun o h => Nd.edge i none o hi hl h (fun k e => by cases e)
  have hw : 1 ≤ (thAt T i).weak ∧ (thAt T i).weak ≤ 3 := by
    unfold isWk at hk
    simp only [Bool.and_eq_true, decide_eq_true_eq] at hk
    exact hk.2
  unfold modeF
  split
  · rename_i h1
    unfold needP
    cases hh : held T p.2 with
    | false =>
      simp only [Bool.false_and, Bool.false_eq_true, if_false]
      exact need_snd (need_snd h _ (fun ho => ed _ (Ld.key1 p hk h1 hp hh ho))) _ (fun ho => ed _ (Ld.val1 p hk h1 hp hh ho))
    | true =>
      have hx := obj_ix (held_obj hh)
      have eph : obj T ((thAt T i).sl.getD p.1 (0, 0)) = true → Nd T R M (ix p.2) → Nd T R M (ix ((thAt T i).sl.getD p.1 (0, 0))) := fun ho hn => Nd.edge i _ _ hi hl (Ld.eph p hk h1 hp hh ho) (fun k e => by cases e; exact hn)
      cases hq : s.nd.getD (p.2.2.toNat - 1) true with
      | true =>
        simp only [Bool.not_true, Bool.and_false, Bool.false_eq_true, if_false]
        have hn : Nd T R M (ix p.2) := h.on _ ⟨hq, by rw [h.nl]; exact hx.1⟩
        exact need_snd (need_snd h _ (fun _ => hn)) _ (fun ho => eph ho hn)
      | false =>
        simp only [Bool.not_false, Bool.and_true, if_true]
        refine ⟨h.nl, h.on, fun k v hv ho hn => ?_, h.rng⟩
        have hv' : v ∈ (s.wt.set (p.2.2.toNat - 1) (s.wt.getD (p.2.2.toNat - 1) [] ++ [(thAt T i).sl.getD p.1 (0, 0)])).getD k [] := hv
        by_cases hb : p.2.2.toNat - 1 < s.wt.length
        · rw [getD_set _ _ _ _ _ hb] at hv'
          by_cases e : p.2.2.toNat - 1 = k
          · rw [if_pos e] at hv'
            rcases List.mem_append.1 hv' with h2 | h2
            · rw [e] at h2; exact h.wt k v h2 ho hn
            · simp only [List.mem_singleton] at h2
              subst h2
              exact eph ho (by show Nd T R M (p.2.2.toNat - 1); rw [e]; exact hn)
          · rw [if_neg e] at hv'; exact h.wt k v hv' ho hn
        · rw [List.set_eq_of_length_le (Nat.le_of_not_lt hb)] at hv'; exact h.wt k v hv' ho hn
  · split
    · rename_i h1 h2
      exact needT_snd (need_snd h _ (fun ho => ed _ (Ld.key2 p hk h2 hp ho))) _ (fun h4 ho => ed _ (Ld.val2 p hk h2 hp h4 ho))
    · rename_i h1 h2
      exact needT_snd (needT_snd h _ (fun h4 ho => ed _ (Ld.key3 p hk (by omega) hp h4 ho))) _ (fun h4 ho => ed _ (Ld.val3 p hk (by omega) hp h4 ho))
theorem thro_snd {T : List Th} {R : List V} {M : List Int} {i : Nat} (hi : Nd T R M i) (hl : i < T.length) {s : St} (h : Snd T R M s) : Snd T R M (thro T s (thAt T i)) := by
  have ed : ∀ o, Ld T (thAt T i) none o → Nd T R M o := fun o h => Nd.edge i none o hi hl h (fun k e => by cases e)
  unfold thro
  cases hk : isWk (thAt T i) with
  | true =>
    simp only [if_true]
    unfold pairF
    rw [List.take_length]
    refine fold_snd (f := fun s (p : Nat × V) => modeF T (thAt T i).weak s p.2 ((thAt T i).sl.getD p.1 (0, 0))) _ (fun s p hp hs => modeF_snd hi hl hk hs p hp) _ ?_
    unfold need0; split
    · rename_i h0; exact need_snd h _ (fun ho => ed _ (Ld.meta' h0 hk ho))
    · exact h
  | false =>
    simp only [Bool.false_eq_true, if_false]
    exact fold_snd (f := need T) _ (fun s v hv hs => need_snd hs v (fun ho => ed _ (Ld.plain v hk hv ho))) _ h
theorem stepG_snd {T : List Th} {R : List V} {M : List Int} {s : St} (h : Snd T R M s) (h0 : s.sk ≠ []) : Snd T R M (stepG T s) := by
  have hlast : s.sk.getLastD 0 = s.sk.getLast h0 := by rw [List.getLastD_eq_getLast?, List.getLast?_eq_some_getLast h0]; rfl
  have hr := h.rng _ (List.getLast_mem h0)
  unfold stepG
  rw [hlast]
  generalize s.sk.getLast h0 = x at hr
  have hx := h.on _ hr.2.2
  have hp : Snd T R M (popS s) := ⟨h.nl, h.on, h.wt, fun y hy => h.rng y ((List.dropLast_sublist _).subset hy)⟩
  exact thro_snd hx (by omega) (fold_snd (f := need T) _ (fun s' v hv hs => need_snd hs v (fun ho => h.wt _ v hv ho hx)) _ hp)
theorem stepG_cpl (T : List Th) (s : St) {R : List V} {M : List Int} (hs : Snd T R M s) (h : Cpl T s) (h0 : s.sk ≠ []) : Cpl T (stepG T s) := by
  have h1 := stepG_snd hs h0
  refine ⟨h1.nl, ?_, fun i hi hn c o hl => stepG_cov T s h h0 i hi hn c o hl, fun x hx => ⟨(h1.rng x hx).1, (h1.rng x hx).2.1⟩⟩
  unfold stepG
  rw [(thro_inc T T.length _ _).wl, (fold_inc (n := T.length) (fun s a => need_inc T _ s a) _ _).wl]
  exact h.wl
theorem goG_done (T : List Th) {R : List V} {M : List Int} : ∀ (f : Nat) (s : St), mu s < f → Snd T R M s → Cpl T s → Snd T R M (goG T f s) ∧ Cpl T (goG T f s) ∧ (goG T f s).sk = [] ∧ ∀ i, isOn s i → isOn (goG T f s) i
  | 0, s, hf, _, _ => absurd hf (by omega)
  | f + 1, s, hf, h1, h2 => by
    unfold goG
    split
    · rename_i h; exact ⟨h1, h2, h, fun _ h => h⟩
    · rename_i h
      have hm := stepG_mu T s h
      obtain ⟨a, b, c, d⟩ := goG_done T f (stepG T s) (by omega) (stepG_snd h1 h) (stepG_cpl T s h1 h2 h)
      refine ⟨a, b, c, fun i hi => d i ?_⟩
      unfold stepG
      exact ((fold_inc (n := T.length) (fun s a => need_inc T _ s a) _ (popS s)).trans (thro_inc T T.length _ _)).on i hi
theorem st0_snd (T : List Th) (R : List V) (M : List Int) : Snd T R M (st0 T.length) := by
  refine ⟨by simp [st0], fun i hi => ?_, fun k v hv => ?_, fun x hx => by simp [st0] at hx⟩
  · have h1 := hi.1
    have h2 := hi.2
    simp only [st0, List.length_replicate] at h2
    simp [st0, List.getD, h2] at h1
  · by_cases hk : k < T.length
    · simp [st0, List.getD, hk] at hv
    · simp [st0, List.getD, hk] at hv
/-- Which objects are needed. -/
theorem strong_iff (T : List Th) (R : List V) (M : List Int) (i : Nat) (hi : i < T.length) : (strong T R M).getD i true = true ↔ Nd T R M i := by
  have s1 : Snd T R M (stR T R M) := by
    unfold stR
    exact fold_snd (f := needH T.length) _ (fun s x hx hs => needH_snd hs x (fun h1 h2 => Nd.more x hx h1 h2)) _ (fold_snd (f := need T) _ (fun s v hv hs => need_snd hs v (fun ho => Nd.root v hv ho)) _ (st0_snd T R M))
  have ia : Inc T.length (st0 T.length) (R.foldl (need T) (st0 T.length)) := fold_inc (fun s a => need_inc T _ s a) _ _
  have ib : Inc T.length (R.foldl (need T) (st0 T.length)) (stR T R M) := fold_inc (fun s a => needH_inc _ s a) _ _
  have off0 : ∀ i, ¬ isOn (st0 T.length) i := fun i hi => by
    have h1 := hi.1
    have h2 := hi.2
    simp only [st0, List.length_replicate] at h2
    simp [st0, List.getD, h2] at h1
  have c1 : Cpl T (stR T R M) := by
    refine ⟨s1.nl, by rw [ib.wl, ia.wl]; simp [st0], fun i hi hn => ?_, fun x hx => ⟨(s1.rng x hx).1, (s1.rng x hx).2.1⟩⟩
    rcases (ia.trans ib).new i hi with h | h
    · exact (off0 i h).elim
    · exact (hn h).elim
  obtain ⟨a, b, c, d⟩ := goG_done T (2 * T.length + 1) (stR T R M) (stR_mu T R M) s1 c1
  constructor
  · intro h
    exact a.on i ⟨h, by rw [a.nl]; exact hi⟩
  · intro h
    suffices hh : ∀ i, Nd T R M i → isOn (goG T (2 * T.length + 1) (stR T R M)) i from (hh i h).1
    intro i h
    induction h with
    | root v hv ho =>
      refine d _ (ib.on _ ?_)
      obtain ⟨s', j1, j2⟩ := fold_has (n := T.length) (f := need T) (fun s a => need_inc T _ s a) R hv (st0 T.length)
      exact j2.on _ (need_on T s' (j1.len.trans (by simp [st0])) v ho)
    | more x hx h1 h2 =>
      refine d _ ?_
      obtain ⟨s', j1, j2⟩ := fold_has (n := T.length) (f := needH T.length) (fun s a => needH_inc _ s a) M hx (R.foldl (need T) (st0 T.length))
      refine j2.on _ ?_
      have hl : s'.nd.length = T.length := j1.len.trans (ia.len.trans (by simp [st0]))
      unfold needH
      split
      · exact ⟨by rw [getD_setB _ _ _ (by omega), if_pos rfl], by simp; omega⟩
      · rename_i hc
        refine ⟨?_, by omega⟩
        cases hq : s'.nd.getD (x.toNat - 1) true with
        | true => rfl
        | false => exact (hc ⟨h1, h2, hq⟩).elim
    | edge j cc o hj hl hld hk ih ihk =>
      have hc := b.cov j ih (by rw [c]; simp) cc o hld
      cases cc with
      | none => exact hc
      | some k =>
        rcases hc with hc | ⟨hc, _⟩
        · exact hc
        · rcases hc with hc | hc
          · exact (hc (ihk k rfl)).elim
          · rw [c] at hc; cases hc
end Go.Proofs.Ytnofmpbdfcolfaa
