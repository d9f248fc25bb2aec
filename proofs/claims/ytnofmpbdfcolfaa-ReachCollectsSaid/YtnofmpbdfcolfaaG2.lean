/- The walk finds what is needed. -/
import Derived.Test.YtnofmpbdfcolfaaG1
namespace Go.Proofs.Ytnofmpbdfcolfaa
open Go.RowKit Go.Shelf
set_option linter.unusedSimpArgs false
set_option linter.unusedVariables false

/-- Where a condition stands. -/
def Cov (T : List Th) (s : St) (c : Option Nat) (o : Nat) : Prop := match c with
  | none => isOn s o
  | some k => isOn s o ∨ ((¬ isOn s k ∨ ((k : Int) + 1) ∈ s.sk) ∧ ∃ v ∈ s.wt.getD k [], obj T v = true ∧ ix v = o)
theorem Cov.inc {T : List Th} {n : Nat} {s s' : St} (hi : Inc n s s') {c : Option Nat} {o : Nat} (h : Cov T s c o) : Cov T s' c o := by
  cases c with
  | none => exact hi.on o h
  | some k =>
    rcases h with h | ⟨h1, v, hv, h2⟩
    · exact .inl (hi.on o h)
    · refine .inr ⟨?_, v, hi.wt k v hv, h2⟩
      by_cases hk : isOn s' k
      · rcases hi.new k hk with h3 | h3
        · rcases h1 with h1 | h1
          · exact (h1 h3).elim
          · exact .inr (hi.sk _ h1)
        · exact .inr h3
      · exact .inl hk

theorem isOn_not {s : St} {k : Nat} (hk : k < s.nd.length) (h : s.nd.getD k true = false) : ¬ isOn s k := fun e => by have := e.1; rw [h] at this; cases this

/-- A thing that is gone through is covered. -/
theorem thro_cov (T : List Th) (t : Th) (s : St) (hn : s.nd.length = T.length) (hw : s.wt.length = T.length) {c : Option Nat} {o : Nat} (h : Ld T t c o) : Cov T (thro T s t) c o := by
  have pairs : ∀ {p : Nat × V}, isWk t = true → p ∈ vals t → ∃ s1, s1.nd.length = T.length ∧ s1.wt.length = T.length ∧ Inc T.length (modeF T t.weak s1 p.2 (t.sl.getD p.1 (0, 0))) (thro T s t) := by
    intro p hk hp
    have h0 : Inc T.length s (need0 T s t) := by
      unfold need0; split
      · exact need_inc T _ _ _
      · exact Inc.refl _ _
    obtain ⟨s1, i1, i2⟩ := fold_has (n := T.length) (f := fun s (p : Nat × V) => modeF T t.weak s p.2 (t.sl.getD p.1 (0, 0))) (fun s p => modeF_inc T _ _ _ _ _) (vals t) hp (need0 T s t)
    refine ⟨s1, (i1.len.trans h0.len).trans hn, (i1.wl.trans h0.wl).trans hw, ?_⟩
    unfold thro
    rw [if_pos hk]
    unfold pairF
    rw [List.take_length]
    exact i2
  cases h with
  | plain v hk hv ho =>
    obtain ⟨s1, i1, i2⟩ := fold_has (n := T.length) (f := need T) (fun s a => need_inc T _ s a) t.sl hv s
    have : thro T s t = t.sl.foldl (need T) s := by unfold thro; rw [hk]; rfl
    rw [this]
    exact i2.on _ (need_on T s1 (i1.len.trans hn) v ho)
  | meta' hl hk ho =>
    have h1 : thro T s t = pairF (modeF T t.weak) t (need0 T s t) (vals t).length := by unfold thro; rw [if_pos hk]
    rw [h1]
    unfold pairF
    refine (fold_inc (n := T.length) (f := fun s (p : Nat × V) => modeF T t.weak s p.2 (t.sl.getD p.1 (0, 0))) (fun s p => modeF_inc T _ _ _ _ _) _ _).on _ ?_
    unfold need0; rw [dif_pos hl]
    exact need_on T s hn _ ho
  | key1 p hk hw1 hp hh ho =>
    obtain ⟨s1, l1, l2, i⟩ := pairs hk hp
    refine i.on _ ?_
    have : modeF T t.weak s1 p.2 (t.sl.getD p.1 (0, 0)) = need T (need T s1 p.2) (t.sl.getD p.1 (0, 0)) := by unfold modeF; rw [if_pos hw1]; unfold needP; rw [hh]; rfl
    rw [this]
    exact (need_inc T T.length _ _).on _ (need_on T s1 l1 _ ho)
  | val1 p hk hw1 hp hh ho =>
    obtain ⟨s1, l1, l2, i⟩ := pairs hk hp
    refine i.on _ ?_
    have : modeF T t.weak s1 p.2 (t.sl.getD p.1 (0, 0)) = need T (need T s1 p.2) (t.sl.getD p.1 (0, 0)) := by unfold modeF; rw [if_pos hw1]; unfold needP; rw [hh]; rfl
    rw [this]
    exact need_on T _ ((need_inc T T.length s1 p.2).len.trans l1) _ ho
  | eph p hk hw1 hp hh ho =>
    obtain ⟨s1, l1, l2, i⟩ := pairs hk hp
    refine Cov.inc i ?_
    have hx := obj_ix (held_obj hh)
    have e0 : modeF T t.weak s1 p.2 (t.sl.getD p.1 (0, 0)) = needP T s1 p.2 (t.sl.getD p.1 (0, 0)) := by unfold modeF; rw [if_pos hw1]
    rw [e0]
    cases hq : s1.nd.getD (p.2.2.toNat - 1) true with
    | true =>
      have : needP T s1 p.2 (t.sl.getD p.1 (0, 0)) = need T (need T s1 p.2) (t.sl.getD p.1 (0, 0)) := by unfold needP; rw [hh, hq]; rfl
      rw [this]
      exact .inl (need_on T _ ((need_inc T T.length s1 p.2).len.trans l1) _ ho)
    | false =>
      have e1 : needP T s1 p.2 (t.sl.getD p.1 (0, 0)) = { s1 with wt := s1.wt.set (p.2.2.toNat - 1) (s1.wt.getD (p.2.2.toNat - 1) [] ++ [t.sl.getD p.1 (0, 0)]) } := by unfold needP; rw [hh, hq]; rfl
      rw [e1]
      refine .inr ⟨.inl ?_, t.sl.getD p.1 (0, 0), ?_, ho, rfl⟩
      · exact isOn_not (s := { s1 with wt := _ }) (by show ix p.2 < s1.nd.length; rw [l1]; exact hx.1) hq
      · show _ ∈ (s1.wt.set (p.2.2.toNat - 1) _).getD (ix p.2) []
        rw [getD_set _ _ _ _ _ (by rw [l2]; exact hx.1)]
        unfold ix
        rw [if_pos rfl]
        simp
  | key2 p hk hw1 hp ho =>
    obtain ⟨s1, l1, l2, i⟩ := pairs hk hp
    refine i.on _ ?_
    have : modeF T t.weak s1 p.2 (t.sl.getD p.1 (0, 0)) = needT T (need T s1 p.2) (t.sl.getD p.1 (0, 0)) := by unfold modeF; rw [if_neg (by omega), if_pos hw1]; rfl
    rw [this]
    exact (needT_inc T T.length _ _).on _ (need_on T s1 l1 _ ho)
  | val2 p hk hw1 hp h4 ho =>
    obtain ⟨s1, l1, l2, i⟩ := pairs hk hp
    refine i.on _ ?_
    have : modeF T t.weak s1 p.2 (t.sl.getD p.1 (0, 0)) = need T (need T s1 p.2) (t.sl.getD p.1 (0, 0)) := by unfold modeF; rw [if_neg (by omega), if_pos hw1]; unfold needK needT; rw [if_pos h4]
    rw [this]
    exact need_on T _ ((need_inc T T.length s1 p.2).len.trans l1) _ ho
  | key3 p hk hw1 hp h4 ho =>
    obtain ⟨s1, l1, l2, i⟩ := pairs hk hp
    refine i.on _ ?_
    have : modeF T t.weak s1 p.2 (t.sl.getD p.1 (0, 0)) = needT T (need T s1 p.2) (t.sl.getD p.1 (0, 0)) := by unfold modeF; rw [if_neg (by omega), if_neg (by omega)]; unfold needTT; rw [show needT T s1 p.2 = need T s1 p.2 by unfold needT; rw [if_pos h4]]
    rw [this]
    exact (needT_inc T T.length _ _).on _ (need_on T s1 l1 _ ho)
  | val3 p hk hw1 hp h4 ho =>
    obtain ⟨s1, l1, l2, i⟩ := pairs hk hp
    refine i.on _ ?_
    have : modeF T t.weak s1 p.2 (t.sl.getD p.1 (0, 0)) = need T (needT T s1 p.2) (t.sl.getD p.1 (0, 0)) := by unfold modeF; rw [if_neg (by omega), if_neg (by omega)]; unfold needTT; rw [show ∀ s, needT T s (t.sl.getD p.1 (0, 0)) = need T s (t.sl.getD p.1 (0, 0)) from fun s => by unfold needT; rw [if_pos h4]]
    rw [this]
    exact need_on T _ ((needT_inc T T.length s1 p.2).len.trans l1) _ ho

/-- All that was gone through is covered. -/
structure Cpl (T : List Th) (s : St) : Prop where
  nl : s.nd.length = T.length
  wl : s.wt.length = T.length
  cov : ∀ i, isOn s i → ((i : Int) + 1) ∉ s.sk → ∀ c o, Ld T (thAt T i) c o → Cov T s c o
  rng : ∀ x ∈ s.sk, 1 ≤ x ∧ x ≤ (T.length : Int)

theorem thro_inc (T : List Th) (n : Nat) (s : St) (t : Th) : Inc n s (thro T s t) := by
  unfold thro; split
  · refine Inc.trans (b := need0 T s t) ?_ (fold_inc (n := n) (f := fun s (p : Nat × V) => modeF T t.weak s p.2 (t.sl.getD p.1 (0, 0))) (fun s p => modeF_inc T _ _ _ _ _) _ _)
    unfold need0; split
    · exact need_inc T _ _ _
    · exact Inc.refl _ _
  · exact fold_inc (fun s a => need_inc T _ s a) _ _

theorem stepG_cov (T : List Th) (s : St) (h : Cpl T s) (h0 : s.sk ≠ []) (i : Nat) (hi : isOn (stepG T s) i) (hs : ((i : Int) + 1) ∉ (stepG T s).sk) (c : Option Nat) (o : Nat) (hl : Ld T (thAt T i) c o) : Cov T (stepG T s) c o := by
  have hlast : s.sk.getLastD 0 = s.sk.getLast h0 := by rw [List.getLastD_eq_getLast?, List.getLast?_eq_some_getLast h0]; rfl
  have hr := h.rng _ (List.getLast_mem h0)
  have hsk : s.sk = s.sk.dropLast ++ [s.sk.getLast h0] := (List.dropLast_concat_getLast h0).symm
  obtain ⟨e, he⟩ : ∃ e : Nat, s.sk.getLast h0 = (e : Int) + 1 := ⟨(s.sk.getLast h0 - 1).toNat, by omega⟩
  have hst : stepG T s = thro T ((s.wt.getD e []).foldl (need T) (popS s)) (thAt T e) := by
    unfold stepG; rw [hlast, he, show ((e : Int) + 1).toNat - 1 = e by omega]
  have i1 : Inc T.length (popS s) ((s.wt.getD e []).foldl (need T) (popS s)) := fold_inc (fun s a => need_inc T _ s a) _ _
  have i2 : Inc T.length ((s.wt.getD e []).foldl (need T) (popS s)) (stepG T s) := by rw [hst]; exact thro_inc T _ _ _
  have n1 : ((s.wt.getD e []).foldl (need T) (popS s)).nd.length = T.length := i1.len.trans h.nl
  have w1 : ((s.wt.getD e []).foldl (need T) (popS s)).wt.length = T.length := i1.wl.trans h.wl
  by_cases hie : i = e
  · subst hie
    rw [hst]; exact thro_cov T _ _ n1 w1 hl
  · have hi0 : isOn s i := by
      rcases (i1.trans i2).new i hi with h1 | h1
      · exact h1
      · exact (hs h1).elim
    have hns : ((i : Int) + 1) ∉ s.sk := fun hm => by
      rw [hsk] at hm
      rcases List.mem_append.1 hm with h1 | h1
      · exact hs ((i1.trans i2).sk _ h1)
      · simp at h1; rw [he] at h1; omega
    refine Cov.inc i2 ?_
    have hc := h.cov i hi0 hns c o hl
    cases c with
    | none => exact i1.on o hc
    | some k =>
      rcases hc with hc | ⟨hc, v, hv, ho, hx⟩
      · exact .inl (i1.on o hc)
      · by_cases hke : k = e
        · subst hke
          refine .inl ?_
          obtain ⟨s1, j1, j2⟩ := fold_has (n := T.length) (f := need T) (fun s a => need_inc T _ s a) _ hv (popS s)
          rw [← hx]
          exact j2.on _ (need_on T s1 (j1.len.trans h.nl) v ho)
        · refine Cov.inc (c := some k) i1 (.inr ⟨?_, v, hv, ho, hx⟩)
          rcases hc with hc | hc
          · exact .inl hc
          · rw [hsk] at hc
            rcases List.mem_append.1 hc with h1 | h1
            · exact .inr h1
            · simp at h1; rw [he] at h1; omega
end Go.Proofs.Ytnofmpbdfcolfaa
