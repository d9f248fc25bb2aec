/- Scope: the first name of a variable. -/
import Derived.Test.YtgkgpjbbmnfnmaaGreatDoorS24
namespace Go.Proofs.YtgkgpjbbmnfnmaaGreatDoor
open Go.RowKit
set_option linter.unusedSimpArgs false
set_option linter.unusedVariables false

/-- What holds while names are told: M is how many variables each function has up to now, F the names that are still to come. -/
structure Inv (s : St) (M : Int → Int) (F : List (Int × ByteArray)) : Prop where
  num : 0 ≤ s.num ∧ s.num ≤ s.cnt
  made : M s.num = s.made ∧ 0 ≤ s.made
  ent : ∀ e ∈ s.stk, 0 ≤ e.o ∧ e.o ≤ s.num ∧ 0 ≤ e.n ∧ e.n < M e.o ∧ ∃ d ∈ s.us, d.o = e.o ∧ d.v = e.n ∧ d.f = d.o ∧ d.t = e.t ∧ ∀ p ∈ F, d.a < p.1
  use : ∀ x ∈ s.us, (x.o = -1 ∧ x.v = -1) ∨ (0 ≤ x.o ∧ 0 ≤ x.v ∧ x.o ≤ x.f ∧ x.o ≤ s.cnt ∧ x.v < M x.o ∧ ∃ d ∈ s.us, d.o = x.o ∧ d.v = x.v ∧ d.f = d.o ∧ d.a ≤ x.a)
  same : ∀ x ∈ s.us, ∀ y ∈ s.us, x.o = y.o → x.v = y.v → 0 ≤ x.o → x.t = y.t
  far : ∀ o n, 0 ≤ s.far o n ∧ (0 ≤ o → (0 < s.far o n ↔ ∃ x ∈ s.us, x.o = o ∧ x.v = n ∧ x.f ≠ o))
  far0 : s.far (-1) (-1) = 0
def Stp (s : St) (M : Int → Int) (s' : St) (M' : Int → Int) : Prop := s'.num = s.num ∧ s.cnt ≤ s'.cnt ∧ ∀ o, o ≤ s.cnt → o ≠ s.num → M' o = M o
theorem Stp.refl (s : St) (M : Int → Int) : Stp s M s M := ⟨rfl, Int.le_refl _, fun _ _ _ => rfl⟩
theorem Stp.trans {s s1 s2 : St} {M M1 M2 : Int → Int} (h : Stp s M s1 M1) (k : Stp s1 M1 s2 M2) : Stp s M s2 M2 :=
  ⟨k.1.trans h.1, Int.le_trans h.2.1 k.2.1, fun o h1 h2 => (k.2.2 o (Int.le_trans h1 h.2.1) (by rw [h.1]; exact h2)).trans (h.2.2 o h1 h2)⟩
theorem Inv.mono {s : St} {M : Int → Int} {F F' : List (Int × ByteArray)} (h : Inv s M F) (hF : ∀ p ∈ F', p ∈ F) : Inv s M F' :=
  ⟨h.num, h.made, fun e he => by obtain ⟨h1, h2, h3, h4, d, hd, h5, h6, h7, h8, h9⟩ := h.ent e he; exact ⟨h1, h2, h3, h4, d, hd, h5, h6, h7, h8, fun p hp => h9 p (hF p hp)⟩, h.use, h.same, h.far, h.far0⟩
theorem bytes_ext {a b : ByteArray} (h : a.toList = b.toList) : a = b := by
  rw [ByteArray.toList_eq, ByteArray.toList_eq] at h
  cases a; cases b
  simp at h
  rw [h]
theorem name_inv {s : St} {M : Int → Int} {F : List (Int × ByteArray)} (h : Inv s M F) (a : Int) (t : ByteArray) (hF : ∀ p ∈ F, a < p.1) : ∃ M', Inv (nameS s a t) M' F ∧ Stp s M (nameS s a t) M' := by
  obtain ⟨e1, e2, e3, e4, e5, e6, e7⟩ := errS_eq s a
  have f1 : (nameS s a t).stk = s.stk ++ [⟨t, s.num, s.made⟩] := rfl
  have f2 : (nameS s a t).us = s.us ++ [⟨a, t, s.num, s.num, s.made, false⟩] := by
    show (errS s a).us ++ [⟨a, t, (errS s a).num, s.num, s.made, false⟩] = _
    rw [e2, e4]
  have f3 : (nameS s a t).far = s.far := by
    show (if (s.num != -1 && s.num != (errS s a).num) = true then bumpF (errS s a).far s.num s.made else (errS s a).far) = _
    rw [e3, e4]
    simp
  have f4 : (nameS s a t).num = s.num := e4
  have f5 : (nameS s a t).made = s.made + 1 := rfl
  have f6 : (nameS s a t).cnt = s.cnt := e7
  have hm := h.made
  have hn := h.num
  have hM : ∀ o v, v < M o → v < (if o = s.num then s.made + 1 else M o) := fun o v hv => by
    split
    · rename_i e; rw [e, hm.1] at hv; omega
    · exact hv
  refine ⟨fun o => if o = s.num then s.made + 1 else M o, ⟨?_, ?_, ?_, ?_, ?_, ?_, ?_⟩, ⟨f4, by rw [f6]; exact Int.le_refl _, fun o _ h2 => if_neg h2⟩⟩
  · rw [f4, f6]; exact hn
  · rw [f4, f5]; exact ⟨if_pos rfl, by omega⟩
  · intro e he
    rw [f1] at he
    rw [f2, f4]
    rcases List.mem_append.1 he with he | he
    · obtain ⟨h1, h2, h3, h4, d, hd, h5⟩ := h.ent e he
      exact ⟨h1, h2, h3, hM _ _ h4, d, List.mem_append_left _ hd, h5⟩
    · rw [List.mem_singleton.1 he]
      exact ⟨hn.1, Int.le_refl _, hm.2, by rw [if_pos rfl]; show s.made < _; omega, _, List.mem_append_right _ (List.mem_singleton.2 rfl), rfl, rfl, rfl, rfl, hF⟩
  · intro x hx
    rw [f2] at hx ⊢
    rw [f6]
    rcases List.mem_append.1 hx with hx | hx
    · rcases h.use x hx with h1 | ⟨h1, h2, h3, h4, h5, d, hd, h6⟩
      · exact .inl h1
      · exact .inr ⟨h1, h2, h3, h4, hM _ _ h5, d, List.mem_append_left _ hd, h6⟩
    · rw [List.mem_singleton.1 hx]
      exact .inr ⟨hn.1, hm.2, Int.le_refl _, hn.2, by rw [if_pos rfl]; show s.made < _; omega, _, List.mem_append_right _ (List.mem_singleton.2 rfl), rfl, rfl, rfl, Int.le_refl _⟩
  · intro x hx y hy ho hv h0
    rw [f2] at hx hy
    have key : ∀ z ∈ s.us, z.o = s.num → z.v = s.made → 0 ≤ z.o → False := fun z hz q1 q2 q3 => by
      rcases h.use z hz with ⟨h1, _⟩ | ⟨_, _, _, _, h5, _⟩
      · omega
      · rw [q1, hm.1] at h5; omega
    rcases List.mem_append.1 hx with hx | hx <;> rcases List.mem_append.1 hy with hy | hy
    · exact h.same x hx y hy ho hv h0
    · have ey := List.mem_singleton.1 hy
      subst ey
      exact (key x hx ho hv h0).elim
    · have ex := List.mem_singleton.1 hx
      subst ex
      exact (key y hy ho.symm hv.symm (by rw [← ho]; exact hn.1)).elim
    · rw [List.mem_singleton.1 hx, List.mem_singleton.1 hy]
  · intro o n
    rw [f3, f2]
    refine ⟨(h.far o n).1, fun h0 => ((h.far o n).2 h0).trans ⟨fun ⟨x, hx, q⟩ => ⟨x, List.mem_append_left _ hx, q⟩, fun ⟨x, hx, q1, q2, q3⟩ => ?_⟩⟩
    rcases List.mem_append.1 hx with hx | hx
    · exact ⟨x, hx, q1, q2, q3⟩
    · have ex := List.mem_singleton.1 hx
      subst ex
      exact absurd q1 q3
  · rw [f3]; exact h.far0
theorem use_inv {s : St} {M : Int → Int} {F : List (Int × ByteArray)} (a : Int) (t : ByteArray) (h : Inv s M ((a, t) :: F)) : Inv (useS s a t (lookK s.stk t s.stk.length).1 (lookK s.stk t s.stk.length).2) M F := by
  have hF := h.mono (F' := F) (fun p hp => List.mem_cons_of_mem _ hp)
  rcases lookK_in s.stk t s.stk.length with e | ⟨e, he, ht, q⟩
  · rw [e]
    refine ⟨h.num, h.made, ?_, ?_, ?_, ?_, ?_⟩
    · intro e he
      obtain ⟨h1, h2, h3, h4, d, hd, h5⟩ := hF.ent e he
      exact ⟨h1, h2, h3, h4, d, List.mem_append_left _ hd, h5⟩
    · intro x hx
      rcases List.mem_append.1 (show x ∈ s.us ++ [_] from hx) with hx | hx
      · rcases h.use x hx with h1 | ⟨h1, h2, h3, h4, h5, d, hd, h6⟩
        · exact .inl h1
        · exact .inr ⟨h1, h2, h3, h4, h5, d, List.mem_append_left _ hd, h6⟩
      · rw [List.mem_singleton.1 hx]
        exact .inl ⟨rfl, rfl⟩
    · intro x hx y hy ho hv h0
      rcases List.mem_append.1 (show x ∈ s.us ++ [_] from hx) with hx | hx <;> rcases List.mem_append.1 (show y ∈ s.us ++ [_] from hy) with hy | hy
      · exact h.same x hx y hy ho hv h0
      · have ey := List.mem_singleton.1 hy
        subst ey
        have ho' : x.o = -1 := ho
        omega
      · have ex := List.mem_singleton.1 hx
        subst ex
        have h0' : (0 : Int) ≤ -1 := h0
        omega
      · rw [List.mem_singleton.1 hx, List.mem_singleton.1 hy]
    · intro o n
      refine ⟨(h.far o n).1, fun h0 => ((h.far o n).2 h0).trans ⟨fun ⟨x, hx, q⟩ => ⟨x, List.mem_append_left _ hx, q⟩, fun ⟨x, hx, q1, q2, q3⟩ => ?_⟩⟩
      rcases List.mem_append.1 hx with hx | hx
      · exact ⟨x, hx, q1, q2, q3⟩
      · have ex := List.mem_singleton.1 hx
        subst ex
        have q1' : (-1 : Int) = o := q1
        omega
    · exact h.far0
  · rw [q]
    obtain ⟨h1, h2, h3, h4, d, hd, h5, h6, h7, h8, h9⟩ := h.ent e he
    have hn := h.num
    have hte : e.t = t := bytes_ext ht
    refine ⟨h.num, h.made, ?_, ?_, ?_, ?_, ?_⟩
    · intro e he
      obtain ⟨h1, h2, h3, h4, d, hd, h5⟩ := hF.ent e he
      exact ⟨h1, h2, h3, h4, d, List.mem_append_left _ hd, h5⟩
    · intro x hx
      rcases List.mem_append.1 (show x ∈ s.us ++ [_] from hx) with hx | hx
      · rcases h.use x hx with h1 | ⟨h1, h2, h3, h4, h5, d, hd, h6⟩
        · exact .inl h1
        · exact .inr ⟨h1, h2, h3, h4, h5, d, List.mem_append_left _ hd, h6⟩
      · rw [List.mem_singleton.1 hx]
        refine .inr ⟨h1, h3, h2, by show e.o ≤ s.cnt; omega, h4, d, List.mem_append_left _ hd, h5, h6, h7, ?_⟩
        have := h9 (a, t) (List.mem_cons_self ..)
        show d.a ≤ a
        have h10 : d.a < a := this
        omega
    · intro x hx y hy ho hv h0
      rcases List.mem_append.1 (show x ∈ s.us ++ [_] from hx) with hx | hx <;> rcases List.mem_append.1 (show y ∈ s.us ++ [_] from hy) with hy | hy
      · exact h.same x hx y hy ho hv h0
      · have ey := List.mem_singleton.1 hy
        subst ey
        show x.t = t
        rw [h.same x hx d hd (ho.trans h5.symm) (hv.trans h6.symm) h0, h8, hte]
      · have ex := List.mem_singleton.1 hx
        subst ex
        show t = y.t
        rw [h.same y hy d hd (ho.symm.trans h5.symm) (hv.symm.trans h6.symm) (by rw [← ho]; exact h1), h8, hte]
      · rw [List.mem_singleton.1 hx, List.mem_singleton.1 hy]
    · intro o n
      have hne : (e.o != -1) = true := by
        have : e.o ≠ -1 := by omega
        simpa using this
      show 0 ≤ (if (e.o != -1 && e.o != s.num) = true then bumpF s.far e.o e.n else s.far) o n ∧ (0 ≤ o → (0 < (if (e.o != -1 && e.o != s.num) = true then bumpF s.far e.o e.n else s.far) o n ↔ ∃ x ∈ s.us ++ [⟨a, t, s.num, e.o, e.n, false⟩], x.o = o ∧ x.v = n ∧ x.f ≠ o))
      rw [hne, Bool.true_and]
      by_cases hb : e.o = s.num
      · have e0 : (e.o != s.num) = false := by simpa using hb
        rw [e0, if_neg (by decide)]
        refine ⟨(h.far o n).1, fun h0 => ((h.far o n).2 h0).trans ⟨fun ⟨x, hx, q⟩ => ⟨x, List.mem_append_left _ hx, q⟩, fun ⟨x, hx, q1, q2, q3⟩ => ?_⟩⟩
        rcases List.mem_append.1 hx with hx | hx
        · exact ⟨x, hx, q1, q2, q3⟩
        · have ex := List.mem_singleton.1 hx
          subst ex
          exact absurd (hb.symm.trans q1) q3
      · have e0 : (e.o != s.num) = true := by simpa using hb
        rw [e0, if_pos rfl]
        have hf := h.far o n
        have hf2 := (h.far e.o e.n).1
        unfold bumpF
        split
        · rename_i hon
          obtain ⟨rfl, rfl⟩ := hon
          exact ⟨by omega, fun _ => ⟨fun _ => ⟨_, List.mem_append_right _ (List.mem_singleton.2 rfl), rfl, rfl, fun e => hb e.symm⟩, fun _ => by omega⟩⟩
        · rename_i hon
          refine ⟨hf.1, fun h0 => (hf.2 h0).trans ⟨fun ⟨x, hx, q⟩ => ⟨x, List.mem_append_left _ hx, q⟩, fun ⟨x, hx, q1, q2, q3⟩ => ?_⟩⟩
          rcases List.mem_append.1 hx with hx | hx
          · exact ⟨x, hx, q1, q2, q3⟩
          · have ex := List.mem_singleton.1 hx
            subst ex
            exact absurd ⟨q1.symm, q2.symm⟩ hon
    · show (if (e.o != -1 && e.o != s.num) = true then bumpF s.far e.o e.n else s.far) (-1) (-1) = 0
      split
      · unfold bumpF
        rw [if_neg (by omega)]
        exact h.far0
      · exact h.far0
abbrev Ris (N : List (Int × ByteArray)) : Prop := N.Pairwise (fun p q => p.1 < q.1)
theorem lrn_inv : ∀ (ns : List Tr) {s : St} {M : Int → Int} {F : List (Int × ByteArray)}, (∀ x ∈ ns, x.k = 6) → Ris (nmsL ns ++ F) → Inv s M F → ∃ M', Inv (lrnS ns s) M' F ∧ Stp s M (lrnS ns s) M'
  | [], s, M, F, _, _, h => ⟨M, h, Stp.refl _ _⟩
  | .mk k t vt vn n l a :: r, s, M, F, hk, hr, h => by
    obtain rfl : k = 6 := hk _ (List.mem_cons_self ..)
    have hr' : Ris ((a, t) :: (nmsL r ++ F)) := by simpa [nmsL, nms] using hr
    rw [Ris, List.pairwise_cons] at hr'
    obtain ⟨M1, h1, h2⟩ := name_inv h a t (fun p hp => hr'.1 p (List.mem_append_right _ hp))
    obtain ⟨M2, h3, h4⟩ := lrn_inv r (fun x hx => hk x (List.mem_cons_of_mem _ hx)) hr'.2 h1
    exact ⟨M2, h3, h2.trans h4⟩
def Kps (x : Tr) : Prop := ∀ (F : List (Int × ByteArray)) (s : St) (M : Int → Int), Ris (nms x ++ F) → Inv s M (nms x ++ F) → ∃ M', Inv (wk x s) M' F ∧ Stp s M (wk x s) M'
theorem all_inv : ∀ (l : List Tr), (∀ x ∈ l, Kps x) → ∀ (F : List (Int × ByteArray)) (s : St) (M : Int → Int), Ris (nmsL l ++ F) → Inv s M (nmsL l ++ F) → ∃ M', Inv (allS (wkR l) s) M' F ∧ Stp s M (allS (wkR l) s) M'
  | [], _, F, s, M, _, h => ⟨M, h, Stp.refl _ _⟩
  | x :: r, hk, F, s, M, hr, h => by
    rw [nmsL, List.append_assoc] at hr h
    obtain ⟨M1, h1, h2⟩ := hk x (List.mem_cons_self ..) (nmsL r ++ F) s M hr h
    obtain ⟨M2, h3, h4⟩ := all_inv r (fun y hy => hk y (List.mem_cons_of_mem _ hy)) F (wk x s) M1 (List.pairwise_append.1 hr).2.1 h1
    exact ⟨M2, h3, h2.trans h4⟩
theorem blk_inv {ns l : List Tr} (hn : ∀ x ∈ ns, x.k = 6) (hl : ∀ x ∈ l, Kps x) {F : List (Int × ByteArray)} {s : St} {M : Int → Int} (hr : Ris (nmsL ns ++ (nmsL l ++ F))) (h : Inv s M (nmsL l ++ F)) : ∃ M', Inv (blkS ns (wkR l) s) M' F ∧ Stp s M (blkS ns (wkR l) s) M' := by
  obtain ⟨M1, h1, h2⟩ := lrn_inv ns hn hr h
  obtain ⟨M2, h3, h4⟩ := all_inv l hl F _ M1 (List.pairwise_append.1 hr).2.1 h1
  have h5 := h2.trans h4
  exact ⟨M2, ⟨h3.num, h3.made, fun e he => h3.ent e (List.mem_of_mem_take he), h3.use, h3.same, h3.far, h3.far0⟩, h5⟩
theorem fun_inv {ns l : List Tr} (hn : ∀ x ∈ ns, x.k = 6) (hl : ∀ x ∈ l, Kps x) {F : List (Int × ByteArray)} {s : St} {M : Int → Int} (hr : Ris (nmsL ns ++ (nmsL l ++ F))) (h : Inv s M (nmsL l ++ F)) : ∃ M', Inv (funS ns (wkR l) s) M' F ∧ Stp s M (funS ns (wkR l) s) M' := by
  have hnum := h.num
  have hc : ∀ o, o ≤ s.cnt → (if o = s.cnt + 1 then 0 else M o) = M o := fun o ho => if_neg (by omega)
  have h0 : Inv (inS s) (fun o => if o = s.cnt + 1 then 0 else M o) (nmsL l ++ F) := by
    refine ⟨⟨by show 0 ≤ s.cnt + 1; omega, Int.le_refl _⟩, ⟨if_pos rfl, Int.le_refl _⟩, ?_, ?_, h.same, h.far, h.far0⟩
    · intro e he
      obtain ⟨h1, h2, h3, h4, h5⟩ := h.ent e he
      exact ⟨h1, by show e.o ≤ s.cnt + 1; omega, h3, by rw [hc e.o (by omega)]; exact h4, h5⟩
    · intro x hx
      rcases h.use x hx with h1 | ⟨h1, h2, h3, h4, h5, h6⟩
      · exact .inl h1
      · exact .inr ⟨h1, h2, h3, by show x.o ≤ s.cnt + 1; omega, by rw [hc x.o h4]; exact h5, h6⟩
  obtain ⟨M1, h1, h2, h3, h4⟩ := blk_inv hn hl hr h0
  have h3' : s.cnt + 1 ≤ (blkS ns (wkR l) (inS s)).cnt := h3
  have hM : ∀ o, o ≤ s.cnt → M1 o = M o := fun o ho => (h4 o (by show o ≤ s.cnt + 1; omega) (by show o ≠ s.cnt + 1; omega)).trans (hc o ho)
  refine ⟨M1, ⟨⟨hnum.1, by show s.num ≤ (blkS ns (wkR l) (inS s)).cnt; omega⟩, ⟨(hM _ hnum.2).trans h.made.1, h.made.2⟩, ?_, h1.use, h1.same, h1.far, h1.far0⟩, ⟨rfl, by show s.cnt ≤ (blkS ns (wkR l) (inS s)).cnt; omega, fun o ho _ => hM o ho⟩⟩
  intro e he
  obtain ⟨a1, a2, a3, a4, a5⟩ := h1.ent e he
  refine ⟨a1, ?_, a3, a4, a5⟩
  have e1 : (blkS ns (wkR l) (inS s)).stk = s.stk := blkS_stk (wkR_stk l) ns (inS s)
  have he' : e ∈ (blkS ns (wkR l) (inS s)).stk := he
  rw [e1] at he'
  exact (h.ent e he').2.1
theorem node_inv (k : Int) (t : ByteArray) (vt vn n : Int) (l : List Tr) (a : Int) (hS : Shp (.mk k t vt vn n l a)) (hl : ∀ x ∈ l, Kps x) : Kps (.mk k t vt vn n l a) := by
  intro F s M hr h
  unfold Shp at hS
  obtain ⟨⟨q7, q21, q26, q29⟩, _, k7, k21, k26⟩ := hS
  have ht : ∀ j, ∀ x ∈ l.take j, Kps x := fun j x hx => hl x (List.mem_of_mem_take hx)
  have hd : ∀ j, ∀ x ∈ l.drop j, Kps x := fun j x hx => hl x (List.mem_of_mem_drop hx)
  rw [nms] at hr h
  rw [wk_mk]
  unfold nodeS
  split
  · rename_i h6
    rw [if_pos h6] at hr h
    exact ⟨M, use_inv a t h, ⟨rfl, Int.le_refl _, fun _ _ _ => rfl⟩⟩
  rename_i h6
  rw [if_neg h6] at hr h
  split
  · rename_i h7
    rw [← wkR_drop]
    rw [nmsL_split l (l.length - 1), List.append_assoc] at hr h
    exact fun_inv (k7 h7) (hd _) hr (h.mono (fun p hp => List.mem_append_right _ hp))
  split
  · exact blk_inv (ns := []) (by simp) hl hr h
  split
  · rename_i h7 h20 h21
    rw [← wkR_drop]
    rw [nmsL_split l n.toNat, List.append_assoc] at hr h
    obtain ⟨M1, h1, h2⟩ := all_inv _ (hd n.toNat) F s M (List.pairwise_append.1 hr).2.1 (h.mono (fun p hp => List.mem_append_right _ hp))
    have hr2 : Ris (nmsL (l.take n.toNat) ++ F) := by
      rw [Ris, List.pairwise_append] at hr ⊢
      exact ⟨hr.1, (List.pairwise_append.1 hr.2.1).2.1, fun p hp q hq => hr.2.2 p hp q (List.mem_append_right _ hq)⟩
    obtain ⟨M2, h3, h4⟩ := lrn_inv _ (k21 h21) hr2 h1
    exact ⟨M2, h3, h2.trans h4⟩
  split
  · rename_i h7 h20 h21 h26
    rw [← wkR_drop, ← wkR_take, ← wkR_drop]
    have e : nmsL l = nmsL (l.take 1) ++ (nmsL ((l.take (l.length - 1)).drop 1) ++ nmsL (l.drop (l.length - 1))) := by
      rw [nmsL_split l (l.length - 1), nmsL_split (l.take (l.length - 1)) 1, List.take_take, Nat.min_eq_left (by have := q26 h26; omega), List.append_assoc]
    rw [e, List.append_assoc, List.append_assoc] at hr h
    have hr1 := (List.pairwise_append.1 hr).2.1
    obtain ⟨M1, h1, h2⟩ := all_inv _ (fun x hx => ht _ x (List.mem_of_mem_drop hx)) (nmsL (l.drop (l.length - 1)) ++ F) s M hr1 (h.mono (fun p hp => List.mem_append_right _ hp))
    have hr2 : Ris (nmsL (l.take 1) ++ (nmsL (l.drop (l.length - 1)) ++ F)) := by
      rw [Ris, List.pairwise_append] at hr ⊢
      exact ⟨hr.1, (List.pairwise_append.1 hr.2.1).2.1, fun p hp q hq => hr.2.2 p hp q (List.mem_append_right _ hq)⟩
    obtain ⟨M2, h3, h4⟩ := blk_inv (k26 (.inl h26)) (hd (l.length - 1)) hr2 h1
    exact ⟨M2, h3, h2.trans h4⟩
  split
  · rename_i h7 h20 h21 h26 h29
    rw [← wkR_drop]
    rw [nmsL_split l 1, List.append_assoc] at hr h
    obtain ⟨M1, h1, h2⟩ := lrn_inv _ (k26 (.inr h29)) hr (h.mono (fun p hp => List.mem_append_right _ hp))
    obtain ⟨M2, h3, h4⟩ := all_inv _ (hd 1) F _ M1 (List.pairwise_append.1 hr).2.1 h1
    exact ⟨M2, h3, h2.trans h4⟩
  · exact all_inv l hl F s M hr h
mutual
theorem wk_inv : ∀ x : Tr, Shp x → Kps x
  | .mk k t vt vn n l a, h => node_inv k t vt vn n l a h (wkL_inv l (by unfold Shp at h; exact h.2.1))
theorem wkL_inv : ∀ l : List Tr, ShpL l → ∀ x ∈ l, Kps x
  | [], _, x, hx => by simp at hx
  | y :: r, h, x, hx => by
    unfold ShpL at h
    rcases List.mem_cons.1 hx with e | hx
    · rw [e]; exact wk_inv y h.1
    · exact wkL_inv r h.2 x hx
end
theorem s0_inv (F : List (Int × ByteArray)) : Inv s0 (fun _ => 0) F :=
  ⟨⟨Int.le_refl _, Int.le_refl _⟩, ⟨rfl, Int.le_refl _⟩, fun e he => by simp [s0] at he, fun x hx => by simp [s0] at hx, fun x hx => by simp [s0] at hx, fun o n => ⟨Int.le_refl _, fun _ => ⟨fun h => absurd h (by show ¬ (0 : Int) < 0; decide), fun ⟨x, hx, _⟩ => by simp [s0] at hx⟩⟩, rfl⟩
theorem Src.ris {s : ByteArray} {x : Tr} {L : List Tk} (h : Src s x L) : Ris (nms x) := by
  obtain ⟨I, h1, h2, h3⟩ := h.names
  have hr := h.lx.rise.2
  rw [Ris, h3, List.pairwise_map]
  refine List.Pairwise.imp_of_mem ?_ h1
  intro i j hi hj hij
  have a1 := (h2 i hi).1
  have a2 := (h2 j hj).1
  dsimp only
  rw [getD_eq a1, getD_eq a2]
  exact List.pairwise_iff_getElem.1 hr i j a1 a2 hij
/-- Of what is found: the first name of a variable. -/
def FirstD (U : List Us) (u : Us) (i : Nat) : Prop :=
  (u.v < 0 → u.o = -1 ∧ u.h = false) ∧ (0 ≤ u.v → u.o ≤ u.f ∧ (u.h = true ↔ ∃ y ∈ U, y.o = u.o ∧ y.v = u.v ∧ y.f ≠ u.o) ∧ ∀ j (hj : j < U.length), U[j].o = u.o → U[j].v = u.v → (∀ k (hk : k < U.length), k < j → ¬ (U[k].o = u.o ∧ U[k].v = u.v)) → U[j].f = u.o ∧ U[j].t = u.t)
theorem Src.first {s : ByteArray} {x : Tr} {L : List Tk} (h : Src s x L) {U : List Us} (hp : U.Perm ((wk x s0).us.map (heldU (wk x s0).far))) (hs : U.Pairwise (fun x y => x.a ≤ y.a)) (i : Nat) (hi : i < U.length) : FirstD U U[i] i := by
  have hSh := psr_shp (.inr ⟨h.le, none, L, h.lx, h.wh.symm⟩ : PsR s (.ok x)) x rfl
  obtain ⟨M, hI, _⟩ := wk_inv x hSh.1 [] s0 (fun _ => 0) (by rw [List.append_nil]; exact h.ris) (s0_inv _)
  obtain ⟨I, hI1, hI2, hI3⟩ := h.found hp hs
  have hr := h.lx.rise.2
  have hlt : ∀ j k (hj : j < U.length) (hk : k < U.length), j < k → U[j].a < U[k].a := fun j k hj hk hjk => by
    obtain ⟨b1, _, b2, _⟩ := hI3 j hj (by rw [hI1]; exact hj)
    obtain ⟨c1, _, c2, _⟩ := hI3 k hk (by rw [hI1]; exact hk)
    rw [b2, c2]
    exact List.pairwise_iff_getElem.1 hr _ _ b1 c1 (List.pairwise_iff_getElem.1 hI2 j k (by omega) (by omega) hjk)
  have hmem : ∀ y ∈ U, ∃ z ∈ (wk x s0).us, y = heldU (wk x s0).far z := fun y hy => by
    obtain ⟨z, hz, e⟩ := List.mem_map.1 (hp.mem_iff.1 hy)
    exact ⟨z, hz, e.symm⟩
  have hback : ∀ z ∈ (wk x s0).us, heldU (wk x s0).far z ∈ U := fun z hz => hp.mem_iff.2 (List.mem_map_of_mem hz)
  obtain ⟨z, hz, ez⟩ := hmem U[i] (List.getElem_mem hi)
  refine ⟨fun hv => ?_, fun hv => ?_⟩
  · rw [ez] at hv ⊢
    have hv' : z.v < 0 := hv
    rcases hI.use z hz with ⟨h1, h2⟩ | ⟨_, h2, _⟩
    · refine ⟨h1, ?_⟩
      show decide (0 < (wk x s0).far z.o z.v) = false
      rw [h1, h2, hI.far0]
      rfl
    · omega
  · rw [ez] at hv ⊢
    have hv' : 0 ≤ z.v := hv
    rcases hI.use z hz with ⟨_, h2⟩ | ⟨h1, h2, h3, h4, h5, d, hd, h6⟩
    · omega
    · refine ⟨h3, ?_, ?_⟩
      · show decide (0 < (wk x s0).far z.o z.v) = true ↔ _
        rw [decide_eq_true_iff, ((hI.far z.o z.v).2 h1)]
        constructor
        · rintro ⟨y, hy, q⟩
          exact ⟨_, hback y hy, q⟩
        · rintro ⟨y, hy, q⟩
          obtain ⟨y', hy', rfl⟩ := hmem y hy
          exact ⟨y', hy', q⟩
      · intro j hj ho hw hfirst
        obtain ⟨y, hy, ey⟩ := hmem U[j] (List.getElem_mem hj)
        rw [ey] at ho hw ⊢
        have ho' : y.o = z.o := ho
        have hw' : y.v = z.v := hw
        rcases hI.use y hy with ⟨b1, _⟩ | ⟨b1, b2, b3, b4, b5, d2, hd2, c1, c2, c3, c4⟩
        · omega
        · obtain ⟨m, hm, em⟩ := List.mem_iff_getElem.1 (hback d2 hd2)
          have hm1 : ¬ m < j := fun hmj => hfirst m hm hmj (by rw [em]; exact ⟨c1.trans ho', c2.trans hw'⟩)
          have hmj : m = j := by
            rcases Nat.lt_or_ge j m with q | q
            · have h7 := hlt j m hj hm q
              rw [em, ey] at h7
              have h8 : y.a < d2.a := h7
              omega
            · omega
          subst hmj
          have e3 : heldU (wk x s0).far d2 = heldU (wk x s0).far y := em.symm.trans ey
          have e4 : d2.f = y.f := by
            show (heldU (wk x s0).far d2).f = (heldU (wk x s0).far y).f
            rw [e3]
          refine ⟨?_, hI.same y hy z hz ho' hw' b1⟩
          show y.f = z.o
          rw [← e4, c3, c1]
          exact ho'
/-- What the law knows when it has looked at the uses from kk on. -/
structure InnerI (U : List Us) (o v : Int) (kk f : Nat) (b : Bool) : Prop where
  le : kk ≤ U.length
  at_ : ∃ h : f < U.length, U[f].o = o ∧ U[f].v = v
  least : ∀ j (hj : j < U.length), kk ≤ j → U[j].o = o → U[j].v = v → f ≤ j
  out : b = true ↔ ∃ j, ∃ hj : j < U.length, kk ≤ j ∧ U[j].o = o ∧ U[j].v = v ∧ U[j].f ≠ o
theorem InnerI.start {U : List Us} {i : Nat} (hi : i < U.length) : InnerI U U[i].o U[i].v U.length i false :=
  ⟨Nat.le_refl _, ⟨hi, rfl, rfl⟩, fun j hj h => by omega, ⟨fun h => by simp at h, fun ⟨j, hj, h, _⟩ => by omega⟩⟩
theorem InnerI.other {U : List Us} {o v : Int} {k f : Nat} {b : Bool} (h : InnerI U o v (k + 1) f b) (hk : k < U.length) (hn : ¬ (U[k].o = o ∧ U[k].v = v)) : InnerI U o v k f b := by
  refine ⟨Nat.le_of_lt hk, h.at_, fun j hj h1 h2 h3 => ?_, h.out.trans ⟨fun ⟨j, hj, h1, h2⟩ => ⟨j, hj, by omega, h2⟩, fun ⟨j, hj, h1, h2, h3, h4⟩ => ?_⟩⟩
  · rcases Nat.eq_or_lt_of_le h1 with e | e
    · subst e; exact absurd ⟨h2, h3⟩ hn
    · exact h.least j hj e h2 h3
  · rcases Nat.eq_or_lt_of_le h1 with e | e
    · subst e; exact absurd ⟨h2, h3⟩ hn
    · exact ⟨j, hj, e, h2, h3, h4⟩
theorem InnerI.hit {U : List Us} {o v : Int} {k f : Nat} {b : Bool} (h : InnerI U o v (k + 1) f b) (hk : k < U.length) (ho : U[k].o = o) (hv : U[k].v = v) {b' : Bool} (hb : b' = (b || decide (U[k].f ≠ o))) {f' : Nat} (hf : f' = if k ≤ f then k else f) : InnerI U o v k f' b' := by
  subst hb hf
  obtain ⟨h0, h1, h2⟩ := h.at_
  refine ⟨Nat.le_of_lt hk, ?_, fun j hj a1 a2 a3 => ?_, ?_⟩
  · split
    · exact ⟨hk, ho, hv⟩
    · exact ⟨h0, h1, h2⟩
  · rcases Nat.eq_or_lt_of_le a1 with e | e
    · subst e; split <;> omega
    · have := h.least j hj e a2 a3
      split <;> omega
  · rw [Bool.or_eq_true, decide_eq_true_iff]
    constructor
    · rintro (q | q)
      · obtain ⟨j, hj, a1, a2⟩ := h.out.1 q
        exact ⟨j, hj, by omega, a2⟩
      · exact ⟨k, hk, Nat.le_refl _, ho, hv, q⟩
    · rintro ⟨j, hj, a1, a2, a3, a4⟩
      rcases Nat.eq_or_lt_of_le a1 with e | e
      · subst e; exact .inr a4
      · exact .inl (h.out.2 ⟨j, hj, e, a2, a3, a4⟩)
theorem InnerI.done {U : List Us} {x : Us} {i f : Nat} {b : Bool} (h : InnerI U x.o x.v 0 f b) (hF : FirstD U x i) (hv : 0 ≤ x.v) : ∃ hf : f < U.length, U[f].f = x.o ∧ U[f].t = x.t ∧ b = x.h ∧ x.o ≤ x.f := by
  obtain ⟨hf, e1, e2⟩ := h.at_
  obtain ⟨a1, a2, a3⟩ := hF.2 hv
  have a4 := a3 f hf e1 e2 (fun k hk hkf hh => by have := h.least k hk (Nat.zero_le _) hh.1 hh.2; omega)
  refine ⟨hf, a4.1, a4.2, ?_, a1⟩
  rw [Bool.eq_iff_iff, a2, h.out]
  constructor
  · rintro ⟨j, hj, _, q⟩
    exact ⟨_, List.getElem_mem hj, q⟩
  · rintro ⟨y, hy, q⟩
    obtain ⟨j, hj, rfl⟩ := List.mem_iff_getElem.1 hy
    exact ⟨j, hj, Nat.zero_le _, q⟩
theorem lex4_20 : Region.lexB .any (((Tryz.f4.body).bind (regOf 20)).getD #[]) = true := by kernel_rfl
set_option maxRecDepth 20000 in
set_option maxHeartbeats 4000000 in
theorem ScopeFirst_any (s : ByteArray) (w : World) (he : ErrIs w) (hg : SgIs w) : Calls Tryz.prog 4 #[.string s] w fun r w' => r = .returned (.bool true) ∧ Kept No w w' := by
  obtain ⟨T, hT⟩ := PsR.all s
  have HP : Hid _ := Resolve_any s w he hg hT
  have HA : Hid (∀ W, Kept No w W → Calls Tryz.prog 9 #[] W fun r w' => r = .returned (.bool true) ∧ Kept No W w') := fun W hk => alive_any (he.no hk) (hg.no hk)
  clear he hg
  cases hr : resM T with
  | error e =>
    obtain ⟨a, c⟩ := e
    obtain ⟨h1, k1, k2⟩ := resM_err hT hr
    have q1 : (c == 0) = false := by simpa using h1
    clear hT h1
    go_enter Tryz.func4, Tryz.ntmps4
    go_wp2_with fail
    refine Calls.mono HP.out ?_
    rintro e W1 ⟨hk, h1⟩
    rw [hr] at h1
    dsimp only at h1
    subst h1
    have HC : Hid _ := HA.out _ hk
    have HK : Hid (Kept No w W1) := hk
    clear hk HP HA hr
    go_wp2_with (first | (go_at_call 8; refine Calls.mono (no_any _ _) ?_; rintro e w1 ⟨rfl, rfl⟩))
    refine Calls.mono HC.out ?_
    rintro r W2 ⟨rfl, hk2⟩
    have HK2 : Hid _ := HK.out.trans hk2
    clear hk2 HK HC
    go_wp2_with fail
    go_ret
    exact ⟨rfl, HK2.out⟩
  | ok st =>
    have hx : ∃ x, T = .ok x ∧ st = wk x s0 := by
      cases T with
      | error e => cases hr
      | ok x =>
        refine ⟨x, rfl, ?_⟩
        unfold resM at hr
        dsimp only at hr
        split at hr
        · exact (Except.ok.inj hr).symm
        · cases hr
    obtain ⟨x, rfl, rfl⟩ := hx
    obtain ⟨TL, hS⟩ := psr_src hT
    have HS : Hid (Src s x TL) := hS
    clear hT hS
    go_enter Tryz.func4, Tryz.ntmps4
    go_wp2_with fail
    refine Calls.mono HP.out ?_
    rintro e W1 ⟨hk1, h1⟩
    rw [hr] at h1
    obtain ⟨u, rfl, U, ao, cap, B, rfl, hB, hp, hs, hrow⟩ := h1
    have HF : Hid (∀ i (hi : i < U.length), FirstD U U[i] i) := fun i hi => HS.out.first hp hs i hi
    have hUl : U.length ≤ 8192 := by
      obtain ⟨I, hI1, hI2, hI3⟩ := HS.out.found hp hs
      have hlen : TL.length ≤ 8192 := Nat.le_trans HS.out.lx.len (by have := HS.out.le; omega)
      rcases Nat.lt_or_ge TL.length I.length with h1 | h1
      · have h2 := rise_ge hI2 TL.length h1
        obtain ⟨h3, _⟩ := hI3 TL.length (by omega) h1
        omega
      · omega
    have HUc : Hid _ := uses_cells hrow
    have HK1 : Hid (Kept No w W1) := hk1
    clear hk1 hp hs hrow HP hr hB HS
    obtain ⟨n, HN⟩ : ∃ n, Hid (U.length = n) := ⟨_, show _ = _ from rfl⟩
    rw [HN.out] at hUl ⊢
    go_wp2_with (first | (go_at_call 8; refine Calls.mono (no_any _ _) ?_; rintro e w1 ⟨rfl, rfl⟩))
    go_loopw [6] (fun i wr => ∃ j : Nat, j ≤ n ∧ i = .int .i64 (j : Int) ∧ Hid (Kept No W1 wr)) (fun i _ => n - (intOf i).toNat)
    case atStart => exact ⟨0, by omega, rfl, Kept.refl _ _⟩
    case round =>
      obtain ⟨j, hj, rfl, HK⟩ := hrel
      by_cases hlt : j < n
      · have k1 : (j : Int) < (n : Int) := by omega
        have k0 : (0 : Int) ≤ (j : Int) := by omega
        have j1 : j < U.length := by rw [HN.out]; exact hlt
        have hD := HF.out j j1
        have hI := InnerI.start j1
        rw [HN.out] at hI
        obtain ⟨g, rfl, z0, z1, z2, z3, z4, z5⟩ := HUc.out wr HK.out j j1
        generalize U[j] = x at hD hI z0 z1 z2 z3 z4 z5
        obtain ⟨W0, HW0⟩ : ∃ W0, Hid (wr.alloc (.cells #[.int .i64 x.a, .string x.t, .int .i64 x.f, .int .i64 x.o, .int .i64 x.v, .bool x.h] 36) = W0) := ⟨_, show _ = _ from rfl⟩
        obtain ⟨S, HS⟩ : ∃ S, Hid (wr.heap.size = S) := ⟨_, show _ = _ from rfl⟩
        have ka : Kept No wr W0 := by rw [← HW0.out]; exact (Kept.refl No wr).alloc _
        have HB : Hid (W0.heap[S]? = some (.cells #[.int .i64 x.a, .string x.t, .int .i64 x.f, .int .i64 x.o, .int .i64 x.v, .bool x.h] 36 (0, 0))) := by show _ = _; rw [← HS.out]; exact HW0.out ▸ World.alloc_heap_new wr _
        have HKa : Hid (Kept No W1 W0) := HK.out.trans ka
        clear ka
        by_cases hv : x.v < 0
        · obtain ⟨d1, d2⟩ := hD.1 hv
          have q1 : (x.o != -1) = false := by simpa using d1
          clear hD hI d1
          go_wp2_with fail
          go_roundw
          case rel => exact ⟨j + 1, by omega, by go_num, HK.out.alloc _⟩
          all_goals (simp only [intOf, Int.toNat_natCast]; omega)
        · have HD : Hid (FirstD U x j ∧ InnerI U x.o x.v n j false) := ⟨hD, hI⟩
          clear hD hI
          go_wp2_with fail
          rw [HW0.out, HS.out]
          clear HW0 HS z0 z1 z2 z3 z4 z5 HK
          go_loopw [10, 9, 8] (fun kx bx fx wr => ∃ (z : Int) (kk f : Nat) (b : Bool), kx = .int .i64 z ∧ bx = .bool b ∧ fx = .int .i64 (f : Int) ∧ Hid (z + 1 = (kk : Int) ∧ InnerI U x.o x.v kk f b) ∧ Hid (Kept No W0 wr)) (fun kx _ _ _ => (intOf kx + 1).toNat)
          case atStart => exact ⟨_, n, j, false, rfl, rfl, rfl, ⟨by omega, HD.out.2⟩, Kept.refl _ _⟩
          case round =>
            obtain ⟨z, kk, f, b, rfl, rfl, rfl, HI, HKi⟩ := hrel
            have hf : f < n := by
              obtain ⟨h, _⟩ := HI.out.2.at_
              rw [HN.out] at h
              exact h
            have f0 : (0 : Int) ≤ (f : Int) := by omega
            have fn : (f : Int) < (n : Int) := by omega
            have hk1 := HKa.out.trans HKi.out
            have hb := HKi.out.heap HB.out id
            have t1 := cell_of hb 1
            have t2 := cell_of hb 2
            have t3 := cell_of hb 3
            have t4 := cell_of hb 4
            have t5 := cell_of hb 5
            simp only [List.getElem?_toArray, List.getElem?_cons_zero, List.getElem?_cons_succ] at t1 t2 t3 t4 t5
            cases kk with
            | zero =>
              obtain rfl : z = -1 := by have := HI.out.1; omega
              obtain ⟨hfU, w1, w2, w3, w4⟩ := HI.out.2.done HD.out.1 (by omega)
              obtain ⟨g', e', _, y1, y2, _⟩ := HUc.out wr hk1 f hfU
              simp only [Option.some.injEq, Addr.mk.injEq, and_true] at e'
              obtain rfl := e'
              rw [w1] at y2
              rw [w2] at y1
              subst w3
              have q1 : (x.o != x.o) = false := by simp
              have q2 : (x.t.toList != x.t.toList) = false := by simp
              have q3 : (x.h != x.h) = false := by simp
              have q4 : decide (x.f < x.o) = false := decide_eq_false (by omega)
              clear HI hb w1 w2 k1 hk1
              go_wp2_with fail
              try simp only [List.append_eq, List.cons_append, List.nil_append]
              refine wp_region_quiet_lit (by kernel_rfl) (Eq.trans (congrArg (Region.lexB .any) (?e : _ = ((Tryz.f4.body).bind (regOf 20)).getD #[])) lex4_20) ?_
              case e => kernel_rfl
              repeat (go_big_quiet_step (fail))
              refine wpQuiet_nil ?_
              intro _ hw'
              obtain ⟨nr, hw''⟩ := hw'
              subst hw''
              go_wp2_with fail
              go_roundw
              case rel => exact ⟨j + 1, by omega, by go_num, (HKa.out.trans HKi.out).drewN _⟩
              all_goals (simp only [intOf, Int.toNat_natCast]; omega)
            | succ k =>
              obtain rfl : z = (k : Int) := by have := HI.out.1; omega
              have hkn : k < n := by
                have := HI.out.2.le
                rw [HN.out] at this
                omega
              have kl : k < U.length := by rw [HN.out]; exact hkn
              have k2 : (0 : Int) ≤ (k : Int) := by omega
              have k3 : (k : Int) < (n : Int) := by omega
              obtain ⟨g', e', _, _, y2, y3, y4, _⟩ := HUc.out wr hk1 k kl
              simp only [Option.some.injEq, Addr.mk.injEq, and_true] at e'
              obtain rfl := e'
              have HO : Hid (¬ (U[k].o = x.o ∧ U[k].v = x.v) → InnerI U x.o x.v k f b) := fun h => HI.out.2.other kl h
              have HH : Hid (∀ b' f', U[k].o = x.o → U[k].v = x.v → b' = (b || decide (U[k].f ≠ x.o)) → f' = (if k ≤ f then k else f) → InnerI U x.o x.v k f' b') := fun b' f' h1 h2 h3 h4 => HI.out.2.hit kl h1 h2 h3 h4
              generalize U[k] = y at y2 y3 y4 HO HH
              clear hb HI k1 hk1 t1 t2 t5
              by_cases e1 : y.o = x.o
              · rw [e1] at y3
                have q1 : (x.o == x.o) = true := by simp
                by_cases e2 : y.v = x.v
                · rw [e2] at y4
                  have q2 : (x.v == x.v) = true := by simp
                  cases b with
                  | true =>
                    have HN1 : Hid (∀ f', f' = (if k ≤ f then k else f) → InnerI U x.o x.v k f' true) := fun f' h => HH.out true f' e1 e2 (by simp) h
                    clear e1 e2 HO HH
                    go_wp2_with fail
                    go_quiet (fail)
                    go_wp2_with fail
                    go_quiet (fail)
                    by_cases e4 : k ≤ f
                    · have k4 : (k : Int) ≤ (f : Int) := by omega
                      go_wp2_with fail
                      go_roundw
                      case rel => exact ⟨_, k, k, true, rfl, rfl, rfl, ⟨by omega, HN1.out k (if_pos e4).symm⟩, HKi.out.drewN _⟩
                      all_goals (simp only [intOf]; omega)
                    · have k4 : ¬ (k : Int) ≤ (f : Int) := by omega
                      go_wp2_with fail
                      go_roundw
                      case rel => exact ⟨_, k, f, true, rfl, rfl, rfl, ⟨by omega, HN1.out f (if_neg e4).symm⟩, HKi.out.drewN _⟩
                      all_goals (simp only [intOf]; omega)
                  | false =>
                    by_cases e3 : y.f = x.o
                    · have HN1 : Hid (∀ f', f' = (if k ≤ f then k else f) → InnerI U x.o x.v k f' false) := fun f' h => HH.out false f' e1 e2 (by simp [e3]) h
                      rw [e3] at y2
                      have q3 : (x.o != x.o) = false := by simp
                      clear e1 e2 HO HH e3
                      go_wp2_with fail
                      go_quiet (fail)
                      go_wp2_with fail
                      go_quiet (fail)
                      by_cases e4 : k ≤ f
                      · have k4 : (k : Int) ≤ (f : Int) := by omega
                        go_wp2_with fail
                        go_roundw
                        case rel => exact ⟨_, k, k, false, rfl, rfl, rfl, ⟨by omega, HN1.out k (if_pos e4).symm⟩, HKi.out.drewN _⟩
                        all_goals (simp only [intOf]; omega)
                      · have k4 : ¬ (k : Int) ≤ (f : Int) := by omega
                        go_wp2_with fail
                        go_roundw
                        case rel => exact ⟨_, k, f, false, rfl, rfl, rfl, ⟨by omega, HN1.out f (if_neg e4).symm⟩, HKi.out.drewN _⟩
                        all_goals (simp only [intOf]; omega)
                    · have HN1 : Hid (∀ f', f' = (if k ≤ f then k else f) → InnerI U x.o x.v k f' true) := fun f' h => HH.out true f' e1 e2 (by simp [e3]) h
                      have q3 : (y.f != x.o) = true := by simpa using e3
                      clear e1 e2 HO HH e3
                      go_wp2_with fail
                      go_quiet (fail)
                      go_wp2_with fail
                      go_quiet (fail)
                      by_cases e4 : k ≤ f
                      · have k4 : (k : Int) ≤ (f : Int) := by omega
                        go_wp2_with fail
                        go_roundw
                        case rel => exact ⟨_, k, k, true, rfl, rfl, rfl, ⟨by omega, HN1.out k (if_pos e4).symm⟩, HKi.out.drewN _⟩
                        all_goals (simp only [intOf]; omega)
                      · have k4 : ¬ (k : Int) ≤ (f : Int) := by omega
                        go_wp2_with fail
                        go_roundw
                        case rel => exact ⟨_, k, f, true, rfl, rfl, rfl, ⟨by omega, HN1.out f (if_neg e4).symm⟩, HKi.out.drewN _⟩
                        all_goals (simp only [intOf]; omega)
                · have q2 : (y.v == x.v) = false := by simpa using e2
                  have HN1 : Hid (InnerI U x.o x.v k f b) := HO.out (fun h => e2 h.2)
                  clear e1 e2 HO HH
                  go_wp2_with fail
                  go_quiet (fail)
                  go_wp2_with fail
                  go_roundw
                  case rel => exact ⟨_, k, f, b, rfl, rfl, rfl, ⟨by omega, HN1.out⟩, HKi.out.drewN _⟩
                  all_goals (simp only [intOf]; omega)
              · have q1 : (y.o == x.o) = false := by simpa using e1
                have HN1 : Hid (InnerI U x.o x.v k f b) := HO.out (fun h => e1 h.1)
                clear e1 HO HH
                go_wp2_with fail
                go_quiet (fail)
                go_wp2_with fail
                go_roundw
                case rel => exact ⟨_, k, f, b, rfl, rfl, rfl, ⟨by omega, HN1.out⟩, HKi.out.drewN _⟩
                all_goals (simp only [intOf]; omega)
      · have k1 : ¬ (j : Int) < (n : Int) := by omega
        have HC : Hid _ := HA.out wr (HK1.out.trans HK.out)
        go_wp2_with fail
        refine Calls.mono HC.out ?_
        rintro r W3 ⟨rfl, hk3⟩
        have HK3 : Hid _ := (HK1.out.trans HK.out).trans hk3
        clear hk3 HC
        go_wp2_with fail
        go_ret
        exact ⟨rfl, HK3.out⟩
end Go.Proofs.YtgkgpjbbmnfnmaaGreatDoor
