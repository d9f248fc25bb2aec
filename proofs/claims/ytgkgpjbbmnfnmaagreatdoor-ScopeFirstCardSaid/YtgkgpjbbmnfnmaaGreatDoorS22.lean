/- Scope: the names of a tree, and its uses. -/
import Derived.Test.YtgkgpjbbmnfnmaaGreatDoorS21
namespace Go.Proofs.YtgkgpjbbmnfnmaaGreatDoor
open Go.RowKit
set_option linter.unusedSimpArgs false
set_option linter.unusedVariables false

mutual
/-- The names of a tree, in its order: their places and texts. -/
def nms : Tr → List (Int × ByteArray)
  | .mk k t _ _ _ l a => if k = 6 then [(a, t)] else nmsL l
def nmsL : List Tr → List (Int × ByteArray)
  | [] => []
  | x :: r => nms x ++ nmsL r
end
theorem nmsL_app (l m : List Tr) : nmsL (l ++ m) = nmsL l ++ nmsL m := by
  induction l with
  | nil => simp [nmsL]
  | cons x r ih => rw [List.cons_append, nmsL, nmsL, ih, List.append_assoc]
def ut (u : Us) : Int × ByteArray := (u.a, u.t)
def uts (s : St) : List (Int × ByteArray) := s.us.map ut
theorem uts_use (s : St) (a : Int) (t : ByteArray) (o n : Int) : uts (useS s a t o n) = uts s ++ [(a, t)] := by
  simp [uts, useS, ut]
theorem uts_learn (s : St) (x : Tr) (h : x.k = 6) : uts (learn1 s x) = uts s ++ nms x := by
  obtain ⟨k, t, vt, vn, n, l, a⟩ := x
  obtain rfl : k = 6 := h
  show uts (nameS s a t) = _
  unfold nameS
  rw [uts_use, nms, if_pos rfl]
  congr 1
  show List.map ut (errS s a).us = _
  rw [(errS_eq s a).2.1]
  rfl
theorem uts_lrn : ∀ (l : List Tr) (s : St), (∀ x ∈ l, x.k = 6) → uts (lrnS l s) = uts s ++ nmsL l
  | [], s, _ => by simp [lrnS, nmsL]
  | x :: r, s, h => by
    show uts (lrnS r (learn1 s x)) = _
    rw [uts_lrn r _ (fun y hy => h y (by simp [hy])), uts_learn s x (h x (by simp)), nmsL, List.append_assoc]
/-- What a walk adds. -/
def Adds (f : St → St) (N : List (Int × ByteArray)) : Prop := ∀ s, (uts (f s)).Perm (uts s ++ N)
theorem uts_all : ∀ (l : List Tr), (∀ x ∈ l, Adds (wk x) (nms x)) → Adds (allS (wkR l)) (nmsL l)
  | [], _, s => by simp [wkR, allS, nmsL]
  | x :: r, h, s => by
    have h1 := uts_all r (fun y hy => h y (by simp [hy])) (wk x s)
    have h2 := h x (by simp) s
    rw [wkR, nmsL]
    show (uts (allS (wkR r) (wk x s))).Perm _
    rw [← List.append_assoc]
    exact h1.trans (h2.append_right _)
theorem uts_blk {ns l : List Tr} (hn : ∀ x ∈ ns, x.k = 6) (hl : ∀ x ∈ l, Adds (wk x) (nms x)) : Adds (blkS ns (wkR l)) (nmsL ns ++ nmsL l) := fun s => by
  show (uts (allS (wkR l) (lrnS ns s))).Perm _
  have := uts_all l hl (lrnS ns s)
  rw [uts_lrn ns s hn, List.append_assoc] at this
  exact this
theorem nmsL_split (l : List Tr) (k : Nat) : nmsL l = nmsL (l.take k) ++ nmsL (l.drop k) := by rw [← nmsL_app, List.take_append_drop]
theorem perm3 {α : Type} (s a b : List α) : (s ++ b ++ a).Perm (s ++ (a ++ b)) := by
  rw [List.append_assoc]
  exact List.Perm.append_left _ List.perm_append_comm
theorem node_names (k : Int) (t : ByteArray) (vt vn n : Int) (l : List Tr) (a : Int) (hS : Shp (.mk k t vt vn n l a)) (hl : ∀ x ∈ l, Adds (wk x) (nms x)) : Adds (wk (.mk k t vt vn n l a)) (nms (.mk k t vt vn n l a)) := by
  intro s
  unfold Shp at hS
  obtain ⟨⟨q7, q21, q26, q29⟩, _, k7, k21, k26⟩ := hS
  have ht : ∀ j, ∀ x ∈ l.take j, Adds (wk x) (nms x) := fun j x hx => hl x (List.mem_of_mem_take hx)
  have hd : ∀ j, ∀ x ∈ l.drop j, Adds (wk x) (nms x) := fun j x hx => hl x (List.mem_of_mem_drop hx)
  rw [wk_mk, nms]
  unfold nodeS
  split
  · rw [uts_use]
  split
  · rename_i h6 h7
    rw [← wkR_drop, nmsL_split l (l.length - 1)]
    exact uts_blk (k7 h7) (hd _) (inS s)
  split
  · have := uts_blk (ns := []) (by simp) hl s
    simpa [nmsL] using this
  split
  · rename_i h6 h7 h20 h21
    rw [← wkR_drop, nmsL_split l n.toNat, uts_lrn _ _ (k21 h21)]
    exact ((uts_all _ (hd _) s).append_right _).trans (perm3 _ _ _)
  split
  · rename_i h6 h7 h20 h21 h26
    rw [← wkR_drop, ← wkR_take, ← wkR_drop]
    have e : nmsL l = nmsL (l.take 1) ++ nmsL ((l.take (l.length - 1)).drop 1) ++ nmsL (l.drop (l.length - 1)) := by
      rw [nmsL_split l (l.length - 1), nmsL_split (l.take (l.length - 1)) 1, List.take_take, Nat.min_eq_left (by have := q26 h26; omega)]
    rw [e]
    have h1 := uts_blk (k26 (.inl h26)) (hd (l.length - 1)) (allS (wkR ((l.take (l.length - 1)).drop 1)) s)
    have h2 := uts_all ((l.take (l.length - 1)).drop 1) (fun x hx => ht _ x (List.mem_of_mem_drop hx)) s
    refine h1.trans ((h2.append_right _).trans ?_)
    rw [List.append_assoc, List.append_assoc]
    refine List.Perm.append_left _ ?_
    rw [← List.append_assoc, ← List.append_assoc]
    exact List.Perm.append_right _ List.perm_append_comm
  split
  · rename_i h6 h7 h20 h21 h26 h29
    rw [← wkR_drop, nmsL_split l 1]
    have := uts_all _ (hd 1) (lrnS (l.take 1) s)
    rw [uts_lrn _ _ (k26 (.inr h29)), List.append_assoc] at this
    exact this
  · exact uts_all l hl s
mutual
theorem wk_names : ∀ x : Tr, Shp x → Adds (wk x) (nms x)
  | .mk k t vt vn n l a, h => node_names k t vt vn n l a h (wkL_names l (by unfold Shp at h; exact h.2.1))
theorem wkL_names : ∀ l : List Tr, ShpL l → ∀ x ∈ l, Adds (wk x) (nms x)
  | [], _, x, hx => by simp at hx
  | y :: r, h, x, hx => by
    unfold ShpL at h
    rcases List.mem_cons.1 hx with e | hx
    · rw [e]; exact wk_names y h.1
    · exact wkL_names r h.2 x hx
end
/-- The place of the first name too many is a name's, or 0. -/
def Plc (s : St) : Prop := s.at' = 0 ∨ s.at' ∈ (uts s).map Prod.fst
theorem plc_mono {s s' : St} (h : Plc s) (e : s'.at' = s.at') (hs : ∃ N, (uts s').Perm (uts s ++ N)) : Plc s' := by
  obtain ⟨N, hN⟩ := hs
  rcases h with h | h
  · exact .inl (e.trans h)
  · refine .inr ?_
    rw [e, List.mem_map]
    obtain ⟨p, hp, hq⟩ := List.mem_map.1 h
    exact ⟨p, hN.mem_iff.2 (List.mem_append_left _ hp), hq⟩
theorem plc_use {s : St} (h : Plc s) (a : Int) (t : ByteArray) (o n : Int) : Plc (useS s a t o n) := plc_mono h rfl ⟨_, by rw [uts_use]⟩
theorem plc_name {s : St} (h : Plc s) (a : Int) (t : ByteArray) : Plc (nameS s a t) := by
  unfold nameS
  unfold errS
  split
  · refine .inr ?_
    rw [uts_use]
    simp only [List.map_append, List.mem_append]
    exact .inr (by simp [useS])
  · exact plc_use (s := { s with made := s.made + 1, stk := s.stk ++ [⟨t, s.num, s.made⟩] }) h a t _ _
theorem plc_lrn : ∀ (l : List Tr) {s : St}, Plc s → Plc (lrnS l s)
  | [], s, h => h
  | .mk k t vt vn n l' a :: r, s, h => plc_lrn r (plc_name h a t)
theorem plc_all : ∀ {fs : List (St → St)}, (∀ f ∈ fs, ∀ s, Plc s → Plc (f s)) → ∀ {s : St}, Plc s → Plc (allS fs s)
  | [], _, s, h => h
  | f :: r, hf, s, h => plc_all (fs := r) (fun g hg => hf g (by simp [hg])) (hf f (by simp) s h)
theorem plc_node {fs : List (St → St)} (hf : ∀ f ∈ fs, ∀ s, Plc s → Plc (f s)) (k : Int) (t : ByteArray) (n : Nat) (l : List Tr) (a : Int) {s : St} (h : Plc s) : Plc (nodeS k t n l a fs s) := by
  have hd : ∀ j, ∀ f ∈ fs.drop j, ∀ s, Plc s → Plc (f s) := fun j f h => hf f (List.mem_of_mem_drop h)
  unfold nodeS
  split
  · exact plc_use h _ _ _ _
  split
  · exact plc_all (hd _) (plc_lrn _ (s := inS s) h)
  split
  · exact plc_all hf (plc_lrn [] h)
  split
  · exact plc_lrn _ (plc_all (hd _) h)
  split
  · exact plc_all (hd _) (plc_lrn _ (plc_all (fun f hf' => hf f (List.mem_of_mem_take (List.mem_of_mem_drop hf'))) h))
  split
  · exact plc_all (hd _) (plc_lrn _ h)
  · exact plc_all hf h
mutual
theorem wk_plc : ∀ (x : Tr) (s : St), Plc s → Plc (wk x s)
  | .mk k t vt vn n l a, s, h => by
    rw [wk_mk]
    exact plc_node (wkR_plc l) _ _ _ _ _ h
theorem wkR_plc : ∀ (l : List Tr) (f : St → St), f ∈ wkR l → ∀ s : St, Plc s → Plc (f s)
  | [], f, h, s => by simp [wkR] at h
  | x :: r, f, h, s => by
    rw [wkR, List.mem_cons] at h
    rcases h with h | h
    · rw [h]; exact wk_plc x s
    · exact wkR_plc r f h s
end
/-! The names of a source stand at tokens of rising numbers. -/
def NR (V : Env) (p q : Nat) (x : Tr) : Prop := p ≤ q ∧ ∃ I : List Nat, I.Pairwise (· < ·) ∧ (∀ i ∈ I, p ≤ i ∧ i < q ∧ i < V.L.length ∧ (V.tk i).k = 1) ∧ nms x = I.map (fun i => (V.at i, (V.tk i).t))
def NRL (V : Env) (p q : Nat) (l : List Tr) : Prop := p ≤ q ∧ ∃ I : List Nat, I.Pairwise (· < ·) ∧ (∀ i ∈ I, p ≤ i ∧ i < q ∧ i < V.L.length ∧ (V.tk i).k = 1) ∧ nmsL l = I.map (fun i => (V.at i, (V.tk i).t))
theorem NRL.nil {V : Env} {p q : Nat} (h : p ≤ q) : NRL V p q [] := ⟨h, [], .nil, by simp, rfl⟩
theorem NRL.app {V : Env} {p q r : Nat} {l m : List Tr} (h1 : NRL V p q l) (h2 : NRL V q r m) : NRL V p r (l ++ m) := by
  obtain ⟨a0, I, a1, a2, a3⟩ := h1
  obtain ⟨b0, J, b1, b2, b3⟩ := h2
  refine ⟨by omega, I ++ J, List.pairwise_append.2 ⟨a1, b1, fun x hx y hy => by have := a2 x hx; have := b2 y hy; omega⟩, fun i hi => ?_, by rw [nmsL_app, a3, b3, List.map_append]⟩
  rcases List.mem_append.1 hi with hi | hi
  · have := a2 i hi; exact ⟨by omega, by omega, this.2.2⟩
  · have := b2 i hi; exact ⟨by omega, by omega, this.2.2⟩
theorem NR.one {V : Env} {p q : Nat} {x : Tr} (h : NR V p q x) : NRL V p q [x] := by
  obtain ⟨a0, I, a1, a2, a3⟩ := h
  exact ⟨a0, I, a1, a2, by simp only [nmsL, List.append_nil]; exact a3⟩
theorem NR.wid {V : Env} {p p' q q' : Nat} {x : Tr} (h : NR V p q x) (h1 : p' ≤ p) (h2 : q ≤ q') : NR V p' q' x := by
  obtain ⟨a0, I, a1, a2, a3⟩ := h
  exact ⟨by omega, I, a1, fun i hi => by have := a2 i hi; exact ⟨by omega, by omega, this.2.2⟩, a3⟩
theorem NRL.wid {V : Env} {p p' q q' : Nat} {x : List Tr} (h : NRL V p q x) (h1 : p' ≤ p) (h2 : q ≤ q') : NRL V p' q' x := by
  obtain ⟨a0, I, a1, a2, a3⟩ := h
  exact ⟨by omega, I, a1, fun i hi => by have := a2 i hi; exact ⟨by omega, by omega, this.2.2⟩, a3⟩
theorem NRL.cons {V : Env} {p q r : Nat} {x : Tr} {l : List Tr} (h1 : NR V p q x) (h2 : NRL V q r l) : NRL V p r (x :: l) := NRL.app h1.one h2
theorem NRL.node {V : Env} {p q : Nat} {l : List Tr} (h : NRL V p q l) {k : Int} (hk : k ≠ 6) (t : ByteArray) (vt vn n a : Int) : NR V p q (.mk k t vt vn n l a) := by
  obtain ⟨a0, I, a1, a2, a3⟩ := h
  exact ⟨a0, I, a1, a2, by rw [nms, if_neg hk]; exact a3⟩
theorem NRL.nd' {V : Env} {p q : Nat} {l : List Tr} (h : NRL V p q l) {k : Int} (hk : k ≠ 6) (a : Int) : NR V p q (nd k l a) := h.node hk _ _ _ _ _
theorem nr_rl {V : Env} {p q : Nat} {l : List Tr} (h : RL (NR V) p q l) : NRL V p q l := by
  induction h with
  | nil p q h => exact .nil h
  | one p q r x h h3 => exact (h.wid (Nat.le_refl _) h3).one
  | more p q r s x y l h h3 h4 ih => exact .cons (h.wid (Nat.le_refl _) (Nat.le_of_lt h3)) ih
theorem nr_rs {V : Env} {p q : Nat} {l : List Tr} (h : RS (NR V) p q l) : NRL V p q l := by
  induction h with
  | nil p q h => exact .nil h
  | more p q r s x l h h3 h4 ih => exact .cons (h.wid (Nat.le_refl _) h3) ih
theorem nr_rc {V : Env} {p q : Nat} {l : List (Tr × Tr)} (h : RC (NR V) (NR V) p q l) : NRL V p q (l.flatMap (fun x => [x.1, x.2])) := by
  induction h with
  | one p q s x b h1 h2 => exact NRL.cons (h1.wid (by omega) (Nat.le_refl _)) (NRL.cons (h2.wid (by omega) (Nat.le_refl _)) (.nil (Nat.le_refl _)))
  | more p q s e x b l h1 h2 h3 ih =>
    rw [List.flatMap_cons]
    exact NRL.cons (h1.wid (by omega) (Nat.le_refl _)) (NRL.cons (h2.wid (by omega) (Nat.le_refl _)) ih)
theorem cloN (V : Env) : CloR V (NR V) (NR V) (NR V) (NR V) (NR V) where
  wid p p' q q' x h h1 h2 := h.wid h1 h2
  widS p p' q q' x h h1 h2 := h.wid h1 h2
  name p h1 h2 := ⟨by omega, [p], by simp, fun i hi => by rw [List.mem_singleton.1 hi]; exact ⟨by omega, by omega, h1, h2⟩, by rw [nms, if_pos rfl]; rfl⟩
  ofN p q x h := h
  key p h1 h2 := (NRL.nil (by omega)).node (by decide) _ _ _ _ _
  num p h1 h2 := (NRL.nil (by omega)).node (by decide) _ _ _ _ _
  text p h1 h2 := (NRL.nil (by omega)).node (by decide) _ _ _ _ _
  word p k a h := (NRL.nil (by omega)).nd' (by omega) _
  func p q s l b a h1 h2 := ((nr_rl h1).wid (by omega) (Nat.le_succ _) |>.app (h2.wid (Nat.le_refl _) (by have := h2.1; omega)).one).nd' (by decide) _
  un p q t x a h1 h2 := (h2.wid (by omega) (Nat.le_refl _)).one.node (by decide) _ _ _ _ _
  bin p q r t x y a h1 h2 h3 := (NRL.cons h2 (h3.wid (by omega) (Nat.le_refl _)).one).node (by decide) _ _ _ _ _
  dot p q x y a h1 h2 := (NRL.cons h1 (h2.wid (by omega) (Nat.le_refl _)).one).nd' (by decide) _
  index p q r x y a h1 h2 := (NRL.cons h1 (h2.wid (by omega) (by omega)).one).nd' (by decide) _
  call p q r x l a h1 h2 := (NRL.cons h1 ((nr_rl h2).wid (by omega) (by omega))).nd' (by decide) _
  table p q l a h := ((nr_rl h).wid (by omega) (by omega)).nd' (by decide) _
  item p q x a h := h.one.nd' (by decide) _
  keyed p q x y a h1 h2 := (NRL.cons h1 (h2.wid (by omega) (Nat.le_refl _)).one).nd' (by decide) _
  pair p q r x y a h1 h2 := (NRL.cons (h1.wid (by omega) (Nat.le_refl _)) (h2.wid (by omega) (Nat.le_refl _)).one).nd' (by decide) _
  block p q l a h _ := (nr_rs h).nd' (by decide) _
  ret p q l a h := ((nr_rl h).wid (by omega) (Nat.le_refl _)).nd' (by decide) _
  locals p q r l m a hl h1 h2 := by
    refine NRL.node ?_ (by decide) _ _ _ _ _
    rcases h2 with ⟨rfl, rfl⟩ | h2
    · rw [List.append_nil]
      exact (nr_rl h1).wid (by omega) (Nat.le_refl _)
    · exact ((nr_rl h1).wid (by omega) (Nat.le_refl _)).app ((nr_rl h2).wid (by omega) (Nat.le_refl _))
  localf p q s l b n a c h1 h2 h3 := (NRL.cons (h1.wid (by omega) (Nat.le_refl _)) ((((nr_rl h2).wid (show p + 3 ≤ p + 4 by omega) (Nat.le_succ _)).app (h3.wid (Nat.le_refl _) (by have := h3.1; omega)).one).nd' (by decide) _).one).nd' (by decide) _
  func2 p q s l b n a c h1 h2 h3 := (NRL.cons (h1.wid (by omega) (Nat.le_refl _)) ((((nr_rl h2).wid (show p + 2 ≤ p + 3 by omega) (Nat.le_succ _)).app (h3.wid (Nat.le_refl _) (by have := h3.1; omega)).one).nd' (by decide) _).one).node (by decide) _ _ _ _ _
  assign p q r n l m a h1 h2 hm h3 := by
    rw [← List.cons_append]
    exact ((nr_rl h1).app ((nr_rl h3).wid (by omega) (Nat.le_refl _))).node (by decide) _ _ _ _ _
  callS p q x a h _ := h.one.nd' (by decide) _
  choice p q r l m a h1 h2 := by
    refine NRL.nd' ?_ (by decide) _
    rcases h2 with ⟨rfl, rfl⟩ | ⟨b, hb, rfl⟩
    · rw [List.append_nil]
      exact (nr_rc h1).wid (Nat.le_refl _) (by omega)
    · exact (nr_rc h1).app (hb.wid (by omega) (by omega)).one
  loop p q s x b a h1 h2 := (NRL.cons (h1.wid (by omega) (Nat.le_refl _)) (h2.wid (by omega) (by omega)).one).nd' (by decide) _
  count p q r s e n x y l b a h1 h2 h3 h4 h5 := by
    refine NRL.nd' (NRL.cons (h1.wid (by omega) (Nat.le_refl _)) (NRL.cons (h2.wid (by omega) (Nat.le_refl _)) (NRL.cons (h3.wid (by omega) (Nat.le_refl _)) ?_))) (by decide) _
    have hb : NRL V s (e + 1) [b] := (h5.wid (by omega) (by omega)).one
    rcases h4 with ⟨rfl, rfl⟩ | ⟨z, hz, rfl⟩
    · exact hb
    · exact NRL.app (hz.wid (by omega) (Nat.le_refl _)).one hb
  brk p a := (NRL.nil (by omega)).nd' (by decide) _
  group p q b a h := (h.wid (by omega) (by omega)).one.nd' (by decide) _
end Go.Proofs.YtgkgpjbbmnfnmaaGreatDoor
