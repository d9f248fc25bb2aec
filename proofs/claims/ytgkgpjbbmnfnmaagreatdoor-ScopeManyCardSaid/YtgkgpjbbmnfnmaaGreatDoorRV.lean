/- A node is put behind the list of a box, in a region that draws its order: from the beginning to the call, and behind it. -/
import Derived.Test.YtgkgpjbbmnfnmaaGreatDoorGH
import Derived.Test.YtgkgpjbbmnfnmaaGreatDoorRU
namespace Go.Proofs.YtgkgpjbbmnfnmaaGreatDoor
open Go.RowKit
set_option linter.unusedSimpArgs false
set_option linter.unusedVariables false

theorem ev_eq {a : Act} {d : Tmp} {v : Value} (h : d < a.tmps.size) : (a.put (some d) v).eval (.tmp d) = v := by
  simp [Act.eval, Act.put, h]
theorem ev_ne {a : Act} {d e : Tmp} {v : Value} (h : d ≠ e) : (a.put (some d) v).eval (.tmp e) = a.eval (.tmp e) := by
  simp [Act.eval, Act.put, Array.getElem?_setIfInBounds_ne h]
theorem sz_put {a : Act} {d : Tmp} {v : Value} : (a.put (some d) v).tmps.size = a.tmps.size := by simp [Act.put]
/-- An operation of a region. -/
def IsOp (ops : Array Oper) (i : Nat) (d : Option Tmp) (p : Op) (t : TypeId) : Prop := ∃ o, ops[i]? = some o ∧ o.dst = d ∧ o.op = p ∧ o.guard = none ∧ o.type = t
theorem rdO {P : Program} {ops : Array Oper} {Q : Exit → Act → World → Prop} {md : Region.Mode} {S : World → Prop} {n fuel : Nat} {listed : Array Bool} {a : Act} {w : World} {i : Nat} {d : Option Tmp} {p : Op} {t : TypeId} (ho : IsOp ops i d p t)
    (h : ∀ (o : Oper) (K' : Act → World → Prop), o.dst = d → o.op = p → o.type = t → (∀ a w, (i ≠ n → S w) → wpAnyU P md ops Q S n fuel (listed.setIfInBounds i true) a w → K' a w) → Oper.wp P o a w K' Q)
    (hr : Region.ready md ops listed = [i]) : wpAnyU P md ops Q S n (fuel + 1) listed a w := by
  obtain ⟨o, h1, h2, h3, h4, h5⟩ := ho
  refine rdU i h1 (fun K hK => ?_) hr
  have : Region.wanted o (yielded ops a.tmps) = true := by unfold Region.wanted; rw [h4]
  rw [if_pos this]
  exact h o K h2 h3 h5 hK
set_option maxHeartbeats 2000000 in
theorem bslice_run {o : Oper} {a : Act} {w : World} {dc : Tmp} {cs : List Value} (hp : o.op = .buildSlice 41 1 #[(0, .tmp dc)]) (e : a.eval (.tmp dc) = .agg cs.toArray) (hl : cs.length = 7) :
    (execOp a.eval o).run Tryz.prog w = .ok (.value (.slice (some ⟨w.heap.size, 0, none⟩) 1 1)) (w.alloc (nb cs)) := by
  rcases cs with _ | ⟨c0, _ | ⟨c1, _ | ⟨c2, _ | ⟨c3, _ | ⟨c4, _ | ⟨c5, _ | ⟨c6, _ | ⟨c7, r⟩⟩⟩⟩⟩⟩⟩⟩ <;> simp only [List.length_cons, List.length_nil] at hl <;> try omega
  unfold execOp nb
  rw [hp]
  simp only [List.map_toArray, List.map_cons, List.map_nil, e]
  go_simp
theorem faddr_run {o : Oper} {a : Act} {w : World} {T : Nat} {tb : Tmp} (hp : o.op = .fieldAddr 43 (.tmp tb) 4) (e : a.eval (.tmp tb) = .pointer (some ⟨T, 0, none⟩)) :
    (execOp a.eval o).run Tryz.prog w = .ok (.value (.pointer (some ⟨T, 5, none⟩))) w := by
  unfold execOp
  rw [hp]
  simp only [e]
  go_simp
theorem load_run {o : Oper} {a : Act} {w : World} {b k : Nat} {v : Value} {x : Tmp} (hp : o.op = .load 41 (.tmp x)) (e : a.eval (.tmp x) = .pointer (some ⟨b, k, none⟩)) (h : w.cell? ⟨b, k, none⟩ = some v) :
    (execOp a.eval o).run Tryz.prog w = .ok (.value v) w := by
  unfold execOp
  rw [hp]
  simp only [e]
  go_simp
theorem store_run {o : Oper} {a : Act} {w : World} {b k : Nat} {u : Value} {ao : Option Addr} {ln cp : Nat} {x y : Tmp} (hp : o.op = .store 41 (.tmp x) (.tmp y)) (e : a.eval (.tmp x) = .pointer (some ⟨b, k, none⟩)) (e2 : a.eval (.tmp y) = .slice ao ln cp) (h : w.cell? ⟨b, k, none⟩ = some u) (hf : w.frozen? ⟨b, k, none⟩ = false) :
    (execOp a.eval o).run Tryz.prog w = .ok .skip (w.setCell ⟨b, k, none⟩ (.slice ao ln cp)) := by
  unfold execOp
  rw [hp]
  simp only [e, e2]
  go_simp
theorem tkO {P : Program} {ops : Array Oper} {Q : Exit → Act → World → Prop} {md : Region.Mode} {S : World → Prop} {n fuel : Nat} {listed : Array Bool} {a : Act} {w : World} {i : Nat} {d : Tmp} {p : Op} {t : TypeId} (ho : IsOp ops i (some d) p t) (v : Value)
    (hS : S w) (hy : ∀ o : Oper, o.op = p → ∀ w', S w' → (execOp a.eval o).run P w' = .ok (.value v) w') (hD : lateB md ops listed i (lateD md ops i) = true) (hn : (lateD md ops i).contains n = true) (hs : Region.noSelect ops = true) (hf : Region.free md ops listed i = true) (hr : (Region.ready md ops listed).contains i = true)
    (hQ : ∀ c a w, Q (.panic c) (a.put (some d) v) w → Q (.panic c) a w) (h : wpAnyU P md ops Q S n fuel (listed.setIfInBounds i true) (a.put (some d) v) w) : wpAnyU P md ops Q S n (fuel + 1) listed a w := by
  obtain ⟨o, h1, h2, h3, h4, h5⟩ := ho
  refine tkU i v h1 hS (by rw [h2]; exact h) hD hn hs hf hr (by rw [h2]; exact hQ) ?_ (hy o h3)
  unfold Region.wanted; rw [h4]
/-- Behind the call: the slice, the append, the store. -/
theorem appT {ops : Array Oper} {Q : Exit → Act → World → Prop} {fuel : Nat} {listed : Array Bool} {a : Act} {w W5 : World} {K ap : Int} {c T : Nat} {V : Env} {q1 : Nat} {sv : Value} {D : List Tr} {y : Tr} {cs : List Value} (i : Nat) {dc dl db da df tb : Tmp} {t1 t2 t3 t4 : TypeId}
    (HF : FTs K ap c T V w W5 q1 sv D ∧ NodeIs (Out (T + 1) sv) W5 y cs) (hD : D.length ≤ 10000) (hc : c < T) (hw : w.heap.size < T)
    (h : ∀ ao ln cp W7, FTs K ap c T V w W7 q1 (.slice ao ln cp) (D ++ [y]) → Q .normal (((a.put (some db) (.slice (some ⟨W5.heap.size, 0, none⟩) 1 1)).put (some da) (.slice ao ln cp)).put (some df) (.pointer (some ⟨T, 5, none⟩))) W7)
    (o4 : IsOp ops i (some db) (.buildSlice 41 1 #[(0, .tmp dc)]) t1 := by exact ⟨_, rfl, rfl, rfl, rfl, rfl⟩)
    (o5 : IsOp ops (i + 1) (some da) (.call { callee := .builtin .append, args := #[.tmp dl, .tmp db], argTypes := #[41, 41] }) t2 := by exact ⟨_, rfl, rfl, rfl, rfl, rfl⟩)
    (o6 : IsOp ops (i + 2) (some df) (.fieldAddr 43 (.tmp tb) 4) t3 := by exact ⟨_, rfl, rfl, rfl, rfl, rfl⟩)
    (o7 : IsOp ops (i + 3) none (.store 41 (.tmp df) (.tmp da)) t4 := by exact ⟨_, rfl, rfl, rfl, rfl, rfl⟩)
    (e1 : a.eval (.tmp dc) = .agg cs.toArray := by rfl) (e2 : a.eval (.tmp dl) = sv := by rfl) (e3 : a.eval (.tmp tb) = .pointer (some ⟨T, 0, none⟩) := by rfl)
    (z0 : (Nat.blt db a.tmps.size && (Nat.blt da a.tmps.size && Nat.blt df a.tmps.size)) = true := by rfl) (ne : dl ≠ db ∧ db ≠ da ∧ da ≠ df ∧ tb ≠ db ∧ tb ≠ da := by decide)
    (r1 : Region.ready .any ops listed = [i] := by kernel_rfl) (r2 : Region.ready .any ops (listed.setIfInBounds i true) = [i + 1] := by kernel_rfl)
    (hL : lateB .any ops ((listed.setIfInBounds i true).setIfInBounds (i + 1) true) (i + 2) (lateD .any ops (i + 2)) = true := by kernel_rfl) (hn : (lateD .any ops (i + 2)).contains (i + 3) = true := by kernel_rfl) (hs : Region.noSelect ops = true := by kernel_rfl) (hf : Region.free .any ops ((listed.setIfInBounds i true).setIfInBounds (i + 1) true) (i + 2) = true := by kernel_rfl)
    (hr : (Region.ready .any ops ((listed.setIfInBounds i true).setIfInBounds (i + 1) true)).contains (i + 2) = true := by kernel_rfl) (hQ : ∀ c a w v, Q (.panic c) (a.put (some df) v) w → Q (.panic c) a w := by exact fun _ _ _ _ h => h)
    (r3 : Region.ready .any ops (((listed.setIfInBounds i true).setIfInBounds (i + 1) true).setIfInBounds (i + 2) true) = [i + 3] := by kernel_rfl) (r4 : Region.ready .any ops ((((listed.setIfInBounds i true).setIfInBounds (i + 1) true).setIfInBounds (i + 2) true).setIfInBounds (i + 3) true) = [] := by kernel_rfl) :
    wpAnyU Tryz.prog .any ops Q (fun X => X.cell? ⟨T, 5, none⟩ = some sv) (i + 3) (fuel + 4) listed a W5 := by
  have z : db < a.tmps.size ∧ da < a.tmps.size ∧ df < a.tmps.size := by simpa [Nat.blt_eq] using z0
  have hcs := HF.2.len
  have hone : ∀ u ∈ cs, u.oneCell' = true := by
    obtain ⟨yk, yt, yvt, yvn, yn, yl, ya⟩ := y
    obtain ⟨sv2, rfl, hl⟩ := NodeIs.cs.1 HF.2
    exact ncs_one hl yk yt yvt yvn yn ya
  refine rdO o4 (fun o K' h1 h2 h3 hK => ?_) r1
  unfold Oper.wp
  rw [bslice_run h2 e1 hcs]
  have HF6 := ft_al (cs' := cs) HF (show c < T + 1 by omega)
  refine hK _ _ (fun _ => (nb_cells HF6.1.2.2.2.2.1).2.2.2.2.2.1) ?_
  rw [h1]
  refine rdO o5 (fun o K' h1 h2 h3 hK => ?_) r2
  refine app_node _ _ h2 ((ev_ne ne.1.symm).trans e2) HF6.1.2.2.2.2.2 HF6.2 hone W5.heap.size (ev_eq z.1) (World.alloc_heap_new W5 _) hD HF6.1.1 (fun v' W6 hB6 hg6 hv6 => ?_)
  obtain ⟨ao3, ln3, cp3, rfl⟩ := hv6
  have HF6b := ft_gr HF6.1 hg6 hB6 (by omega) (by omega)
  have hcell := (nb_cells HF6b.2.2.2.2.1).2.2.2.2.2.1
  refine hK _ _ (fun _ => hcell) ?_
  rw [h1]
  have e3' : ((a.put (some db) (.slice (some ⟨W5.heap.size, 0, none⟩) 1 1)).put (some da) (.slice ao3 ln3 cp3)).eval (.tmp tb) = .pointer (some ⟨T, 0, none⟩) := by
    rw [ev_ne ne.2.2.2.2.symm, ev_ne ne.2.2.2.1.symm, e3]
  refine tkO o6 (.pointer (some ⟨T, 5, none⟩)) hcell (fun o ho w' _ => faddr_run ho e3') hL hn hs hf hr (fun c a w h => hQ c a w _ h) ?_
  refine rdO o7 (fun o K' h1 h2 h3 hK => ?_) r3
  unfold Oper.wp
  rw [store_run (u := sv) (ao := ao3) (ln := ln3) (cp := cp3) h2 (ev_eq (by rw [sz_put, sz_put]; exact z.2.2)) (by rw [ev_ne ne.2.2.1.symm]; exact ev_eq (by rw [sz_put]; exact z.2.1)) hcell (nb_frozen HF6b.2.2.2.2.1 5)]
  refine hK _ _ (fun e => absurd rfl e) ?_
  rw [h1]
  exact dnU (h _ _ _ _ (ft_set HF6b hc hw)) r4 _
/-- The beginning: the box's address, its list. -/
theorem appS {id : Nat} {ops : Array Oper} {Q : Exit → Act → World → Prop} {fuel n : Nat} {a : Act} {w W : World} {K ap : Int} {c T : Nat} {V : Env} {q : Nat} {sv : Value} {D : List Tr} {d0 dl tb : Tmp} {t1 t2 : TypeId} (h0 : FTs K ap c T V w W.drew q sv D)
    (h : ∀ X, FTs K ap c T V w X q sv D → X.cell? ⟨T, 5, none⟩ = some sv → wpAnyU Tryz.prog .any ops Q (fun X => X.cell? ⟨T, 5, none⟩ = some sv) n fuel (((Array.replicate ops.size false).setIfInBounds 0 true).setIfInBounds 1 true) ((a.put (some d0) (.pointer (some ⟨T, 5, none⟩))).put (some dl) sv) X)
    (o0 : IsOp ops 0 (some d0) (.fieldAddr 43 (.tmp tb) 4) t1 := by exact ⟨_, rfl, rfl, rfl, rfl, rfl⟩) (o1 : IsOp ops 1 (some dl) (.load 41 (.tmp d0)) t2 := by exact ⟨_, rfl, rfl, rfl, rfl, rfl⟩)
    (hz : ops.size = fuel + 2 := by rfl) (e3 : a.eval (.tmp tb) = .pointer (some ⟨T, 0, none⟩) := by rfl) (z0 : Nat.blt d0 a.tmps.size = true := by rfl)
    (hL0 : lateB .any ops (Array.replicate ops.size false) 0 (lateD .any ops 0) = true := by kernel_rfl) (hL1 : lateB .any ops ((Array.replicate ops.size false).setIfInBounds 0 true) 1 (lateD .any ops 1) = true := by kernel_rfl) (hn0 : (lateD .any ops 0).contains n = true := by kernel_rfl) (hn1 : (lateD .any ops 1).contains n = true := by kernel_rfl) (hs : Region.noSelect ops = true := by kernel_rfl)
    (hf0 : Region.free .any ops (Array.replicate ops.size false) 0 = true := by kernel_rfl) (hf1 : Region.free .any ops ((Array.replicate ops.size false).setIfInBounds 0 true) 1 = true := by kernel_rfl)
    (hr0 : (Region.ready .any ops (Array.replicate ops.size false)).contains 0 = true := by kernel_rfl) (hr1 : (Region.ready .any ops ((Array.replicate ops.size false).setIfInBounds 0 true)).contains 1 = true := by kernel_rfl)
    (hQ : ∀ c a w (d : Tmp) v, Q (.panic c) (a.put (some d) v) w → Q (.panic c) a w := by exact fun _ _ _ _ _ h => h) :
    (Code.region id ops true).wp Tryz.prog Q a W := by
  have hS := (nb_cells h0.2.2.2.2.1).2.2.2.2.2.1
  refine regionU (fun X => X.cell? ⟨T, 5, none⟩ = some sv) n hS (fun _ => ?_)
  have e := h _ h0 hS
  revert e
  generalize Array.replicate ops.size false = R at *
  rw [hz]
  intro e
  refine tkO o0 (.pointer (some ⟨T, 5, none⟩)) hS (fun o ho w' _ => faddr_run ho e3) hL0 hn0 hs hf0 hr0 (fun c a w h => hQ c a w _ _ h) ?_
  exact tkO o1 sv hS (fun o ho w' hw => load_run ho (ev_eq (by simpa [Nat.blt_eq] using z0)) hw) hL1 hn1 hs hf1 hr1 (fun c a w h => hQ c a w _ _ h) e
end Go.Proofs.YtgkgpjbbmnfnmaaGreatDoor
