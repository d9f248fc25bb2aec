/- needPair. -/
import Derived.Test.YtnofmpbdfcolfaaA5
import Derived.Maps.AppendAt
namespace Go.Proofs.Ytnofmpbdfcolfaa
open Go.RowKit
set_option linter.unusedSimpArgs false
set_option linter.unusedVariables false

/-- A value is appended, in a region that draws its order. -/
theorem app_valO {o : Oper} {a : Act} {K : Act → World → Prop} {Q : Exit → Act → World → Prop} {w : World} (s x : Operand)
    (ho : o.op = .call { callee := .builtin .append, args := #[s, x], argTypes := #[23, 23] }) {base : Nat} {v : Value} {L : List V} (hs : a.eval s = v) (hrow : VRow w base v L)
    (N : Nat) (e : V) (hx : a.eval x = .slice (some ⟨N, 0, none⟩) 1 1) (hN : w.heap[N]? = some (.cells #[.int .i64 e.1, .int .i64 e.2] 40 (0, 0))) (hlen : L.length + 1 ≤ 1000000) (hbase : base ≤ w.heap.size)
    (h : ∀ v' w', VRow w' base v' (L ++ [e]) → w.grownBy w' v.ownBlock → (v'.ownBlock = v.ownBlock ∨ v'.ownBlock = some w.heap.size) → K (a.put o.dst v') w') : o.wp Try.prog a w K Q := by
  obtain ⟨i0, hi, hz0, hz1, hz2⟩ := info_parts info40
  obtain ⟨v', w', hr, h2, h3, h4, h5⟩ := run_append_own_at (P := Try.prog) w base 23 o.type 40 i0 (.agg #[.int .i64 0, .int .i64 0]) 2 16 Try.underlying23 hi hz0 hz1 hz2 rfl (by decide) v L.length (ic (flatV L)) hrow ⟨N, 0, none⟩ 1 1 (ic (flatV [e])) rfl
    (by
      intro j u hu
      have hc := cell_of hN
      rcases j with _ | _ | j
      · simp [ic, flatV] at hu; subst hu; simpa [Addr.add] using hc 0
      · simp [ic, flatV] at hu; subst hu; simpa [Addr.add] using hc 1
      · simp [ic, flatV] at hu) (ic_one _) (by unfold maxLen; omega) (by omega) hbase
  unfold Oper.wp execOp
  simp only [ho, resolve, invoke, builtin, Sem.run_bind, Sem.run_pure, Result.andThen_ok, List.map_toArray, List.map_cons, List.map_nil, hs, hx, hr]
  refine h v' w' ?_ h3 h5
  show World.ownsRow _ _ _ _ _ _ _
  rw [List.length_append, flatV_append, ic_append]; exact h2

theorem held_in {T : List Th} {t n : Int} (h : held T (t, n) = true) : ∃ m : Nat, n = (m : Int) + 1 ∧ m < T.length := by
  simp only [held, obj, Bool.and_eq_true, decide_eq_true_eq] at h
  exact ⟨(n - 1).toNat, by omega, by omega⟩

/-- What needPair's second region reads. -/
structure PairS (c wb b1 b2 n : Nat) (k v : V) (W : World) : Prop where
  c2 : W.cell? ⟨c, 2, none⟩ = some (SLN wb n)
  k0 : W.cell? ⟨b1, 0, none⟩ = some (.int .i64 k.1)
  k1 : W.cell? ⟨b1, 1, none⟩ = some (.int .i64 k.2)
  v0 : W.cell? ⟨b2, 0, none⟩ = some (.int .i64 v.1)
  v1 : W.cell? ⟨b2, 1, none⟩ = some (.int .i64 v.2)

theorem PairS.turn {c wb b1 b2 n : Nat} {k v : V} {W W' : World} (h : PairS c wb b1 b2 n k v W) (e : ∀ x, x = c ∨ x = b1 ∨ x = b2 → W'.heap[x]? = W.heap[x]?) : PairS c wb b1 b2 n k v W' := by
  have ec : ∀ x o, x = c ∨ x = b1 ∨ x = b2 → W'.cell? ⟨x, o, none⟩ = W.cell? ⟨x, o, none⟩ := fun x o hx => World.cell?_of_block (e x hx)
  exact ⟨by rw [ec _ _ (by simp)]; exact h.c2, by rw [ec _ _ (by simp)]; exact h.k0, by rw [ec _ _ (by simp)]; exact h.k1, by rw [ec _ _ (by simp)]; exact h.v0, by rw [ec _ _ (by simp)]; exact h.v1⟩

theorem getD_set {α : Type} (l : List α) (i j : Nat) (x d : α) (hi : i < l.length) : (l.set i x).getD j d = if i = j then x else l.getD j d := by
  simp only [List.getD, List.getElem?_set]
  by_cases h : i = j
  · subst h; simp [hi]
  · simp [h]

/-- A row that waits has grown. -/
theorem Wk.grow {E : Ev} (hE : E.Ok) {c nb wb kb : Nat} {w w6 : World} {s : St} (h : Wk E c nb wb kb w s) {m : Nat} (hm : m < E.T.length) {vs : List Value} (hv : Wts w E.B wb E.T.length s.wt vs) {x : V} {o : Obj} {v' : Value}
    (hr : VRow w6 E.B v' (s.wt.getD m [] ++ [x])) (hg : (w.alloc o).grownBy w6 (vs.getD m undef).ownBlock) (ho : v'.ownBlock = (vs.getD m undef).ownBlock ∨ v'.ownBlock = some (w.alloc o).heap.size) :
    Wk E c nb wb kb (w6.setCell ⟨wb, m, none⟩ v') { s with wt := s.wt.set m (s.wt.getD m [] ++ [x]) } ∧ Tn [23, 40] E.B w (w6.setCell ⟨wb, m, none⟩ v') := by
  have t1 : Tn [40] E.B w w6 := Kept.grown ((Kept.refl _ _).alloc o) hg (fun k hk => by
    obtain ⟨hb, c, hc⟩ := (hv.row m hm).block hk
    exact .inl ⟨hb, c, 40, _, hc, by simp⟩)
  have hp6 := t1.cells hv.hp (by simp)
  have t2 : Tn [23] E.B w6 (w6.setCell ⟨wb, m, none⟩ v') := Kept.set (Kept.refl _ _) wb m _ (.inl ⟨h.bw, _, 23, _, hp6, by simp⟩)
  have t3 : Tn [23, 40] E.B w (w6.setCell ⟨wb, m, none⟩ v') := (t1.mono (by simp)).trans (t2.mono (by simp))
  have hml : m < vs.length := by rw [hv.vl]; exact hm
  have hmw : m < s.wt.length := by rw [hv.wl]; exact hm
  refine ⟨⟨t3.below h.bl hE.le, t3.cells h.cc (by simp), t3.cells h.nn (by simp), h.nl, ⟨vs.set m v', ?_⟩, h.st.tn t3 (by simp) (by simp), h.bc, h.bn, h.bw, h.fit, h.inr⟩, t3⟩
  refine ⟨?_, by rw [List.length_set]; exact hv.vl, by rw [List.length_set]; exact hv.wl, ?_, ?_⟩
  · have := hp_set_same hp6 m v'
    rwa [List.setIfInBounds_toArray] at this
  · intro i hi
    rw [getD_set _ _ _ _ _ hml, getD_set _ _ _ _ _ hmw]
    by_cases e : m = i
    · rw [if_pos e, if_pos e]; exact hr.tn t2 (by simp)
    · rw [if_neg e, if_neg e]
      refine VRow.tn ?_ t2 (by simp)
      refine (hv.row i hi).turn (fun k hk => ?_)
      obtain ⟨_, cc, hc⟩ := (hv.row i hi).block hk
      have hlt := hp_lt hc
      rw [hg.block k (by rw [World.size_alloc]; omega) (fun e2 => hv.ap i m hi hm (fun q => e q.symm) k hk e2.symm)]
      exact Below.heap_alloc w o k hlt
  · intro i j hi hj hij k hk
    rw [getD_set _ _ _ _ _ hml] at hk ⊢
    have fresh : ∀ i, i < E.T.length → (vs.getD i undef).ownBlock ≠ some (w.alloc o).heap.size := fun i hi e => by
      obtain ⟨_, cc, hc⟩ := (hv.row i hi).block e
      have := hp_lt hc
      rw [World.size_alloc] at this; omega
    by_cases e1 : m = i
    · rw [if_pos e1] at hk
      have e2 : ¬ m = j := fun e2 => hij (e1.symm.trans e2)
      rw [if_neg e2]
      rcases ho with ho | ho
      · rw [ho] at hk; exact hv.ap m j hm hj e2 k hk
      · rw [ho] at hk; injection hk with hk; subst hk; exact fresh j hj
    · rw [if_neg e1] at hk
      by_cases e2 : m = j
      · rw [if_pos e2]
        rcases ho with ho | ho
        · rw [ho]; exact hv.ap i m hi hm (fun q => e1 q.symm) k hk
        · rw [ho]; intro e3; injection e3 with e3; subst e3; exact fresh i hi hk
      · rw [if_neg e2]; exact hv.ap i j hi hj hij k hk

end Go.Proofs.Ytnofmpbdfcolfaa
