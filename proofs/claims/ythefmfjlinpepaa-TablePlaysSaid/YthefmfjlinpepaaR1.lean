/- renew: what it goes on with. -/
import Derived.Test.YthefmfjlinpepaaA2
import Derived.Test.YthefmfjlinpepaaN1
import Derived.Test.YthefmfjlinpepaaP3
namespace Go.Proofs.Ythefmfjlinpepaa
open Go.RowKit Go.Shelf
set_option linter.unusedSimpArgs false
set_option linter.unusedVariables false
attribute [local go_sem] Oper.semAt_some

/-- All these keys are given their values. -/
def putAll (a n : Nat) (sl : Sl) (L : List Ent) : Sl := L.foldl (fun s e => (putR a n s e.1 e.2).2) sl
theorem putAll_snoc (a n : Nat) (sl : Sl) (L : List Ent) (e : Ent) : putAll a n sl (L ++ [e]) = (putR a n (putAll a n sl L) e.1 e.2).2 := by
  unfold putAll; rw [List.foldl_append]; rfl

/-- An entry as a block. -/
abbrev entO (e : Ent) : Obj := .cells #[.int .i64 e.1.1, .int .i64 e.1.2, .int .i64 e.2.1, .int .i64 e.2.2] 116 (0, 0)

/-- An entry is appended to a row of entries, which stays as it was. -/
theorem app_ent {F : Fence} {m : Nat} {ops : Array Oper} {rest : List Oper} {o : Oper} {a : Act} {Q : Exit → Act → World → Prop} {w : World} (hgd : o.guard = none) (s x : Operand)
    (ho : o.op = .call { callee := .builtin .append, args := #[s, x], argTypes := #[114, 114] }) (base : Nat) (v : Value) (L : List Ent) (hs : a.eval s = v) (hrow : ERow w base v L)
    (N : Nat) (e : Ent) (hx : a.eval x = .slice (some ⟨N, 0, none⟩) 1 1) (hN : w.heap[N]? = some (entO e)) (hlen : L.length + 1 ≤ 1000000) (hbase : base ≤ w.heap.size)
    (h : ∀ v' w', Hid (ERow w' base v' (L ++ [e])) → Hid (ERow w' base v L) → Hid (w.grownBy w' v.ownBlock) → wpListIn F m Try.prog ops Q rest (a.put o.dst v') w') : wpListIn F m Try.prog ops Q (o :: rest) a w := by
  obtain ⟨i0, hi, hz0, hz1, hz2⟩ := info_parts info116
  obtain ⟨v', w', hrun, r1, r2, r3⟩ := run_append_keeps (P := Try.prog) w base 114 o.type 116 i0 _ 4 32 Try.underlying114 hi hz0 hz1 hz2 rfl (by decide) v L.length (ic (flatE L)) hrow ⟨N, 0, none⟩ 1 1 (ic (flatE [e])) rfl (by
    intro j u hu
    have hc := cell_of hN
    rcases j with _ | _ | _ | _ | j
    · simp [ic, flatE] at hu; subst hu; simpa [Addr.add] using hc 0
    · simp [ic, flatE] at hu; subst hu; simpa [Addr.add] using hc 1
    · simp [ic, flatE] at hu; subst hu; simpa [Addr.add] using hc 2
    · simp [ic, flatE] at hu; subst hu; simpa [Addr.add] using hc 3
    · simp [ic, flatE] at hu) (ic_one _) (by unfold maxLen; omega) (by omega) hbase
  refine wpListIn_plain hgd fun K hK' => ?_
  unfold Oper.wpIn
  refine ⟨?_, ?_⟩
  · simp [Oper.about, ho, resolve, Target.leads, Sem.run_pure]
  · rw [Oper.semAt_plain F _ _ (by rw [ho]; intro c hc'; cases hc')]
    simp [execOp, ho, resolve, invoke, builtin, hs, hx, hrun, Result.andThen]
    refine hK' _ _ (h v' w' ?_ r2 r3)
    show World.ownsRow _ _ _ _ _ _ _
    rw [List.length_append, flatE_append, ic_append]; exact r1

theorem ERow.form {w : World} {base : Nat} {v : Value} {L : List Ent} (h : ERow w base v L) : ∃ ao c, v = .slice ao L.length c := by
  rcases h.2 with ⟨rfl, h0⟩ | ⟨g, cap, cur, rfl, _⟩
  · exact ⟨_, _, by rw [h0]⟩
  · exact ⟨_, _, rfl⟩
/-- While the entries are taken out. -/
structure RI (w : World) (P : Nat) (most : Int) (a n nn : Nat) (sl : Sl) (L : List Ent) (k1 k2 : Int) (Bs : Nat) (j : Nat) (W : World) : Prop where
  val : ValIs W P most a n nn sl Bs (Bs + 1) 0
  bm : W.heap[w.heap.size]? = some (.cells #[.int .i64 k1, .int .i64 k2] 33 (0, 0))
  row : ∃ v, W.heap[w.heap.size + 1]? = some (.cells #[v] 114 (0, 0)) ∧ ERow W (w.heap.size + 2) v (L.take j)
  kp : Kept No w W

theorem RI.loose {w : World} {P : Nat} {most : Int} {a n nn : Nat} {sl : Sl} {L : List Ent} {k1 k2 : Int} {Bs B j : Nat} {W W' : World} (h : RI w P most a n nn sl L k1 k2 Bs j W) (ht : Tb w P most a n nn sl) (hB : w.heap.size ≤ B) (hl : Loose B W W') : RI w P most a n nn sl L k1 k2 Bs j W' := by
  refine ⟨⟨hl.tb h.val.tb (fun q hq => by have := ht.fp (FP.kept ht.lt h.kp hq); omega), hl.cells h.val.bs, hl.cells h.val.bf⟩, hl.cells h.bm, ?_, Loose.kept h.kp hl hB⟩
  obtain ⟨v, hv, hr⟩ := h.row
  refine ⟨v, hl.cells hv, hr.turn (fun k hk => ?_)⟩
  obtain ⟨c, hc⟩ := hr.cells hk
  rw [hl.cells hc, hc]

/-- The row is made longer: one round. -/
theorem RI.next {w : World} {P : Nat} {most : Int} {a n nn : Nat} {sl : Sl} {L : List Ent} {k1 k2 : Int} {Bs j : Nat} {W' W5 : World} {e : Ent} {v v' : Value} {o : Obj} (hI : RI w P most a n nn sl L k1 k2 Bs j W') (ht : Tb w P most a n nn sl) (hBs : Bs = w.heap.size + 2) (he : L[j]? = some e)
    (hv : W'.heap[w.heap.size + 1]? = some (.cells #[v] 114 (0, 0))) (hr : ERow W' (w.heap.size + 2) v (L.take j)) (HR : ERow W5 (w.heap.size + 2) v' (L.take j ++ [e])) (HG : (W'.alloc o).grownBy W5 v.ownBlock) :
    W5.heap[w.heap.size + 1]? = some (.cells #[v] 114 (0, 0)) ∧ Still (w.heap.size + 4) W' (W5.setCell ⟨w.heap.size + 1, 0, none⟩ v') ∧ RI w P most a n nn sl L k1 k2 Bs (j + 1) (W5.setCell ⟨w.heap.size + 1, 0, none⟩ v') := by
  have hb : ∀ k, v.ownBlock = some k → w.heap.size + 2 ≤ k := fun k hk => (World.ownsRow.lt hr k hk).1
  have hb' : ∀ k, v'.ownBlock = some k → w.heap.size + 2 ≤ k := fun k hk => (World.ownsRow.lt HR k hk).1
  have hv5 : W5.heap[w.heap.size + 1]? = some (.cells #[v] 114 (0, 0)) := (HG.block _ (by have := hp_lt hv; simp; omega) (fun e => by have := hb _ e.symm; omega)).trans (heap_old hv _)
  have hk : Kept (fun k => v.ownBlock = some k ∨ k = w.heap.size + 1) W' (W5.setCell ⟨w.heap.size + 1, 0, none⟩ v') :=
    ((((Kept.refl _ _).alloc o).grown HG (fun k hk => .inl (.inl hk))).set _ 0 _ (.inl (.inr rfl)))
  refine ⟨hv5, Still.of_kept hk ?_, ⟨⟨hI.val.tb.kept hk ?_, hk.heap hI.val.bs ?_, hk.heap hI.val.bf ?_⟩, hk.heap hI.bm ?_, ⟨v', hp_set_same hv5 0 v', ?_⟩, hI.kp.trans' hk ?_⟩⟩
  · rintro k (h1 | h1)
    · obtain ⟨c, hc⟩ := hr.cells h1
      exact .inr ⟨c, _, hc⟩
    · exact .inl (by omega)
  · rintro k hq (h1 | h1)
    · have := ht.fp (FP.kept ht.lt hI.kp hq); have := hb k h1; omega
    · have := ht.fp (FP.kept ht.lt hI.kp hq); omega
  · rintro (h1 | h1)
    · obtain ⟨c, hc⟩ := hr.cells h1
      rw [hI.val.bs] at hc; simp at hc
    · omega
  · rintro (h1 | h1)
    · obtain ⟨c, hc⟩ := hr.cells h1
      rw [hI.val.bf] at hc; simp at hc
    · omega
  · rintro (h1 | h1)
    · have := hb _ h1; omega
    · omega
  · have e2 : L.take (j + 1) = L.take j ++ [e] := by rw [List.take_add_one, he]; rfl
    rw [e2]
    exact HR.turn (fun k hk => Below.heap_setCell W5 _ v' k (by have := hb' k hk; show k ≠ w.heap.size + 1; omega))
  · rintro k (h1 | h1)
    · exact .inr (by have := hb k h1; omega)
    · exact .inr (by omega)

/-- Behind the sizes: the store, the entries, what was deferred. -/
structure RS (w : World) (P : Nat) (most : Int) (a n nn : Nat) (sl : Sl) (L : List Ent) (v : Value) (D : Nat) (W : World) : Prop where
  tb : Tb W P most a n nn sl
  row : ERow W (w.heap.size + 2) v L
  box : W.heap[w.heap.size + 1]? = some (.cells #[v] 114 (0, 0))
  df : W.heap[D]? = some (.deferred (some []))
  own : Own w P W
theorem RS.no {w : World} {P : Nat} {most : Int} {a n nn : Nat} {sl : Sl} {L : List Ent} {v : Value} {D : Nat} {W W' : World} (h : RS w P most a n nn sl L v D W) (hk : Kept No W W') : RS w P most a n nn sl L v D W' :=
  ⟨h.tb.no hk, h.row.turn (fun k hk' => hk.block k (World.ownsRow.lt h.row k hk').2 id), hk.heap h.box id, hk.heap h.df id, h.own.trans (Own.of_no hk h.tb.lt)⟩
theorem RS.own' {w : World} {P : Nat} {most : Int} {a n nn : Nat} {sl : Sl} {L : List Ent} {v : Value} {D : Nat} {W W' : World} {a' n' nn' : Nat} {sl' : Sl} (h : RS w P most a n nn sl L v D W) (hf : ∀ k, FP W P k → (∃ c e f, W.heap[k]? = some (.cells c e f) ∧ e = 67) ∨ ∃ es c, W.heap[k]? = some (.map es c)) (ho : Own W P W') (ht : Tb W' P most a' n' nn' sl') : RS w P most a' n' nn' sl' L v D W' := by
  have hn : ∀ k c e f, W.heap[k]? = some (.cells c e f) → e ≠ 67 → ¬ FP W P k := fun k c e f hk he hq => by
    rcases hf k hq with ⟨c', e', f', h1, h2⟩ | ⟨es, c', h1⟩
    · rw [hk] at h1; cases h1; exact he h2
    · rw [hk] at h1; cases h1
  refine ⟨ht, h.row.turn (fun k hk' => ?_), ho.kp.heap h.box (hn _ _ _ _ h.box (by decide)), ho.kp.heap h.df ?_, h.own.trans ho⟩
  · obtain ⟨c, hc⟩ := h.row.cells hk'
    rw [ho.kp.heap hc (hn _ _ _ _ hc (by decide)), hc]
  · intro hq
    rcases hf D hq with ⟨c', e', f', h1, h2⟩ | ⟨es, c', h1⟩
    · rw [h.df] at h1; cases h1
    · rw [h.df] at h1; cases h1
theorem Tb.kinds {W : World} {P : Nat} {most : Int} {a n nn : Nat} {sl : Sl} (h : Tb W P most a n nn sl) : ∀ k, FP W P k → (∃ c e f, W.heap[k]? = some (.cells c e f) ∧ e = 67) ∨ ∃ es c, W.heap[k]? = some (.map es c) := by
  obtain ⟨M, h1, h2, h3⟩ := h.ex
  rintro k (rfl | ⟨most', a', n', e⟩)
  · exact .inl ⟨_, _, _, h1, rfl⟩
  · rw [h1] at e
    simp [mb] at e
    obtain ⟨D, ⟨es, c, hb, _⟩, _⟩ := h3 k e.2.2.2
    exact .inr ⟨es, c, hb⟩

set_option maxRecDepth 100000 in
set_option maxHeartbeats 4000000 in
theorem renew_any {w : World} {P : Nat} {most : Int} {a n nn : Nat} {sl : Sl} (h : Tb w P most a n nn sl) (hm : I64 most) (hsl : ∀ i, I64 (sl i).2) (k1 k2 : Int) (L : List Ent) (HL : Hid (ents a n sl 0 = L)) (hlen : L.length ≤ 200) :
    Calls Try.prog 49 #[MI P, AV k1 k2] w fun e w' => (most < (szA (L ++ [((k1, k2), (0, 0))]) : Int) + 2 * (szN (L ++ [((k1, k2), (0, 0))]) : Int) ∧ e = .returned (.int .i64 8) ∧ Kept No w w') ∨
      ((szA (L ++ [((k1, k2), (0, 0))]) : Int) + 2 * (szN (L ++ [((k1, k2), (0, 0))]) : Int) ≤ most ∧ e = .returned (.int .i64 0) ∧ (∃ nn', nn' ≤ 2 * L.length ∧ Tb w' P most (szA (L ++ [((k1, k2), (0, 0))])) (szN (L ++ [((k1, k2), (0, 0))])) nn' (putAll (szA (L ++ [((k1, k2), (0, 0))])) (szN (L ++ [((k1, k2), (0, 0))])) (fun _ => (0, 0)) L)) ∧ Own w P w') := by
  have hbd := h.bd
  have HT : Hid (Tb w P most a n nn sl) := h
  have HSl : Hid (∀ i, I64 (sl i).2) := hsl
  have HM : Hid (I64 most) := hm
  have hlt := h.lt
  obtain ⟨a', HA'⟩ : ∃ a', Hid (szA (L ++ [((k1, k2), (0, 0))]) = a') := ⟨_, show _ = _ from rfl⟩
  obtain ⟨n', HN'⟩ : ∃ n', Hid (szN (L ++ [((k1, k2), (0, 0))]) = n') := ⟨_, show _ = _ from rfl⟩
  have ha' : a' ≤ 100000 := by
    rw [← HA'.out]
    exact Nat.le_trans (szS_le _ 13).2 (by decide)
  have HNF : Hid (n' ≤ 256 ∧ bits .and .i64 (n' : Int) ((n' : Int) - 1) = 0) := by
    have := pw2_facts ((L ++ [((k1, k2), (0, 0))]).length - (szS (cnt (L ++ [((k1, k2), (0, 0))])) 13).2.1) (by simp; omega)
    rw [← HN'.out]
    exact ⟨this.2.1, this.2.2.1⟩
  rw [HA'.out, HN'.out]
  clear h hsl hm
  refine (callsIn_wide (n := 6)).1 ?_
  refine callsIn_of_wp_marks Try.func49 rfl trivial ?_ rfl
  simp only [Try.ntmps49, List.size_toArray, List.length_cons, List.length_nil, Nat.reduceAdd, Nat.reduceSub, Array.replicate_succ, Array.replicate_zero, List.push_toArray, List.append_toArray, List.nil_append, List.cons_append]
  gi_wp2_with (refine ⟨trivial, ?_⟩; gi_at_call 46; refine (callsIn_wide.2 (entries_any _ rfl _ _)).mono ?_; rintro e w' ⟨rfl, rfl⟩)
  obtain ⟨W2, HW2⟩ : ∃ W2, Hid (W2 = (((w.alloc (.cells #[.int .i64 k1, .int .i64 k2] 33)).alloc (.cells #[.slice none 0 0] 114)).alloc (.cells #[MI P] 81)).alloc (.cells #[.int .i64 0] 3)) := ⟨_, show _ = _ from rfl⟩
  rw [← HW2.out]
  have HZ2 : Hid (W2.heap.size = w.heap.size + 4) := by show _ = _; rw [HW2.out]; simp
  have HI0 : Hid (RI w P most a n nn sl L k1 k2 (w.heap.size + 2) 0 W2) := by
    have k0 : Kept No w W2 := by rw [HW2.out]; exact ((((Kept.refl _ _).alloc _).alloc _).alloc _).alloc _
    refine ⟨⟨HT.out.no k0, ?_, ?_⟩, ?_, ⟨.slice none 0 0, ?_, ERow.nil _ _⟩, k0⟩
    · rw [HW2.out]; have := heap_new1 ((w.alloc (.cells #[.int .i64 k1, .int .i64 k2] 33)).alloc (.cells #[.slice none 0 0] 114)) (.cells #[MI P] 81); simp only [World.size_alloc] at this; exact heap_old this _
    · rw [HW2.out]; have := heap_new1 (((w.alloc (.cells #[.int .i64 k1, .int .i64 k2] 33)).alloc (.cells #[.slice none 0 0] 114)).alloc (.cells #[MI P] 81)) (.cells #[.int .i64 0] 3); simp only [World.size_alloc] at this; exact this
    · rw [HW2.out]; exact heap_old (heap_old (heap_old (heap_new1 w _) _) _) _
    · rw [HW2.out]; have := heap_new1 (w.alloc (.cells #[.int .i64 k1, .int .i64 k2] 33)) (.cells #[.slice none 0 0] 114); simp only [World.size_alloc] at this; exact heap_old (heap_old this _) _
  clear HW2
  have HRn := entries_rounds 5 P (by omega) most a n nn sl HSl.out (w.heap.size + 2) (w.heap.size + 2 + 1) 0 (by omega) (fun j W => RI w P most a n nn sl L k1 k2 (w.heap.size + 2) j W) (fun j W h => h.val)
  rw [HL.out] at HRn
  refine range_two (by decide) rfl (enters_of Try.func73 (by kernel_rfl) rfl) L (fun j W => RI w P most a n nn sl L k1 k2 (w.heap.size + 2) j W) (fun _ _ => False)
    (fun k W3 W' h hl => h.loose HT.out (by rw [HZ2.out]; omega) hl) (fun k W3 W' h hl => h) ?h0 HRn (fun e s => { tmps := #[MI P, AV k1 k2, undef, Value.pointer (some { block := w.heap.size, off := 0 }), Value.int IntKind.i64 0, Value.pointer (some { block := w.heap.size + 1, off := 0 }), Value.pointer (some { block := s, off := 0 }), Value.pointer (some { block := s + 1, off := 0 }), undef, undef, undef, undef, undef, MI P, Value.func (Fn.func 73) #[] #[Value.pointer (some { block := w.heap.size + 1 + 1, off := 0 }), Value.pointer (some { block := w.heap.size + 1 + 1 + 1, off := 0 })], iV e.1, iV e.2, undef, undef, undef, undef, undef, undef, undef, undef, undef, undef, undef, undef, undef, undef, undef, undef, undef, undef, undef, undef, undef, undef, undef, undef, undef, undef, undef, undef, undef, undef, undef, undef, undef, undef, undef], defers := [] }) ?assign ?body ?done ?stop
  case h0 => exact HI0.out
  case assign =>
    intro l' e W' K hK
    unfold boxE at hK
    gi_wp2
    exact hK
  case body =>
    rintro l' j e W3 W' hI0 hI he hl
    obtain ⟨⟨e1, e2⟩, v1, v2⟩ := e
    have hz3 : w.heap.size + 3 < W3.heap.size := hp_lt hI0.val.bf
    have q5 : W'.heap[W3.heap.size]? = some (.cells #[.int .i64 e1, .int .i64 e2] 33 (0, 0)) := hl.cells (heap_old (heap_new1 W3 _) _)
    have q6 : W'.heap[W3.heap.size + 1]? = some (.cells #[.int .i64 v1, .int .i64 v2] 33 (0, 0)) := by
      refine hl.cells ?_
      have := heap_new1 (W3.alloc (.cells #[.int .i64 e1, .int .i64 e2] 33)) (.cells #[.int .i64 v1, .int .i64 v2] 33); rw [World.size_alloc] at this; exact this
    have hv6 := hp_lt q6
    have d0 : W'.cell? ⟨W3.heap.size, 0, none⟩ = some (.int .i64 e1) := by rw [cell_of q5]; rfl
    have d1 : W'.cell? ⟨W3.heap.size, 1, none⟩ = some (.int .i64 e2) := by rw [cell_of q5]; rfl
    have d2 : W'.cell? ⟨W3.heap.size + 1, 0, none⟩ = some (.int .i64 v1) := by rw [cell_of q6]; rfl
    have d3 : W'.cell? ⟨W3.heap.size + 1, 1, none⟩ = some (.int .i64 v2) := by rw [cell_of q6]; rfl
    generalize W3.heap.size = V at hz3 q5 q6 hv6 d0 d1 d2 d3 ⊢
    obtain ⟨v, hv, hr⟩ := hI.row
    have d4 : W'.cell? ⟨w.heap.size + 1, 0, none⟩ = some v := by rw [cell_of hv]; rfl
    have HI : Hid (RI w P most a n nn sl L k1 k2 (w.heap.size + 2) j W') := hI
    have HV : Hid (W'.heap[w.heap.size + 1]? = some (.cells #[v] 114 (0, 0))) := hv
    have HR0 : Hid (ERow W' (w.heap.size + 2) v (L.take j)) := hr
    have HE : Hid (L[j]? = some ((e1, e2), v1, v2)) := he
    have hjl : (L.take j).length ≤ 200 := by rw [List.length_take]; omega
    clear hI0 hI he hl HRn q5 q6 hv hr HI0
    gi_wp2_with (refine app_ent rfl (.tmp 17) (.tmp 21) rfl (w.heap.size + 2) v (L.take j) rfl (World.ownsRow.alloc HR0.out _) W'.heap.size ((e1, e2), (v1, v2)) rfl (heap_new1 W' _) (by omega) (by simp; omega) ?_)
    intro v' W5 HR HRo HG
    have HX := HI.out.next HT.out rfl HE.out HV.out HR0.out HR.out HG.out
    have d5 : W5.cell? ⟨w.heap.size + 1, 0, none⟩ = some v := by rw [cell_of HX.1]; rfl
    have f5 : ∀ o, W5.frozen? ⟨w.heap.size + 1, o, none⟩ = false := frozen_of HX.1
    have HX2 : Hid _ := HX.2
    clear HX
    obtain ⟨ao, co, rfl⟩ := HR.out.form
    clear HR HRo HG
    generalize (L.take j ++ [((e1, e2), v1, v2)]).length = lm at HX2 ⊢
    gi_wp2
    rw [HZ2.out]
    exact HX2.out
  case done =>
    rintro D W' hD hI hK
    have hDz : w.heap.size + 4 ≤ D := by rw [← HZ2.out]; exact hD
    obtain ⟨v, hv, hr⟩ := hI.row
    rw [List.take_length] at hr
    have d4 : W'.cell? ⟨w.heap.size + 1, 0, none⟩ = some v := by rw [cell_of hv]; rfl
    have d5 : W'.cell? ⟨w.heap.size, 0, none⟩ = some (.int .i64 k1) := by rw [cell_of hI.bm]; rfl
    have d6 : W'.cell? ⟨w.heap.size, 1, none⟩ = some (.int .i64 k2) := by rw [cell_of hI.bm]; rfl
    have hv6 := hp_lt hv
    have HR0 : Hid (ERow W' (w.heap.size + 2) v L) := hr
    have HS0 : Hid (RS w P most a n nn sl L v D W') := ⟨hI.val.tb, hr, hv, hK, Own.of_no hI.kp hlt⟩
    have HK0 : Hid (Kept No w W') := hI.kp
    clear hI hv hr hK HRn HI0 hD
    gi_wp2_with (refine app_ent rfl (.tmp 24) (.tmp 27) rfl (w.heap.size + 2) v L rfl (World.ownsRow.alloc HR0.out _) W'.heap.size ((k1, k2), (0, 0)) rfl (heap_new1 W' _) (by omega) (by simp; omega) ?_)
    intro v' W5 HR HRo HG
    have HSz : Hid (Calls Try.prog 75 #[v'] W5 fun e w' => e = .returned (.tuple #[.int .i64 (a' : Nat), .int .i64 (n' : Nat)]) ∧ Kept No W5 w') := by
      rw [← HA'.out, ← HN'.out]
      exact sizes_any _ v' W5 HR.out.ents (by simp; omega)
    have hk5 : Kept (fun k => v.ownBlock = some k) W' W5 := ((Kept.refl _ _).alloc _).grown HG.out (fun k hk => .inl hk)
    have hb5 : ∀ k, v.ownBlock = some k → w.heap.size + 2 ≤ k ∧ ∃ c, W'.heap[k]? = some (.cells c 116 (0, 0)) := fun k hk => ⟨(World.ownsRow.lt HR0.out k hk).1, HR0.out.cells hk⟩
    have HK5 : Hid (Kept No w W5) := HK0.out.trans' hk5 (fun i h1 => .inr (by have := (hb5 i h1).1; omega))
    have HS5 : Hid (RS w P most a n nn sl L v D W5) := by
      refine ⟨HT.out.no HK5.out, HRo.out, hk5.heap HS0.out.box (fun h1 => ?_), hk5.heap HS0.out.df (fun h1 => ?_), Own.of_no HK5.out hlt⟩
      · have := (hb5 _ h1).1; omega
      · obtain ⟨c, hc⟩ := (hb5 _ h1).2
        rw [HS0.out.df] at hc; cases hc
    clear HR HRo HG HR0 HS0 hk5 hb5 HK0 d4 d5 d6 hv6
    have hmR := mResize P
    gi_wp2_with fail
    refine ⟨trivial, ?_⟩
    gi_at_call 75
    refine (callsIn_wide.2 HSz.out).mono ?_
    rintro e W6 ⟨rfl, hk6⟩
    have HS6 : Hid (RS w P most a n nn sl L v D W6) := HS5.out.no hk6
    have HK6 : Hid (Kept No w W6) := HK5.out.trans hk6
    clear hk6 HS5 HK5 HSz
    gi_wp2_with fail
    by_cases hf : most < (a' : Int) + 2 * (n' : Int)
    · have HR : Hid (Calls Try.prog 32 #[MP P, .int .i64 a', .int .i64 n'] W6 fun e w' => e = .returned (.int .i64 8) ∧ W6 = w') := Resize_full HS6.out.tb HM.out a' n' ha' (by have := HNF.out.1; omega) HNF.out.2 hf
      refine ⟨trivial, ?_⟩
      gi_at_call 32
      refine (callsIn_wide.2 HR.out).mono ?_
      rintro e W7 ⟨rfl, rfl⟩
      have hdf := HS6.out.df
      gi_wp2
      refine ⟨by simp, .inl ⟨_, _, rfl, run_takeDeferred hdf, ?_⟩⟩
      refine ⟨.int .i64 8, by simp [results, Try.f49, go_sem], .inl ⟨hf, rfl, HK6.out.putObj _ (by omega)⟩⟩
    · have HR : Hid (Calls Try.prog 32 #[MP P, .int .i64 a', .int .i64 n'] W6 fun e w' => e = .returned (.int .i64 0) ∧ Tb w' P most a' n' 0 (fun _ => (0, 0)) ∧ Own W6 P w') := Resize_ok HS6.out.tb HM.out a' n' ha' (by have := HNF.out.1; omega) HNF.out.2 (by omega)
      refine ⟨trivial, ?_⟩
      gi_at_call 32
      refine (callsIn_wide.2 HR.out).mono ?_
      rintro e W7 ⟨rfl, ht7, ho7⟩
      have HS7 : Hid (RS w P most a' n' 0 (fun _ => (0, 0)) L v D W7) := HS6.out.own' HS6.out.tb.kinds ho7 ht7
      clear ht7 ho7 HR HS6 HK6
      obtain ⟨ao, co, rfl⟩ := HS7.out.row.form
      have d7 : W7.cell? ⟨w.heap.size + 1, 0, none⟩ = some (.slice ao L.length co) := by rw [cell_of HS7.out.box]; rfl
      gi_wp2_with fail
      clear d7
      gi_loopw [41] (fun i wr => ∃ j : Nat, j ≤ L.length ∧ i = .int .i64 j ∧ Hid (∃ nn', nn' ≤ 2 * j ∧ RS w P most a' n' nn' (putAll a' n' (fun _ => (0, 0)) (L.take j)) L (.slice ao L.length co) D wr)) (fun i _ => L.length - (intOf i).toNat)
      case atStart => exact ⟨0, Nat.zero_le _, rfl, 0, by omega, HS7.out⟩
      case round =>
        obtain ⟨j, hj, rfl, HA⟩ := hrel
        by_cases hlt2 : j < L.length
        · obtain ⟨nn', hn', hS⟩ := HA.out
          have HS : Hid (RS w P most a' n' nn' (putAll a' n' (fun _ => (0, 0)) (L.take j)) L (.slice ao L.length co) D wr) := hS
          obtain ⟨e, he⟩ : ∃ e, L[j]? = some e := ⟨L[j]'hlt2, List.getElem?_eq_getElem _⟩
          rcases hS.row.ents with ⟨h1, h2⟩ | ⟨b, c, h1, hc⟩
          · rw [h2] at hlt2; exact absurd hlt2 (by simp)
          obtain ⟨g0, g1, g2, g3⟩ := hc j e he
          have HN : Hid (putAll a' n' (fun _ => (0, 0)) (L.take (j + 1)) = (putR a' n' (putAll a' n' (fun _ => (0, 0)) (L.take j)) e.1 e.2).2) := by
            show _ = _
            rw [List.take_add_one, he]; exact putAll_snoc _ _ _ _ _
          injection h1 with e1 e2 e3
          subst e1
          clear e2 e3
          obtain ⟨⟨x1, x2⟩, y1, y2⟩ := e
          have HPut : Hid (∀ W, Kept No wr W → Calls Try.prog 48 #[MI P, AV x1 x2, AV y1 y2] W fun e w' => (∃ bb, e = .returned (.bool bb)) ∧ ∃ nn', nn' ≤ 2 * (j + 1) ∧ RS w P most a' n' nn' (putAll a' n' (fun _ => (0, 0)) (L.take (j + 1))) L (.slice (some ⟨b, 0, none⟩) L.length co) D w') := by
            intro W hW
            have hS' := HS.out.no hW
            refine (put_any hS'.tb (by omega) x1 x2 y1 y2).mono ?_
            rintro e w' ⟨rfl, ⟨nn2, hn2, ht2⟩, ho2⟩
            refine ⟨⟨_, rfl⟩, nn2, by omega, ?_⟩
            rw [HN.out]
            exact hS'.own' hS'.tb.kinds ho2 ht2
          clear hS hc he HN HS HA
          have k1' : (0 : Int) ≤ (j : Int) := by omega
          have k2' : (j : Int) < (L.length : Int) := by omega
          gi_wp2_with fail
          refine ⟨trivial, ?_⟩
          gi_at_call 48
          refine (callsIn_wide.2 (HPut.out _ ((Kept.refl _ _).alloc _))).mono ?_
          rintro e W8 ⟨⟨bb, rfl⟩, hS8⟩
          clear g0 g1 g2 g3 HPut
          gi_wp2
          go_roundw
          case rel => exact ⟨j + 1, by omega, by go_num, hS8⟩
          case measure => simp [intOf]; omega
        · obtain rfl : j = L.length := by omega
          obtain ⟨nn', hn', hS⟩ := HA.out
          rw [List.take_length] at hS
          have hdf := hS.df
          have HE : Hid ((∃ nn', nn' ≤ 2 * L.length ∧ Tb (wr.putObj D (.deferred none)) P most a' n' nn' (putAll a' n' (fun _ => (0, 0)) L)) ∧ Own w P (wr.putObj D (.deferred none))) := by
            have hD : ¬ FP wr P D := fun hq => by
              rcases hS.tb.kinds D hq with ⟨c', e', f', h1, h2⟩ | ⟨es, c', h1⟩
              · rw [hdf] at h1; cases h1
              · rw [hdf] at h1; cases h1
            have hk : Kept (fun k => k = D) wr (wr.putObj D (.deferred none)) := ⟨rfl, rfl, rfl, by simp, fun k _ hn => World.putObj_heap_other hn⟩
            refine ⟨⟨nn', hn', hS.tb.kept hk (fun k hq e => hD (by rw [← e]; exact hq))⟩, ⟨hS.own.kp.putObj _ (by omega), fun k hq => hS.own.fp k ?_⟩⟩
            rcases hq with rfl | ⟨m', a2, n2, e⟩
            · exact .inl rfl
            · rw [World.putObj_heap_other (fun e => hD (.inl e.symm))] at e
              exact .inr ⟨_, _, _, e⟩
          clear HA hS
          gi_wp2
          refine ⟨by simp, .inl ⟨_, _, rfl, run_takeDeferred hdf, ?_⟩⟩
          refine ⟨.int .i64 0, by simp [results, Try.f49, go_sem], .inr ⟨by omega, rfl, HE.out⟩⟩
  case stop =>
    rintro D k W' hD hf hK
    exact hf.elim
end Go.Proofs.Ythefmfjlinpepaa
