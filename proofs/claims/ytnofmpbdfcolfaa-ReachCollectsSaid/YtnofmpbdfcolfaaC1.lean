/- lost; marks of ranges; rows of entries. -/
import Derived.Test.YtnofmpbdfcolfaaB4
namespace Go.Proofs.Ytnofmpbdfcolfaa
open Go.RowKit Go.Shelf
set_option linter.unusedSimpArgs false
set_option linter.unusedVariables false

/-- A row of bools that can be read. -/
def RdB (W : World) (v : Value) (l : List Bool) : Prop := ∃ b, v = SLN b l.length ∧ W.heap[b]? = some (.cells (bc l).toArray 4 (0, 0))
theorem RdB.turn {W W' : World} {v : Value} {l : List Bool} (h : RdB W v l) (hc : ∀ (k : Nat) (c : Array Value) (f : Nat × Nat), W.heap[k]? = some (Obj.cells c 4 f) → W'.heap[k]? = some (Obj.cells c 4 f)) : RdB W' v l := by
  obtain ⟨b, e, h⟩ := h
  exact ⟨b, e, hc b _ _ h⟩
theorem RdB.no {W W' : World} {v : Value} {l : List Bool} (h : RdB W v l) (hk : Kept No W W') : RdB W' v l := h.turn (fun k c f hk' => hk.heap hk' id)

/-- Is a value that is held weakly gone? -/
def lostB (T : List Th) (wk : Bool) (v : V) (stays : List Bool) : Bool := wk && (held T v && !(stays.getD (v.2.toNat - 1) true))

set_option maxRecDepth 20000 in
set_option maxHeartbeats 2000000 in
theorem lost_any {w : World} {tv sv : Value} {T : List Th} {l : List Bool} (hT : RdT w tv T) (hn : T.length ≤ 1000000) (hS : RdB w sv l) (hl : l.length = T.length) (wk : Int) (v : V) :
    Calls Try.prog 53 #[tv, .int .i64 wk, AV v, sv] w fun e w' => e = .returned (.bool (lostB T (!decide (wk = 0)) v l)) ∧ Kept No w w' := by
  obtain ⟨t, n⟩ := v
  have HT : Hid (RdT w tv T) := hT
  have HS : Hid (RdB w sv l) := hS
  have HK : Hid (∀ o, Kept No w (w.alloc o)) := fun o => (Kept.refl _ _).alloc _
  have HB : Hid ((w.alloc (.cells #[.int .i64 t, .int .i64 n] 40)).heap[w.heap.size]? = some (.cells #[.int .i64 t, .int .i64 n] 40 (0, 0))) := World.alloc_heap_new w _
  obtain ⟨ao, cap, rfl, _⟩ := hT
  obtain ⟨b, rfl, hb⟩ := hS
  clear hb
  by_cases h0 : wk = 0
  · have hr : lostB T (!decide (wk = 0)) (t, n) l = false := by unfold lostB; simp [h0]
    rw [hr]
    clear hr
    go_enter Try.func53, Try.ntmps53
    go_wp2
    refine bodyPost_ret (v := .bool false) (by simp [results, Try.results53, go_sem]) rfl ⟨rfl, HK.out _⟩
  · have b0 : (wk != 0) = true := by simp [h0]
    obtain ⟨hb, HHb⟩ : ∃ hb, Hid (held T (t, n) = hb) := ⟨_, rfl⟩
    have hr : lostB T (!decide (wk = 0)) (t, n) l = (hb && !(l.getD (n.toNat - 1) true)) := by unfold lostB; rw [HHb.out]; simp [h0]
    obtain ⟨rr, HRr⟩ : ∃ rr, Hid (lostB T (!decide (wk = 0)) (t, n) l = rr) := ⟨_, rfl⟩
    rw [HRr.out]
    rw [hr] at HRr
    clear hr h0
    have HC : Hid (Calls Try.prog 65 #[.slice ao T.length cap, AV (t, n)] (w.alloc (.cells #[.int .i64 t, .int .i64 n] 40)) fun e w' => e = .returned (.bool hb) ∧ Kept No (w.alloc (.cells #[.int .i64 t, .int .i64 n] 40)) w') := by
      have := heldWeakly_any (HT.out.no (HK.out (.cells #[.int .i64 t, .int .i64 n] 40))) hn (t, n)
      rw [HHb.out] at this
      exact this
    go_enter Try.func53, Try.ntmps53
    go_wp2_with fail
    refine Calls.mono HC.out ?_
    rintro e W2 ⟨rfl, hk2⟩
    have HK2 : Hid (Kept No w W2) := (HK.out _).trans hk2
    obtain ⟨c0, c1⟩ := box_cells (hk2.heap HB.out id)
    obtain ⟨b', e', hb'⟩ := HS.out.no HK2.out
    injection e' with e1
    injection e1 with e1
    injection e1 with e1
    subst e1
    clear hk2 HC HB
    cases hb
    case false =>
      clear hb'
      go_wp2
      refine bodyPost_ret (v := .bool false) (by simp [results, Try.results53, go_sem]) rfl ⟨by rw [← HRr.out]; simp, HK2.out⟩
    case true =>
      obtain ⟨m, rfl, hm⟩ := held_in HHb.out
      have hcm : W2.cell? ⟨b, m, none⟩ = some (.bool (l.getD m true)) := by rw [cell_of hb']; exact bc_get _ _ (by omega)
      rw [show ((m : Int) + 1).toNat - 1 = m by omega] at HRr
      generalize l.getD m true = bb at hcm HRr
      have e1 : (m : Int) + 1 - 1 = (m : Int) := by omega
      have hmi : (m : Int) < (l.length : Int) := by omega
      have hmm : m < l.length := by omega
      clear hb'
      go_wp2
      refine bodyPost_ret (v := .bool (!bb)) (by simp [results, Try.results53, go_sem]) rfl ⟨by rw [← HRr.out]; simp, HK2.out⟩

/-- The marks that ranges leave. -/
def mrk (D : Nat) : Deferred := { target := .collected D, args := #[] }
structure Marks (B : Nat) (w : World) (Ds : List Nat) : Prop where
  nd : Ds.Nodup
  on : ∀ D ∈ Ds, w.heap[D]? = some (.deferred (some []))
  le : ∀ D ∈ Ds, B ≤ D
theorem Marks.nil (B : Nat) (w : World) : Marks B w [] := ⟨List.nodup_nil, fun _ h => (by cases h), fun _ h => (by cases h)⟩
theorem leaves_marks {F : Fence} {n : Nat} {P : Program} {fn : Func} {tmps : Array Value} {R : Ending → World → Prop} {B : Nat} : ∀ (Ds : List Nat) (w : World), Marks B w Ds →
    (∀ w', Loose B w w' → LeavesInM F n P fn tmps R [] .returning w') → LeavesInM F n P fn tmps R (Ds.map mrk) .returning w
  | [], w, _, h => h w (Loose.refl _ _)
  | D :: Ds, w, hm, h => by
    have hD := hm.on D (by simp)
    have hlo : Loose B w (w.putObj D (.deferred none)) := Loose.putObj _ (hm.le D (by simp)) hD rfl
    refine ⟨by simp, .inl ⟨D, _, rfl, run_takeDeferred hD, leaves_marks Ds _ ⟨(List.nodup_cons.1 hm.nd).2, fun D' h' => ?_, fun D' h' => hm.le D' (by simp [h'])⟩ (fun w' hl => h w' (hlo.trans hl))⟩⟩
    have hne : D' ≠ D := by rintro rfl; exact (List.nodup_cons.1 hm.nd).1 h'
    exact (World.putObj_heap_other hne).trans (hm.on D' (by simp [h']))

/-- A quiet region over a class of worlds, in a round. -/
theorem region_quiet_round {P : Program} {C : World → Prop} {l n id : Nat} {Q : Exit → Act → World → Prop} {a : Act} {w : World} {ls : List Oper} (hm : P.follows .mixedOrders = true) (hB : Region.lexB .any ls.toArray = true)
    (hd : ∀ (i : Nat) (o : Oper), ls.toArray[i]? = some o → ∀ c, o.op ≠ .defer c) (hlo : ¬ LetsOut Q) (hC : C w.drew)
    (h : wpQuiet P ls.toArray C (fun a' => ∀ w', C w' → Q .normal a' w') ls a) : (Code.region id ls.toArray true).wpIn (Fence.wide.inRound l) n P Q a w := by
  simp only [Region.lexB, Bool.and_eq_true] at hB
  refine wpIn_region_any hm (any_round hd hlo _ _ _ _ (wpAny_of_quiet (Q := fun a' => ∀ w', C w' → Q .normal a' w') (fun _ w' hw' h => h w' hw') _ _ _ _ hC ?_))
  have := wpAnyQ_lex (C := C) (md := .any) hB.1 ls.toArray.toList 0 (Array.replicate ls.toArray.size false) a (by simp) (by simpa using hB.2) (by simpa using h)
  simpa using this

theorem info49 : (Try.prog.info? 49).map (fun i => (i.zero, i.size, i.bytes)) = some (some (.agg #[.int .i64 0, .int .i64 0]), 2, 16) := by kernel_rfl
/-- A row of entries a call has made. -/
def EnRow (w : World) (base : Nat) (v : Value) (L : List V) : Prop := w.ownsRow base 49 2 v L.length (ic (flatV L))
theorem EnRow.nil (w : World) (base : Nat) : EnRow w base (.slice none 0 0) [] := World.ownsRow_nil w base 49 2
theorem EnRow.turn {w w' : World} {base : Nat} {v : Value} {L : List V} (h : EnRow w base v L) (hk : ∀ k, v.ownBlock = some k → w'.heap[k]? = w.heap[k]?) : EnRow w' base v L := by
  refine ⟨h.1, h.2.imp id ?_⟩
  rintro ⟨g, cap, cur, e1, e2, e3, r⟩
  refine ⟨g, cap, cur, e1, e2, ?_, r⟩
  rw [hk g (by rw [e1]; rfl)]; exact e3
theorem EnRow.block {w : World} {base : Nat} {v : Value} {L : List V} (h : EnRow w base v L) {k : Nat} (hk : v.ownBlock = some k) : base ≤ k ∧ ∃ c, w.heap[k]? = some (.cells c 49 (0, 0)) := by
  rcases h.2 with ⟨rfl, h0⟩ | ⟨g, cap, cur, rfl, hb, hg, _⟩
  · cases hk
  · simp only [Value.ownBlock, Option.some.injEq] at hk
    subst hk
    exact ⟨hb, cur, hg⟩
theorem EnRow.form {w : World} {base : Nat} {v : Value} {L : List V} (h : EnRow w base v L) : ∃ ao c, v = .slice ao L.length c := by
  rcases h.2 with ⟨rfl, h0⟩ | ⟨g, cap, cur, rfl, _⟩
  · exact ⟨_, _, by rw [h0]⟩
  · exact ⟨_, _, rfl⟩
theorem EnRow.cellsKept {w w' : World} {base : Nat} {v : Value} {L : List V} (h : EnRow w base v L) (hc : ∀ (k : Nat) (c : Array Value) (e : TypeId) (f : Nat × Nat), w.heap[k]? = some (Obj.cells c e f) → w'.heap[k]? = some (Obj.cells c e f)) : EnRow w' base v L := by
  refine h.turn (fun k e => ?_)
  obtain ⟨_, c, hcc⟩ := h.block e
  rw [hcc, hc _ _ _ _ hcc]
/-- An entry is appended. -/
theorem app_entIn {F : Fence} {rm : Nat} {ops : Array Oper} {rest : List Oper} {o : Oper} {a : Act} {Q : Exit → Act → World → Prop} {w : World} (hgd : o.guard = none) (s x : Operand)
    (ho : o.op = .call { callee := .builtin .append, args := #[s, x], argTypes := #[35, 35] }) (base : Nat) (v : Value) (L : List V) (hs : a.eval s = v) (hrow : EnRow w base v L)
    (N : Nat) (e : V) (hx : a.eval x = .slice (some ⟨N, 0, none⟩) 1 1) (hN : w.heap[N]? = some (.cells #[.int .i64 e.1, .int .i64 e.2] 49 (0, 0))) (hlen : L.length + 1 ≤ 1000000) (hbase : base ≤ w.heap.size) :
    ∃ v' w', (execOp a.eval o).run Try.prog w = .ok (.value v') w' ∧ EnRow w' base v' (L ++ [e]) ∧ w.grownBy w' v.ownBlock := by
  obtain ⟨i0, hi, hz0, hz1, hz2⟩ := info_parts info49
  obtain ⟨v', w', hr, h2, h3, h4, h5⟩ := run_append_own_at (P := Try.prog) w base 35 o.type 49 i0 (.agg #[.int .i64 0, .int .i64 0]) 2 16 Try.underlying35 hi hz0 hz1 hz2 rfl (by decide) v L.length (ic (flatV L)) hrow ⟨N, 0, none⟩ 1 1 (ic (flatV [e])) rfl
    (by
      intro j u hu
      have hc := cell_of hN
      rcases j with _ | _ | j
      · simp [ic, flatV] at hu; subst hu; simpa [Addr.add] using hc 0
      · simp [ic, flatV] at hu; subst hu; simpa [Addr.add] using hc 1
      · simp [ic, flatV] at hu) (ic_one _) (by unfold maxLen; omega) (by omega) hbase
  refine ⟨v', w', ?_, ?_, h3⟩
  · unfold execOp
    simp only [ho, resolve, invoke, builtin, Sem.run_bind, Sem.run_pure, Result.andThen_ok, List.map_toArray, List.map_cons, List.map_nil, hs, hx, hr]
  · show World.ownsRow _ _ _ _ _ _ _
    rw [List.length_append, flatV_append, ic_append]; exact h2
end Go.Proofs.Ytnofmpbdfcolfaa
