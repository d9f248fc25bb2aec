/- The document's Collect. -/
import Derived.Test.YtnofmpbdfcolfaaY6
import Derived.Deep.DeepCutAuto
namespace Go.Proofs.Ytnofmpbdfcolfaa
open Go.RowKit Go.Shelf
set_option linter.unusedSimpArgs false
set_option linter.unusedVariables false

/-- An entry is appended. -/
theorem app_ent {ops : Array Oper} {rest : List Oper} {o : Oper} {a : Act} {Q : Exit → Act → World → Prop} {w : World} (hgd : o.guard = none) (s x : Operand)
    (ho : o.op = .call { callee := .builtin .append, args := #[s, x], argTypes := #[35, 35] }) (base : Nat) (v : Value) (L : List V) (hs : a.eval s = v) (hrow : EnRow w base v L)
    (N : Nat) (e : V) (hx : a.eval x = .slice (some ⟨N, 0, none⟩) 1 1) (hN : w.heap[N]? = some (.cells #[.int .i64 e.1, .int .i64 e.2] 49 (0, 0))) (hlen : L.length + 1 ≤ 1000000) (hbase : base ≤ w.heap.size)
    (h : ∀ v' w', Hid (EnRow w' base v' (L ++ [e])) → Hid (w.grownBy w' v.ownBlock) → wpList Try.prog ops Q rest (a.put o.dst v') w') : wpList Try.prog ops Q (o :: rest) a w := by
  obtain ⟨i0, hi, hz0, hz1, hz2⟩ := info_parts info49
  refine wpList_append_own _ hgd s x 35 ho base 49 i0 _ 2 16 Try.underlying35 hi hz0 hz1 hz2 rfl (by decide) v L.length (ic (flatV L)) hs hrow ⟨N, 0, none⟩ 1 1 (ic (flatV [e])) hx rfl ?_ (ic_one _)
      (by unfold maxLen; omega) (by omega) hbase ?_
  · intro j u hu
    have hc := cell_of hN
    rcases j with _ | _ | j
    · simp [ic, flatV] at hu; subst hu; simpa [Addr.add] using hc 0
    · simp [ic, flatV] at hu; subst hu; simpa [Addr.add] using hc 1
    · simp [ic, flatV] at hu
  · intro v' w' h1 h2 h3
    refine h v' w' ?_ h2
    show World.ownsRow _ _ _ _ _ _ _
    rw [List.length_append, flatV_append, ic_append]; exact h1

/-- While entries are gathered. -/
structure Sg (w : World) (T : List Th) (F L : List Bool) (nb1 nb3 fb : Nat) (w4 : World) (gx0 : Obj) (lo4 : Value) (Ls : List V) (X : World) : Prop where
  kw : Kept No w X
  kf : Kept (fun k => k = fb) w4 X
  gx : X.heap[w.heap.size]? = some gx0
  fx : X.heap[nb1]? = some (.cells (bc F).toArray 4 (0, 0))
  lx : X.heap[nb3]? = some (.cells (bc L).toArray 4 (0, 0))
  row : ∃ eo ec, X.heap[fb]? = some (.cells #[SLN nb3 T.length, lo4, .slice eo Ls.length ec] 37 (0, 0)) ∧ EnRow X w4.heap.size (.slice eo Ls.length ec) Ls
/-- .. of one thing. -/
structure Su (w : World) (T : List Th) (F L : List Bool) (nb1 nb3 fb : Nat) (w4 : World) (gx0 : Obj) (lo4 : Value) (tb : Nat) (tx : Obj) (Ls : List V) (X : World) : Prop extends Sg w T F L nb1 nb3 fb w4 gx0 lo4 Ls X where
  tbx : X.heap[tb]? = some tx
theorem Sg.no {w : World} {T : List Th} {F L : List Bool} {nb1 nb3 fb : Nat} {w4 : World} {gx0 : Obj} {lo4 : Value} {Ls : List V} {X X' : World} (h : Sg w T F L nb1 nb3 fb w4 gx0 lo4 Ls X) (hk : Kept No X X') : Sg w T F L nb1 nb3 fb w4 gx0 lo4 Ls X' := by
  obtain ⟨eo, ec, h1, h2⟩ := h.row
  exact ⟨h.kw.trans hk, h.kf.trans hk.no, hk.heap h.gx id, hk.heap h.fx id, hk.heap h.lx id, eo, ec, hk.heap h1 id, h2.no hk⟩
theorem Su.no {w : World} {T : List Th} {F L : List Bool} {nb1 nb3 fb : Nat} {w4 : World} {gx0 : Obj} {lo4 : Value} {tb : Nat} {tx : Obj} {Ls : List V} {X X' : World} (h : Su w T F L nb1 nb3 fb w4 gx0 lo4 tb tx Ls X) (hk : Kept No X X') : Su w T F L nb1 nb3 fb w4 gx0 lo4 tb tx Ls X' :=
  ⟨h.toSg.no hk, hk.heap h.tbx id⟩
/-- An entry more. -/
theorem Su.app {w : World} {T : List Th} {F L : List Bool} {nb1 nb3 fb : Nat} {w4 : World} {gc : Array Value} {lo4 : Value} {tb : Nat} {tc : Array Value} {Ls Ls' : List V} {X w9 : World} {o : Obj} {eo eo' : Option Addr} {ec ec' ln : Nat}
    (h : Su w T F L nb1 nb3 fb w4 (.cells gc 25 (0, 0)) lo4 tb (.cells tc 43 (0, 0)) Ls X) (hf : fb < w4.heap.size ∧ w.heap.size ≤ fb) (hg : (X.alloc o).grownBy w9 (Value.slice eo ln ec).ownBlock) (hr : EnRow X w4.heap.size (.slice eo ln ec) Ls) (hv : EnRow w9 w4.heap.size (.slice eo' Ls'.length ec') Ls')
    (h9 : w9.heap[fb]? = some (.cells #[SLN nb3 T.length, lo4, .slice eo ln ec] 37 (0, 0))) : Su w T F L nb1 nb3 fb w4 (.cells gc 25 (0, 0)) lo4 tb (.cells tc 43 (0, 0)) Ls' (w9.setCell ⟨fb, 2, none⟩ (.slice eo' Ls'.length ec')) := by
  have k0 : ∀ k, k < X.heap.size → (Value.slice eo ln ec).ownBlock ≠ some k → w9.heap[k]? = X.heap[k]? := fun k hk hn => by
    rw [hg.block k (by rw [World.size_alloc]; omega) (fun e => hn e.symm)]
    exact Below.heap_alloc X _ _ hk
  have ty : ∀ {k : Nat} {c : Array Value} {e : TypeId}, X.heap[k]? = some (.cells c e (0, 0)) → e ≠ 49 → w9.heap[k]? = some (.cells c e (0, 0)) := fun {k c e} hk he => by
    rw [k0 k (hp_lt hk) (fun hb => ?_)]
    · exact hk
    · obtain ⟨_, c', hc'⟩ := hr.block hb
      rw [hk] at hc'; cases hc'; exact he rfl
  have st : ∀ {k : Nat} {c : Array Value} {e : TypeId}, X.heap[k]? = some (.cells c e (0, 0)) → e ≠ 49 → e ≠ 37 → (w9.setCell ⟨fb, 2, none⟩ (.slice eo' Ls'.length ec')).heap[k]? = some (.cells c e (0, 0)) := fun {k c e} hk he h37 =>
    hp_set_other (ty hk he) 2 _ (ne_ty (ty hk he) h9 h37)
  refine ⟨⟨?_, ?_, st h.gx (by decide) (by decide), st h.fx (by decide) (by decide), st h.lx (by decide) (by decide), eo', ec', hp_set_same h9 2 _, ?_⟩, st h.tbx (by decide) (by decide)⟩
  · refine Kept.set (Kept.grown (h.kw.alloc _) hg (fun k hk => .inr ?_)) _ _ _ (.inr hf.2)
    have := (hr.block hk).1; omega
  · refine Kept.set (Kept.grown (h.kf.alloc _) hg (fun k hk => .inr ?_)) _ _ _ (.inl rfl)
    exact (hr.block hk).1
  · refine EnRow.turn hv (fun k hk => ?_)
    obtain ⟨hb, c, hc⟩ := hv.block hk
    rw [hc, hp_set_other hc 2 _ (by omega)]

set_option maxRecDepth 20000 in
set_option maxHeartbeats 16000000 in
theorem RCollect_any {w : World} {tv rv : Value} {T : List Th} {R : List V} (hT : RdT w tv T) (hR : RdV w rv R) (hn : T.length ≤ 100) (hs : ∀ t ∈ T, t.sl.length ≤ 1000) (hRn : R.length ≤ 1000000) :
    Calls Try.prog 19 #[.agg #[tv, rv]] w fun e w' => ∃ lv pv ev D, e = .returned (.agg #[lv, pv, ev]) ∧ Fnd w w' T R lv pv ev D := by
  have HT : Hid (RdT w tv T) := hT
  have HR : Hid (RdV w rv R) := hR
  have HSl : Hid (∀ t ∈ T, t.sl.length ≤ 1000) := hs
  obtain ⟨ao, cap, rfl, _⟩ := hT
  obtain ⟨ro, rc, rfl, _⟩ := hR
  obtain ⟨W, HWd⟩ : ∃ W, Hid (W = (w.alloc (.cells #[.slice ao T.length cap, .slice ro R.length rc] 25)).alloc (.cells #[.slice none 0 0, .slice none 0 0, .slice none 0 0] 37)) := ⟨_, rfl⟩
  have HK : Hid (Kept No w W) := by show Kept _ _ _; rw [HWd.out]; exact ((Kept.refl _ _).alloc _).alloc _
  have HB0 : Hid (W.heap[w.heap.size]? = some (.cells #[.slice ao T.length cap, .slice ro R.length rc] 25 (0, 0))) := by show _ = _; rw [HWd.out]; exact (Below.heap_alloc _ _ _ (by simp)).trans (World.alloc_heap_new w _)
  have HB1 : Hid (W.heap[w.heap.size + 1]? = some (.cells #[.slice none 0 0, .slice none 0 0, .slice none 0 0] 37 (0, 0))) := by show _ = _; rw [HWd.out]; have := World.alloc_heap_new (w.alloc (.cells #[.slice ao T.length cap, .slice ro R.length rc] 25)) (.cells #[.slice none 0 0, .slice none 0 0, .slice none 0 0] 37); rwa [World.size_alloc] at this
  have hzW : W.heap.size = w.heap.size + 2 := by rw [HWd.out]; simp
  have HG : Hid (∀ W', Kept No W W' → W'.cell? ⟨w.heap.size, 0, none⟩ = some (.slice ao T.length cap) ∧ W'.cell? ⟨w.heap.size, 1, none⟩ = some (.slice ro R.length rc)) := fun W' hk => by
    have := hk.heap HB0.out id
    exact ⟨by rw [cell_of this]; rfl, by rw [cell_of this]; rfl⟩
  have HS1 : Hid (Calls Try.prog 14 #[AG ao T.length cap ro R.length rc, .slice none 0 0] W fun e w' => ∃ nb, e = .returned (SLN nb T.length) ∧ w'.heap[nb]? = some (.cells (bc (strong T R [])).toArray 4 (0, 0)) ∧ W.heap.size ≤ nb ∧ Kept No W w') := RStrong_any (HT.out.no HK.out) (HR.out.no HK.out) ⟨none, 0, rfl, fun j hj => by simp at hj⟩ hn HSl.out hRn (by simp)
  obtain ⟨g0, g1⟩ := HG.out W (Kept.refl _ _)
  clear hs
  go_enter Try.func19, Try.ntmps19
  go_wp2_with (first | rw [← HWd.out])
  refine Calls.mono HS1.out ?_
  rintro e W1 ⟨nb1, rfl, hb1, _, hk1⟩
  have HN1 : Hid _ := hb1
  have HK1 : Hid (Kept No W W1) := hk1
  have HP1 : Hid (Calls Try.prog 38 #[AG ao T.length cap ro R.length rc, SLN nb1 T.length] W1 fun e w' => ∃ v D, e = .returned v ∧ Pd T (strong T R []) D ∧ IRow w' W1.heap.size v (hdl D) ∧ Kept No W1 w') := RPending_any (HT.out.no (HK.out.trans hk1)) (by omega) (strong_len T R []) hb1
  obtain ⟨g2, g3⟩ := HG.out W1 hk1
  clear hb1 hk1 g0 g1 HS1
  go_wp2_with fail
  refine Calls.mono HP1.out ?_
  rintro e W2 ⟨pv, D, rfl, hpd, hir, hk2⟩
  obtain ⟨po, pc, rfl⟩ := hir.form
  have HPd : Hid (Pd T (strong T R []) D) := hpd
  have HDn : Hid (D.length ≤ 1000000) := by have := hpd.len; show _ ≤ _; omega
  have HI2 : Hid (IRow W2 W.heap.size (.slice po (hdl D).length pc) (hdl D)) := hir.base HK1.out.size
  have HK2 : Hid (Kept No W W2) := HK1.out.trans hk2
  have HN2 : Hid _ := hk2.heap HN1.out id
  have HS2 : Hid (Calls Try.prog 14 #[AG ao T.length cap ro R.length rc, .slice po (hdl D).length pc] W2 fun e w' => ∃ nb, e = .returned (SLN nb T.length) ∧ w'.heap[nb]? = some (.cells (bc (strong T R (hdl D))).toArray 4 (0, 0)) ∧ W2.heap.size ≤ nb ∧ Kept No W2 w') := RStrong_any (HT.out.no (HK.out.trans HK2.out)) (HR.out.no (HK.out.trans HK2.out)) hir.rd hn HSl.out hRn (by rw [hdl_len]; exact HDn.out)
  generalize (hdl D).length = pl at HI2 HS2 ⊢
  obtain ⟨g4, g5⟩ := HG.out W2 HK2.out
  clear hk2 hpd hir g2 g3 HP1 HN1
  go_wp2_with fail
  refine Calls.mono HS2.out ?_
  rintro e W3 ⟨nb3, rfl, hb3, _, hk3⟩
  have HK3 : Hid (Kept No W W3) := HK2.out.trans hk3
  have HI3 : Hid (IRow W3 W.heap.size (.slice po pl pc) (hdl D)) := HI2.out.no hk3
  have HN3 : Hid _ := hk3.heap HN2.out id
  have HL3 : Hid _ := hb3
  obtain ⟨w4, HW4⟩ : ∃ X, Hid (X = W3.alloc (.cells #[SLN nb3 T.length, .slice po pl pc, .slice none 0 0] 37)) := ⟨_, rfl⟩
  have hk4 : Kept No W3 w4 := by rw [HW4.out]; exact (Kept.refl _ _).alloc _
  have hfx4 : w4.heap[W3.heap.size]? = some (.cells #[SLN nb3 T.length, .slice po pl pc, .slice none 0 0] 37 (0, 0)) := by rw [HW4.out]; exact World.alloc_heap_new W3 _
  have hfb4 : W3.heap.size < w4.heap.size ∧ w.heap.size ≤ W3.heap.size := ⟨by rw [HW4.out]; simp, Nat.le_trans HK.out.size HK3.out.size⟩
  have hfbW : W.heap.size ≤ W3.heap.size := HK3.out.size
  have HF0 : Hid ((strong T R []).length = T.length) := strong_len T R []
  have HL0 : Hid ((strong T R (hdl D)).length = T.length) := strong_len T R _
  have HDoc : Hid (∀ h, h < T.length → (strong T R (hdl D)).getD h true = true → isWk (thAt T h) = true → clrOf T (strong T R []) (strong T R (hdl D)) h = dJ T (strong T R []) (strong T R (hdl D)) h (thAt T h).sl.length) := fun h a b c => clrOf_doc a b c
  have HQ : Hid (∀ w' lv pv ev, (∃ nb, lv = SLN nb T.length ∧ w'.heap[nb]? = some (.cells (bc (strong T R (hdl D))).toArray 4 (0, 0)) ∧ Pd T (strong T R []) D ∧ IRow w' w.heap.size pv (hdl D) ∧ EnRow w' w.heap.size ev (clrTo T (strong T R []) (strong T R (hdl D)) T.length) ∧ Kept No w w') → Fnd w w' T R lv pv ev D) := fun w' lv pv ev h => h
  have HSg4 : Hid (Sg w T (strong T R []) (strong T R (hdl D)) nb1 nb3 W3.heap.size w4 (.cells #[.slice ao T.length cap, .slice ro R.length rc] 25 (0, 0)) (.slice po pl pc) [] w4) := ⟨HK.out.trans (HK3.out.trans hk4), Kept.refl _ _, (HK3.out.trans hk4).heap HB0.out id, hk4.heap HN3.out id, hk4.heap HL3.out id, none, 0, hfx4, EnRow.nil _ _⟩
  have HI4 : Hid (IRow w4 W.heap.size (.slice po pl pc) (hdl D)) := HI3.out.no hk4
  have HB4 : Hid (w4.heap[w.heap.size + 1]? = some (.cells #[.slice none 0 0, .slice none 0 0, .slice none 0 0] 37 (0, 0))) := (HK3.out.trans hk4).heap HB1.out id
  have HTh : Hid (∀ j, j < T.length → ∃ b off so sc, ao = some ⟨b, off, none⟩ ∧ (thAt T j).sl.length ≤ 1000 ∧ ∀ X, Kept No w X → (X.cell? ⟨b, off + j * 5, none⟩ = some (.int .i64 (thAt T j).kind) ∧ X.cell? ⟨b, off + j * 5 + 1, none⟩ = some (.int .i64 (thAt T j).weak) ∧ X.cell? ⟨b, off + j * 5 + 2, none⟩ = some (.int .i64 (thAt T j).arr) ∧ X.cell? ⟨b, off + j * 5 + 3, none⟩ = some (.slice so (thAt T j).sl.length sc) ∧ X.cell? ⟨b, off + j * 5 + 4, none⟩ = some (.int .i64 (thAt T j).fin)) ∧ RdV X (.slice so (thAt T j).sl.length sc) (thAt T j).sl) := fun j hj => by
    obtain ⟨ao', cap', e, hq⟩ := HT.out
    injection e with e1 e2 e3
    subst e1
    obtain ⟨b, off, sv, e2, h1, h2, h3, h4, h5, h6⟩ := hq j hj
    rw [thAt_eq hj]
    obtain ⟨so, sc, rfl, h7⟩ := h6
    exact ⟨b, off, so, sc, e2, HSl.out _ (List.getElem_mem hj), fun X hX => ⟨⟨by rw [cell_al hX h1]; exact h1, by rw [cell_al hX h2]; exact h2, by rw [cell_al hX h3]; exact h3, by rw [cell_al hX h4]; exact h4, by rw [cell_al hX h5]; exact h5⟩, RdV.no ⟨so, sc, rfl, h7⟩ hX⟩⟩
  have HWk : Hid (∀ X, Kept No w X → ∀ v, Calls Try.prog 24 #[AG ao T.length cap ro R.length rc, AV v] X fun e w' => e = .returned (.bool (held T v)) ∧ Kept No X w') := fun X hX v => RWeakly_any (HT.out.no hX) (by omega) v
  have HOb : Hid (∀ X, Kept No w X → ∀ v, Calls Try.prog 21 #[AG ao T.length cap ro R.length rc, AV v] X fun e w' => e = .returned (.int .i64 (objN T v)) ∧ Kept No X w') := fun X hX v => RObject_any (HT.out.no hX) (by omega) v
  have HCl : Hid (∀ h, h ≤ T.length → (clrTo T (strong T R []) (strong T R (hdl D)) h).length ≤ 100000) := fun h hh => by
    have := clrTo_len T (strong T R []) (strong T R (hdl D)) (fun i => by
      by_cases hi : i < T.length
      · rw [thAt_eq hi]; exact HSl.out T[i] (List.getElem_mem hi)
      · unfold thAt; simp [List.getD, hi]) h
    omega
  obtain ⟨g6, g7⟩ := HG.out W3 HK3.out
  obtain ⟨g8, g9⟩ := HG.out w4 (HK3.out.trans hk4)
  clear hb3 hk3 hk4 hfx4 g4 g5 HS2 HN2 HN3 HL3 HI2 HI3
  generalize strong T R [] = F at *
  generalize strong T R (hdl D) = L at *
  go_wp2_with (first | rw [← HW4.out])
  clear HW4 g6 g7
  generalize W3.heap.size = fb at *
  go_loopw [7, 8, 9, 10, 11, 12, 13, 25, 26, 27, 28, 29, 30, 31, 32, 33, 34, 35, 36, 37, 38, 39, 40, 41, 42, 43, 44, 45, 46, 47, 48, 49, 50, 51, 52, 53, 54, 55, 56, 57, 58, 59, 60, 61, 62, 63, 64, 65, 66, 67, 68, 69, 70, 71, 72, 73, 74, 75, 76, 77, 78, 79, 80, 81, 82, 83, 84, 85, 86, 87, 88, 89, 90, 91, 92, 93, 94, 95, 96, 97, 98, 99, 100, 101, 102, 103, 104, 105, 106, 107, 108, 109, 110, 111, 112, 113, 114, 115, 116, 117, 118, 119, 120, 121, 122, 123, 124, 125, 126, 127, 128, 129, 130, 131, 132, 133, 134, 135, 136] (fun hh _ _ _ _ _ _ _ _ _ _ _ _ _ _ _ _ _ _ _ _ _ _ _ _ _ _ _ _ _ _ _ _ _ _ _ _ _ _ _ _ _ _ _ _ _ _ _ _ _ _ _ _ _ _ _ _ _ _ _ _ _ _ _ _ _ _ _ _ _ _ _ _ _ _ _ _ _ _ _ _ _ _ _ _ _ _ _ _ _ _ _ _ _ _ _ _ _ _ _ _ _ _ _ _ _ _ _ _ _ _ _ _ _ _ _ _ _ _ wr => ∃ h : Nat, h ≤ T.length ∧ hh = .int .i64 h ∧ Hid (Sg w T F L nb1 nb3 fb w4 (.cells #[.slice ao T.length cap, .slice ro R.length rc] 25 (0, 0)) (.slice po pl pc) (clrTo T F L h) wr)) (fun hh _ _ _ _ _ _ _ _ _ _ _ _ _ _ _ _ _ _ _ _ _ _ _ _ _ _ _ _ _ _ _ _ _ _ _ _ _ _ _ _ _ _ _ _ _ _ _ _ _ _ _ _ _ _ _ _ _ _ _ _ _ _ _ _ _ _ _ _ _ _ _ _ _ _ _ _ _ _ _ _ _ _ _ _ _ _ _ _ _ _ _ _ _ _ _ _ _ _ _ _ _ _ _ _ _ _ _ _ _ _ _ _ _ _ _ _ _ _ _ => T.length - (intOf hh).toNat)
  case atStart => exact ⟨0, by omega, rfl, HSg4.out⟩
  case round =>
    obtain ⟨h, hh, rfl, HSg⟩ := hrel
    have q0 : wr.cell? ⟨w.heap.size, 0, none⟩ = some (.slice ao T.length cap) := by rw [cell_of HSg.out.gx]; rfl
    by_cases hhT : h < T.length
    · have k1 : (h : Int) < (T.length : Int) := by omega
      obtain ⟨b, off, so, sc, rfl, hs6, hall⟩ := HTh.out h hhT
      obtain ⟨wo, hwo⟩ : ∃ wo, wo = wr := ⟨_, rfl⟩
      subst hwo
      obtain ⟨t, HtA⟩ : ∃ t, Hid (thAt T h = t) := ⟨_, rfl⟩
      rw [HtA.out] at hs6 hall
      obtain ⟨⟨r0, r1, r2, r3, r4⟩, _⟩ := hall wo HSg.out.kw
      have HAll : Hid _ := hall
      clear hall
      obtain ⟨wk, HwkE⟩ : ∃ wk, Hid (wkN t = wk) := ⟨_, rfl⟩
      have HDh : Hid _ := HDoc.out h hhT
      rw [HtA.out] at HDh
      obtain ⟨W5, HW5⟩ : ∃ X, Hid (X = wo.alloc (.cells #[.int .i64 t.kind, .int .i64 t.weak, .int .i64 t.arr, .slice so t.sl.length sc, .int .i64 t.fin] 43)) := ⟨_, rfl⟩
      have hA5 : Kept No wo W5 := by rw [HW5.out]; exact (Kept.refl _ _).alloc _
      have HSt5 : Hid (Su w T F L nb1 nb3 fb w4 (.cells #[.slice (some ⟨b, off, none⟩) T.length cap, .slice ro R.length rc] 25 (0, 0)) (.slice po pl pc) wo.heap.size (.cells #[.int .i64 t.kind, .int .i64 t.weak, .int .i64 t.arr, .slice so t.sl.length sc, .int .i64 t.fin] 43 (0, 0)) (clrTo T F L h) W5) := ⟨HSg.out.no hA5, by rw [HW5.out]; exact World.alloc_heap_new wo _⟩
      have HCw5 : Hid (Calls Try.prog 39 #[AT t (.slice so t.sl.length sc)] W5 fun e w' => e = .returned (.int .i64 wk) ∧ Kept No W5 w') := by
        have := RWeak_any t so t.sl.length sc W5
        rw [HwkE.out] at this
        exact this
      have y0 : W5.cell? ⟨wo.heap.size, 0, none⟩ = some (.int .i64 t.kind) := by rw [cell_of HSt5.out.tbx]; rfl
      have y1 : W5.cell? ⟨wo.heap.size, 1, none⟩ = some (.int .i64 t.weak) := by rw [cell_of HSt5.out.tbx]; rfl
      have y2 : W5.cell? ⟨wo.heap.size, 2, none⟩ = some (.int .i64 t.arr) := by rw [cell_of HSt5.out.tbx]; rfl
      have y3 : W5.cell? ⟨wo.heap.size, 3, none⟩ = some (.slice so t.sl.length sc) := by rw [cell_of HSt5.out.tbx]; rfl
      have y4 : W5.cell? ⟨wo.heap.size, 4, none⟩ = some (.int .i64 t.fin) := by rw [cell_of HSt5.out.tbx]; rfl
      clear hA5
      go_wp2_with (first | rw [← HW5.out])
      refine Calls.mono HCw5.out ?_
      rintro e W6 ⟨rfl, hk6⟩
      have HSt6 : Hid _ := HSt5.out.no hk6
      clear hk6 HSt5 HCw5 HW5 y0 y1 y2 y3 y4 r0 r1 r2 r3 r4 HSg q0
      generalize wo.heap.size = tb at HSt6 ⊢
      go_wp2_with fail
      go_loopw [10, 11, 12, 13, 39, 40, 41, 42, 43, 44, 45, 46, 47, 48, 49, 50, 51, 52, 53, 54, 55, 56, 57, 58, 59, 60, 61, 62, 63, 64, 65, 66, 67, 68, 69, 70, 71, 72, 73, 74, 75, 76, 77, 78, 79, 80, 81, 82, 83, 84, 85, 86, 87, 88, 89, 90, 91, 92, 93, 94, 95, 96, 97, 98, 99, 100, 101, 102, 103, 104, 105, 106, 107, 108, 109, 110, 111, 112, 113, 114, 115, 116, 117, 118, 119, 120, 121, 122, 123, 124, 125, 126, 127, 128, 129, 130, 131, 132, 133, 134, 135, 136] (fun ii _ _ _ _ _ _ _ _ _ _ _ _ _ _ _ _ _ _ _ _ _ _ _ _ _ _ _ _ _ _ _ _ _ _ _ _ _ _ _ _ _ _ _ _ _ _ _ _ _ _ _ _ _ _ _ _ _ _ _ _ _ _ _ _ _ _ _ _ _ _ _ _ _ _ _ _ _ _ _ _ _ _ _ _ _ _ _ _ _ _ _ _ _ _ _ _ _ _ _ _ _ wr => ∃ i : Nat, 1 ≤ i ∧ (i = 1 ∨ (L.getD h true = true ∧ isWk t = true ∧ i ≤ t.sl.length)) ∧ ii = .int .i64 i ∧ Hid (Su w T F L nb1 nb3 fb w4 (.cells #[.slice (some ⟨b, off, none⟩) T.length cap, .slice ro R.length rc] 25 (0, 0)) (.slice po pl pc) tb (.cells #[.int .i64 t.kind, .int .i64 t.weak, .int .i64 t.arr, .slice so t.sl.length sc, .int .i64 t.fin] 43 (0, 0)) (clrTo T F L h ++ dJ T F L h i) wr)) (fun ii _ _ _ _ _ _ _ _ _ _ _ _ _ _ _ _ _ _ _ _ _ _ _ _ _ _ _ _ _ _ _ _ _ _ _ _ _ _ _ _ _ _ _ _ _ _ _ _ _ _ _ _ _ _ _ _ _ _ _ _ _ _ _ _ _ _ _ _ _ _ _ _ _ _ _ _ _ _ _ _ _ _ _ _ _ _ _ _ _ _ _ _ _ _ _ _ _ _ _ _ _ _ => t.sl.length + 1 - (intOf ii).toNat)
      case atStart => exact ⟨1, by omega, .inl rfl, rfl, by rw [dJ_one, List.append_nil]; exact HSt6.out⟩
      case round =>
        obtain ⟨i, hi1, hii, rfl, HS⟩ := hrel
        have z5 : wr.cell? ⟨nb3, h, none⟩ = some (.bool (L.getD h true)) := by rw [cell_of HS.out.lx]; exact bc_get _ _ (by rw [HL0.out]; exact hhT)
        have y0 : wr.cell? ⟨tb, 0, none⟩ = some (.int .i64 t.kind) := by rw [cell_of HS.out.tbx]; rfl
        have y1 : wr.cell? ⟨tb, 1, none⟩ = some (.int .i64 t.weak) := by rw [cell_of HS.out.tbx]; rfl
        have y2 : wr.cell? ⟨tb, 2, none⟩ = some (.int .i64 t.arr) := by rw [cell_of HS.out.tbx]; rfl
        have y3 : wr.cell? ⟨tb, 3, none⟩ = some (.slice so t.sl.length sc) := by rw [cell_of HS.out.tbx]; rfl
        have y4 : wr.cell? ⟨tb, 4, none⟩ = some (.int .i64 t.fin) := by rw [cell_of HS.out.tbx]; rfl
        have HgT : Hid (L.getD h false = L.getD h true) := getD_tf (by rw [HL0.out]; exact hhT) false true
        have HDj0 : Hid (dJ T F L h 0 = []) := rfl
        obtain ⟨lh, Hlh⟩ : ∃ lh, Hid (L.getD h true = lh) := ⟨_, rfl⟩
        rw [Hlh.out] at z5 HgT HDh
        have hiL : lh = true → isWk t = true → i ≤ t.sl.length ∨ i = 1 := fun _ _ => by rcases hii with e | ⟨_, _, e⟩; exact .inr e; exact .inl e
        have hib : (lh = false ∨ isWk t = false) → i = 1 := fun hq => by
          rcases hii with e | ⟨e1, e2, _⟩
          · exact e
          · rw [Hlh.out] at e1; rw [e1, e2] at hq; rcases hq with h | h <;> cases h
        cases lh
        · have he : clrTo T F L (h + 1) = clrTo T F L h ++ dJ T F L h i := by
            rw [hib (.inl rfl), dJ_one, clrTo, clrOf_none (by rw [HgT.out]; rfl)]
          clear hii hiL hib HDh HgT HDj0
          go_wp2_with fail
          go_roundw
          case rel => exact ⟨h + 1, by omega, by go_num, by show Sg _ _ _ _ _ _ _ _ _ _ _ _; rw [he]; exact HS.out.toSg⟩
          case measure => simp [intOf]; omega
        rcases wkN_cases t with ⟨hwk0, e0⟩ | ⟨hwk1, e0, hwv⟩
        · have xw0 : ¬ (0 : Int) < wk := by rw [← HwkE.out]; omega
          have he : clrTo T F L (h + 1) = clrTo T F L h ++ dJ T F L h i := by
            rw [hib (.inr hwk0), dJ_one, clrTo, clrOf_none (by rw [HtA.out, hwk0, Bool.and_false])]
          clear hii hiL hib HDh HgT HDj0
          go_wp2_with fail
          go_roundw
          case rel => exact ⟨h + 1, by omega, by go_num, by show Sg _ _ _ _ _ _ _ _ _ _ _ _; rw [he]; exact HS.out.toSg⟩
          case measure => simp [intOf]; omega
        have xw0 : (0 : Int) < wk := by rw [← HwkE.out]; omega
        by_cases hil : i < t.sl.length
        · obtain ⟨bo, off2, hso, HSl0⟩ : ∃ bo off2, so = some ⟨bo, off2, none⟩ ∧ Hid (∀ X, Kept No w X → ∀ j (hj : j < t.sl.length), X.cell? ⟨bo, off2 + j * 2, none⟩ = some (.int .i64 (t.sl.getD j (0, 0)).1) ∧ X.cell? ⟨bo, off2 + j * 2 + 1, none⟩ = some (.int .i64 (t.sl.getD j (0, 0)).2)) := by
            obtain ⟨so', sc', e, hv⟩ := (HAll.out w (Kept.refl _ _)).2
            injection e with e1 e2 e3
            rw [← e1] at hv
            obtain ⟨bo, off2, e, _, _⟩ := hv i hil
            refine ⟨bo, off2, e, fun X hX j hj => ?_⟩
            have hq : t.sl.getD j (0, 0) = t.sl[j] := by simp [List.getD, hj]
            rw [hq]
            obtain ⟨so', sc', e', hv⟩ := (HAll.out X hX).2
            injection e' with e1' e2' e3'
            rw [← e1'] at hv
            obtain ⟨bo', off2', e'', h1, h2⟩ := hv j hj
            rw [e] at e''; cases e''; exact ⟨h1, h2⟩
          subst hso
          clear hib hiL hii HgT HDj0 HDh
          have k3 : (i : Int) < (t.sl.length : Int) := by omega
          obtain ⟨v, Hv⟩ : ∃ v, Hid (t.sl.getD i (0, 0) = v) := ⟨_, rfl⟩
          obtain ⟨ky, Hky⟩ : ∃ ky, Hid (keyN t i = ky) := ⟨_, rfl⟩
          have HCk : Hid (Calls Try.prog 23 #[AT t (.slice (some ⟨bo, off2, none⟩) t.sl.length sc), .int .i64 i] wr fun e w' => e = .returned (.int .i64 ky) ∧ Kept No wr w') := by
            have := RKeyOf_any t (some ⟨bo, off2, none⟩) sc i (by omega) (by omega) wr
            rw [Hky.out] at this
            exact this
          have HDg : Hid (dG T F L h i = (decide (¬ ky = -2) && (dV T F L h i || dK T L h i))) := by show _ = _; unfold dG; rw [HtA.out, Hky.out, decide_eq_true hi1, Bool.true_and]
          have HdV : Hid (dV T F L h i = (decide (2 ≤ wk) && (held T v && (!L.getD (ix v) true || (F.getD h true && !F.getD (ix v) true))))) := by show _ = _; unfold dV; rw [HtA.out, HwkE.out, Hv.out]
          have HdK : Hid (dK T L h i = (decide (¬ wk = 2) && (decide (0 ≤ ky) && (held T (t.sl.getD ky.toNat (0, 0)) && !L.getD (ix (t.sl.getD ky.toNat (0, 0))) true)))) := by show _ = _; unfold dK; rw [HtA.out, HwkE.out, Hky.out]
          generalize dV T F L h i = gv at HDg HdV
          generalize dK T L h i = gk at HDg HdK
          go_wp2_with fail
          refine Calls.mono HCk.out ?_
          rintro e Y1 ⟨rfl, hY1⟩
          have HY : Hid (Su w T F L nb1 nb3 fb w4 (.cells #[.slice (some ⟨b, off, none⟩) T.length cap, .slice ro R.length rc] 25 (0, 0)) (.slice po pl pc) tb (.cells #[.int .i64 t.kind, .int .i64 t.weak, .int .i64 t.arr, .slice (some ⟨bo, off2, none⟩) t.sl.length sc, .int .i64 t.fin] 43 (0, 0)) (clrTo T F L h ++ dJ T F L h i) Y1) := HS.out.no hY1
          clear hY1 HCk y0 y1 y2 y3 y4 z5
          by_cases hk2 : ky = -2
          · have xk2 : (ky == -2) = true := by simp [hk2]
            have hno : dG T F L h i = false := by rw [HDg.out, decide_eq_false (by simp [hk2])]; rfl
            clear HDg HdV HdK
            go_wp2_with fail
            go_roundw
            case rel => exact ⟨i + 1, by omega, .inr ⟨Hlh.out, hwk1, by omega⟩, by go_num, by show Su _ _ _ _ _ _ _ _ _ _ _ _ _ _; rw [dJ_no hno]; exact HY.out⟩
            case measure => simp [intOf]; omega
          have xk2 : (ky == -2) = false := by simp [hk2]
          go_upto_region 16 with fail
          go_cut [71] (fun c wx => c = .bool (decide (2 ≤ wk) && held T v) ∧ Kept No Y1 wx)
          case first =>
            as_aux_lemma =>
              have HCw : Hid (∀ X, Kept No Y1 X → X.cell? ⟨w.heap.size, 0, none⟩ = some (.slice (some ⟨b, off, none⟩) T.length cap) ∧ X.cell? ⟨w.heap.size, 1, none⟩ = some (.slice ro R.length rc) ∧ X.cell? ⟨tb, 3, none⟩ = some (.slice (some ⟨bo, off2, none⟩) t.sl.length sc)) := fun X hX => by
                have q1 := hX.heap HY.out.gx id
                have q2 := hX.heap HY.out.tbx id
                exact ⟨by rw [cell_of q1]; rfl, by rw [cell_of q1]; rfl, by rw [cell_of q2]; rfl⟩
              have HKY : Hid (Kept No w Y1) := HY.out.kw
              have HSv : Hid (∀ X, Kept No Y1 X → X.cell? ⟨bo, off2 + i * 2, none⟩ = some (.int .i64 v.1) ∧ X.cell? ⟨bo, off2 + i * 2 + 1, none⟩ = some (.int .i64 v.2)) := fun X hX => by have := HSl0.out X (HKY.out.trans hX) i hil; rw [Hv.out] at this; exact this
              by_cases xw : 2 ≤ wk
              · cases xh : held T v
                · refine region_quiet_class (C := fun w' => Kept No Y1 w') mixed (by kernel_rfl) (Kept.refl _ _).drew ?_
                  refine q_op (.int .i64 wk) (by kernel_rfl) (fun W1 hW1 => by simp [go_sem]) ?_
                  try simp only [Act.put, List.setIfInBounds_toArray, List.set_cons_zero, List.set_cons_succ, List.getElem_toArray, List.getElem_cons_zero, List.getElem_cons_succ]
                  refine q_op (.bool true) (by kernel_rfl) (fun W1 hW1 => by simp [go_sem, xw]) ?_
                  try simp only [Act.put, List.setIfInBounds_toArray, List.set_cons_zero, List.set_cons_succ, List.getElem_toArray, List.getElem_cons_zero, List.getElem_cons_succ]
                  refine q_op (.bool true) (by kernel_rfl) (fun W1 hW1 => by simp [go_sem]) ?_
                  try simp only [Act.put, List.setIfInBounds_toArray, List.set_cons_zero, List.set_cons_succ, List.getElem_toArray, List.getElem_cons_zero, List.getElem_cons_succ]
                  refine q_op (AG (some ⟨b, off, none⟩) T.length cap ro R.length rc) (by kernel_rfl) (fun W1 hW1 => by obtain ⟨a0, a1, a2⟩ := HCw.out W1 hW1; simp [go_sem, a0, a1]) ?_
                  try simp only [Act.put, List.setIfInBounds_toArray, List.set_cons_zero, List.set_cons_succ, List.getElem_toArray, List.getElem_cons_zero, List.getElem_cons_succ]
                  refine q_op (.pointer (some ⟨tb, 3, none⟩)) (by kernel_rfl) (fun W1 hW1 => by simp [go_sem]) ?_
                  try simp only [Act.put, List.setIfInBounds_toArray, List.set_cons_zero, List.set_cons_succ, List.getElem_toArray, List.getElem_cons_zero, List.getElem_cons_succ]
                  refine q_op (.slice (some ⟨bo, off2, none⟩) t.sl.length sc) (by kernel_rfl) (fun W1 hW1 => by obtain ⟨a0, a1, a2⟩ := HCw.out W1 hW1; simp [go_sem, a2]) ?_
                  try simp only [Act.put, List.setIfInBounds_toArray, List.set_cons_zero, List.set_cons_succ, List.getElem_toArray, List.getElem_cons_zero, List.getElem_cons_succ]
                  refine q_op (.int .i64 i) (by kernel_rfl) (fun W1 hW1 => by simp [go_sem]) ?_
                  try simp only [Act.put, List.setIfInBounds_toArray, List.set_cons_zero, List.set_cons_succ, List.getElem_toArray, List.getElem_cons_zero, List.getElem_cons_succ]
                  refine q_op (.pointer (some ⟨bo, off2 + i * 2, none⟩)) (by kernel_rfl) (fun W1 hW1 => by simp [go_sem, k3]) ?_
                  try simp only [Act.put, List.setIfInBounds_toArray, List.set_cons_zero, List.set_cons_succ, List.getElem_toArray, List.getElem_cons_zero, List.getElem_cons_succ]
                  refine q_op (AV v) (by kernel_rfl) (fun W1 hW1 => by obtain ⟨a3, a4⟩ := HSv.out W1 hW1; simp [go_sem, a3, a4]) ?_
                  try simp only [Act.put, List.setIfInBounds_toArray, List.set_cons_zero, List.set_cons_succ, List.getElem_toArray, List.getElem_cons_zero, List.getElem_cons_succ]
                  refine q_call 24 #[AG (some ⟨b, off, none⟩) T.length cap ro R.length rc, AV v] (.bool false) (by kernel_rfl) (fun W1 hW1 => by simp [go_sem]) (fun W1 hW1 => by have := HWk.out W1 (HKY.out.trans hW1) v; rw [xh] at this; exact this.mono (fun e w' ⟨h1, h2⟩ => ⟨h1, hW1.trans h2⟩)) ?_
                  try simp only [Act.put, List.setIfInBounds_toArray, List.set_cons_zero, List.set_cons_succ, List.getElem_toArray, List.getElem_cons_zero, List.getElem_cons_succ]
                  refine q_op (.bool false) (by kernel_rfl) (fun W1 hW1 => by simp [go_sem]) ?_
                  try simp only [Act.put, List.setIfInBounds_toArray, List.set_cons_zero, List.set_cons_succ, List.getElem_toArray, List.getElem_cons_zero, List.getElem_cons_succ]
                  refine wpQuiet_nil ?_
                  intro Y9 hY9
                  go_wp2_with fail
                  go_meet
                  exact ⟨by rw [xh]; simp, hY9⟩
                · refine region_quiet_class (C := fun w' => Kept No Y1 w') mixed (by kernel_rfl) (Kept.refl _ _).drew ?_
                  refine q_op (.int .i64 wk) (by kernel_rfl) (fun W1 hW1 => by simp [go_sem]) ?_
                  try simp only [Act.put, List.setIfInBounds_toArray, List.set_cons_zero, List.set_cons_succ, List.getElem_toArray, List.getElem_cons_zero, List.getElem_cons_succ]
                  refine q_op (.bool true) (by kernel_rfl) (fun W1 hW1 => by simp [go_sem, xw]) ?_
                  try simp only [Act.put, List.setIfInBounds_toArray, List.set_cons_zero, List.set_cons_succ, List.getElem_toArray, List.getElem_cons_zero, List.getElem_cons_succ]
                  refine q_op (.bool true) (by kernel_rfl) (fun W1 hW1 => by simp [go_sem]) ?_
                  try simp only [Act.put, List.setIfInBounds_toArray, List.set_cons_zero, List.set_cons_succ, List.getElem_toArray, List.getElem_cons_zero, List.getElem_cons_succ]
                  refine q_op (AG (some ⟨b, off, none⟩) T.length cap ro R.length rc) (by kernel_rfl) (fun W1 hW1 => by obtain ⟨a0, a1, a2⟩ := HCw.out W1 hW1; simp [go_sem, a0, a1]) ?_
                  try simp only [Act.put, List.setIfInBounds_toArray, List.set_cons_zero, List.set_cons_succ, List.getElem_toArray, List.getElem_cons_zero, List.getElem_cons_succ]
                  refine q_op (.pointer (some ⟨tb, 3, none⟩)) (by kernel_rfl) (fun W1 hW1 => by simp [go_sem]) ?_
                  try simp only [Act.put, List.setIfInBounds_toArray, List.set_cons_zero, List.set_cons_succ, List.getElem_toArray, List.getElem_cons_zero, List.getElem_cons_succ]
                  refine q_op (.slice (some ⟨bo, off2, none⟩) t.sl.length sc) (by kernel_rfl) (fun W1 hW1 => by obtain ⟨a0, a1, a2⟩ := HCw.out W1 hW1; simp [go_sem, a2]) ?_
                  try simp only [Act.put, List.setIfInBounds_toArray, List.set_cons_zero, List.set_cons_succ, List.getElem_toArray, List.getElem_cons_zero, List.getElem_cons_succ]
                  refine q_op (.int .i64 i) (by kernel_rfl) (fun W1 hW1 => by simp [go_sem]) ?_
                  try simp only [Act.put, List.setIfInBounds_toArray, List.set_cons_zero, List.set_cons_succ, List.getElem_toArray, List.getElem_cons_zero, List.getElem_cons_succ]
                  refine q_op (.pointer (some ⟨bo, off2 + i * 2, none⟩)) (by kernel_rfl) (fun W1 hW1 => by simp [go_sem, k3]) ?_
                  try simp only [Act.put, List.setIfInBounds_toArray, List.set_cons_zero, List.set_cons_succ, List.getElem_toArray, List.getElem_cons_zero, List.getElem_cons_succ]
                  refine q_op (AV v) (by kernel_rfl) (fun W1 hW1 => by obtain ⟨a3, a4⟩ := HSv.out W1 hW1; simp [go_sem, a3, a4]) ?_
                  try simp only [Act.put, List.setIfInBounds_toArray, List.set_cons_zero, List.set_cons_succ, List.getElem_toArray, List.getElem_cons_zero, List.getElem_cons_succ]
                  refine q_call 24 #[AG (some ⟨b, off, none⟩) T.length cap ro R.length rc, AV v] (.bool true) (by kernel_rfl) (fun W1 hW1 => by simp [go_sem]) (fun W1 hW1 => by have := HWk.out W1 (HKY.out.trans hW1) v; rw [xh] at this; exact this.mono (fun e w' ⟨h1, h2⟩ => ⟨h1, hW1.trans h2⟩)) ?_
                  try simp only [Act.put, List.setIfInBounds_toArray, List.set_cons_zero, List.set_cons_succ, List.getElem_toArray, List.getElem_cons_zero, List.getElem_cons_succ]
                  refine q_op (.bool true) (by kernel_rfl) (fun W1 hW1 => by simp [go_sem]) ?_
                  try simp only [Act.put, List.setIfInBounds_toArray, List.set_cons_zero, List.set_cons_succ, List.getElem_toArray, List.getElem_cons_zero, List.getElem_cons_succ]
                  refine wpQuiet_nil ?_
                  intro Y9 hY9
                  go_wp2_with fail
                  go_meet
                  exact ⟨by rw [xh, decide_eq_true xw]; rfl, hY9⟩
              · refine region_quiet_class (C := fun w' => Kept No Y1 w') mixed (by kernel_rfl) (Kept.refl _ _).drew ?_
                refine q_op (.int .i64 wk) (by kernel_rfl) (fun W1 hW1 => by simp [go_sem]) ?_
                try simp only [Act.put, List.setIfInBounds_toArray, List.set_cons_zero, List.set_cons_succ, List.getElem_toArray, List.getElem_cons_zero, List.getElem_cons_succ]
                refine q_op (.bool false) (by kernel_rfl) (fun W1 hW1 => by simp [go_sem, xw]) ?_
                try simp only [Act.put, List.setIfInBounds_toArray, List.set_cons_zero, List.set_cons_succ, List.getElem_toArray, List.getElem_cons_zero, List.getElem_cons_succ]
                refine q_op (.bool false) (by kernel_rfl) (fun W1 hW1 => by simp [go_sem]) ?_
                try simp only [Act.put, List.setIfInBounds_toArray, List.set_cons_zero, List.set_cons_succ, List.getElem_toArray, List.getElem_cons_zero, List.getElem_cons_succ]
                go_big_quiet_skip
                try simp only [Act.put, List.setIfInBounds_toArray, List.set_cons_zero, List.set_cons_succ, List.getElem_toArray, List.getElem_cons_zero, List.getElem_cons_succ]
                go_big_quiet_skip
                try simp only [Act.put, List.setIfInBounds_toArray, List.set_cons_zero, List.set_cons_succ, List.getElem_toArray, List.getElem_cons_zero, List.getElem_cons_succ]
                go_big_quiet_skip
                try simp only [Act.put, List.setIfInBounds_toArray, List.set_cons_zero, List.set_cons_succ, List.getElem_toArray, List.getElem_cons_zero, List.getElem_cons_succ]
                go_big_quiet_skip
                try simp only [Act.put, List.setIfInBounds_toArray, List.set_cons_zero, List.set_cons_succ, List.getElem_toArray, List.getElem_cons_zero, List.getElem_cons_succ]
                go_big_quiet_skip
                try simp only [Act.put, List.setIfInBounds_toArray, List.set_cons_zero, List.set_cons_succ, List.getElem_toArray, List.getElem_cons_zero, List.getElem_cons_succ]
                go_big_quiet_skip
                try simp only [Act.put, List.setIfInBounds_toArray, List.set_cons_zero, List.set_cons_succ, List.getElem_toArray, List.getElem_cons_zero, List.getElem_cons_succ]
                go_big_quiet_skip
                try simp only [Act.put, List.setIfInBounds_toArray, List.set_cons_zero, List.set_cons_succ, List.getElem_toArray, List.getElem_cons_zero, List.getElem_cons_succ]
                refine q_op (.bool false) (by kernel_rfl) (fun W1 hW1 => by simp [go_sem]) ?_
                try simp only [Act.put, List.setIfInBounds_toArray, List.set_cons_zero, List.set_cons_succ, List.getElem_toArray, List.getElem_cons_zero, List.getElem_cons_succ]
                refine wpQuiet_nil ?_
                intro Y9 hY9
                go_wp2_with fail
                go_meet
                exact ⟨by rw [show decide (2 ≤ wk) = false from decide_eq_false (by omega)]; rfl, hY9⟩
          case rest =>
            obtain ⟨rfl, hY2⟩ := hcut
            obtain ⟨Y2, hYe⟩ : ∃ Y2, Y2 = wc := ⟨_, rfl⟩
            subst hYe
            have HY2 : Hid (Su w T F L nb1 nb3 fb w4 (.cells #[.slice (some ⟨b, off, none⟩) T.length cap, .slice ro R.length rc] 25 (0, 0)) (.slice po pl pc) tb (.cells #[.int .i64 t.kind, .int .i64 t.weak, .int .i64 t.arr, .slice (some ⟨bo, off2, none⟩) t.sl.length sc, .int .i64 t.fin] 43 (0, 0)) (clrTo T F L h ++ dJ T F L h i) Y2) := HY.out.no hY2
            clear hY2 HY
            have HY := HY2
            clear HY2
            obtain ⟨bq, Hbq⟩ : ∃ bq, Hid ((decide (2 ≤ wk) && held T v) = bq) := ⟨_, rfl⟩
            rw [Hbq.out]
            go_upto_if 71 with fail
            go_cut [12] (fun c wx => c = .bool gv ∧ Kept No Y2 wx)
            case first =>
              as_aux_lemma =>
                have HCw : Hid (∀ X, Kept No Y2 X → X.cell? ⟨w.heap.size, 0, none⟩ = some (.slice (some ⟨b, off, none⟩) T.length cap) ∧ X.cell? ⟨w.heap.size, 1, none⟩ = some (.slice ro R.length rc) ∧ X.cell? ⟨tb, 3, none⟩ = some (.slice (some ⟨bo, off2, none⟩) t.sl.length sc)) := fun X hX => by
                  have q1 := hX.heap HY.out.gx id
                  have q2 := hX.heap HY.out.tbx id
                  exact ⟨by rw [cell_of q1]; rfl, by rw [cell_of q1]; rfl, by rw [cell_of q2]; rfl⟩
                have HKY : Hid (Kept No w Y2) := HY.out.kw
                have HSv : Hid (∀ X, Kept No Y2 X → X.cell? ⟨bo, off2 + i * 2, none⟩ = some (.int .i64 v.1) ∧ X.cell? ⟨bo, off2 + i * 2 + 1, none⟩ = some (.int .i64 v.2)) := fun X hX => by have := HSl0.out X (HKY.out.trans hX) i hil; rw [Hv.out] at this; exact this
                have HLv : Hid (∀ X, Kept No Y2 X → ∀ j, j < T.length → X.cell? ⟨nb3, j, none⟩ = some (.bool (L.getD j true))) := fun X hX j hj => by
                  rw [cell_of (hX.heap HY.out.lx id)]; exact bc_get _ _ (by rw [HL0.out]; exact hj)
                have HFv : Hid (∀ X, Kept No Y2 X → ∀ j, j < T.length → X.cell? ⟨nb1, j, none⟩ = some (.bool (F.getD j true))) := fun X hX j hj => by
                  rw [cell_of (hX.heap HY.out.fx id)]; exact bc_get _ _ (by rw [HF0.out]; exact hj)
                cases bq
                · have hgv : gv = false := by rw [HdV.out, ← Bool.and_assoc, Hbq.out]; rfl
                  clear HCw HSv HLv HFv
                  go_wp2_with fail
                  go_meet
                  exact ⟨by rw [hgv], Kept.refl _ _⟩
                · have xw : 2 ≤ wk := by have := Hbq.out; simp at this; exact this.1
                  have xh : held T v = true := by have := Hbq.out; simp at this; exact this.2
                  obtain ⟨xlN, xg1, xg2⟩ := held_lt xh
                  have xo : objN T v = (ix v : Int) + 1 := by unfold objN; rw [if_pos (held_obj xh)]; unfold ix; omega
                  have xl : (ix v : Int) < (T.length : Int) := by omega
                  have hgv : gv = (!L.getD (ix v) true || (F.getD h true && !F.getD (ix v) true)) := by rw [HdV.out, xh, decide_eq_true xw]; simp
                  have z1 : (h : Int) < (T.length : Int) := by omega
                  go_wp2_with fail
                  refine region_quiet_class (C := fun w' => Kept No Y2 w') mixed (by kernel_rfl) (Kept.refl _ _).drew ?_
                  refine q_op (AG (some ⟨b, off, none⟩) T.length cap ro R.length rc) (by kernel_rfl) (fun W1 hW1 => by obtain ⟨a0, a1, a2⟩ := HCw.out W1 hW1; simp [go_sem, a0, a1]) ?_
                  try simp only [Act.put, List.setIfInBounds_toArray, List.set_cons_zero, List.set_cons_succ, List.getElem_toArray, List.getElem_cons_zero, List.getElem_cons_succ]
                  refine q_op (.pointer (some ⟨tb, 3, none⟩)) (by kernel_rfl) (fun W1 hW1 => by simp [go_sem]) ?_
                  try simp only [Act.put, List.setIfInBounds_toArray, List.set_cons_zero, List.set_cons_succ, List.getElem_toArray, List.getElem_cons_zero, List.getElem_cons_succ]
                  refine q_op (.slice (some ⟨bo, off2, none⟩) t.sl.length sc) (by kernel_rfl) (fun W1 hW1 => by obtain ⟨a0, a1, a2⟩ := HCw.out W1 hW1; simp [go_sem, a2]) ?_
                  try simp only [Act.put, List.setIfInBounds_toArray, List.set_cons_zero, List.set_cons_succ, List.getElem_toArray, List.getElem_cons_zero, List.getElem_cons_succ]
                  refine q_op (.int .i64 i) (by kernel_rfl) (fun W1 hW1 => by simp [go_sem]) ?_
                  try simp only [Act.put, List.setIfInBounds_toArray, List.set_cons_zero, List.set_cons_succ, List.getElem_toArray, List.getElem_cons_zero, List.getElem_cons_succ]
                  refine q_op (.pointer (some ⟨bo, off2 + i * 2, none⟩)) (by kernel_rfl) (fun W1 hW1 => by simp [go_sem, k3]) ?_
                  try simp only [Act.put, List.setIfInBounds_toArray, List.set_cons_zero, List.set_cons_succ, List.getElem_toArray, List.getElem_cons_zero, List.getElem_cons_succ]
                  refine q_op (AV v) (by kernel_rfl) (fun W1 hW1 => by obtain ⟨a3, a4⟩ := HSv.out W1 hW1; simp [go_sem, a3, a4]) ?_
                  try simp only [Act.put, List.setIfInBounds_toArray, List.set_cons_zero, List.set_cons_succ, List.getElem_toArray, List.getElem_cons_zero, List.getElem_cons_succ]
                  refine q_call 21 #[AG (some ⟨b, off, none⟩) T.length cap ro R.length rc, AV v] (.int .i64 ((ix v : Int) + 1)) (by kernel_rfl) (fun W1 hW1 => by simp [go_sem]) (fun W1 hW1 => by have := HOb.out W1 (HKY.out.trans hW1) v; rw [xo] at this; exact this.mono (fun e w' ⟨h1, h2⟩ => ⟨h1, hW1.trans h2⟩)) ?_
                  try simp only [Act.put, List.setIfInBounds_toArray, List.set_cons_zero, List.set_cons_succ, List.getElem_toArray, List.getElem_cons_zero, List.getElem_cons_succ]
                  refine q_op (.int .i64 (ix v : Int)) (by kernel_rfl) (fun W1 hW1 => by simp [go_sem]; rw [IntKind.wrap_i64]; omega) ?_
                  try simp only [Act.put, List.setIfInBounds_toArray, List.set_cons_zero, List.set_cons_succ, List.getElem_toArray, List.getElem_cons_zero, List.getElem_cons_succ]
                  refine q_op (.int .i64 (ix v : Int)) (by kernel_rfl) (fun W1 hW1 => by simp [go_sem]) ?_
                  try simp only [Act.put, List.setIfInBounds_toArray, List.set_cons_zero, List.set_cons_succ, List.getElem_toArray, List.getElem_cons_zero, List.getElem_cons_succ]
                  refine wpQuiet_nil ?_
                  intro Y9 hY9
                  have z2 := HLv.out Y9 hY9 (ix v) xlN
                  have z3 := HFv.out Y9 hY9 h hhT
                  have z4 := HFv.out Y9 hY9 (ix v) xlN
                  generalize L.getD (ix v) true = l1 at z2 hgv
                  generalize F.getD (ix v) true = f1 at z4 hgv
                  generalize F.getD h true = f2 at z3 hgv
                  clear HCw HSv HLv HFv
                  cases l1
                  · go_wp2_with fail
                    go_meet
                    exact ⟨by rw [hgv]; rfl, hY9⟩
                  · cases f2
                    · go_wp2_with fail
                      go_meet
                      exact ⟨by rw [hgv]; rfl, hY9⟩
                    · go_wp2_with fail
                      go_meet
                      exact ⟨by rw [hgv]; cases f1 <;> rfl, hY9⟩
            case rest =>
              obtain ⟨rfl, hY3⟩ := hcut
              obtain ⟨Y3, hYe⟩ : ∃ Y3, Y3 = wc := ⟨_, rfl⟩
              subst hYe
              have HY3 : Hid (Su w T F L nb1 nb3 fb w4 (.cells #[.slice (some ⟨b, off, none⟩) T.length cap, .slice ro R.length rc] 25 (0, 0)) (.slice po pl pc) tb (.cells #[.int .i64 t.kind, .int .i64 t.weak, .int .i64 t.arr, .slice (some ⟨bo, off2, none⟩) t.sl.length sc, .int .i64 t.fin] 43 (0, 0)) (clrTo T F L h ++ dJ T F L h i) Y3) := HY.out.no hY3
              clear hY3 HY
              have HY := HY3
              clear HY3
              go_upto_region 19 with fail
              go_cut [126] (fun c wx => c = .bool gk ∧ Kept No Y3 wx)
              case first =>
                as_aux_lemma =>
                  have HCw : Hid (∀ X, Kept No Y3 X → X.cell? ⟨w.heap.size, 0, none⟩ = some (.slice (some ⟨b, off, none⟩) T.length cap) ∧ X.cell? ⟨w.heap.size, 1, none⟩ = some (.slice ro R.length rc) ∧ X.cell? ⟨tb, 3, none⟩ = some (.slice (some ⟨bo, off2, none⟩) t.sl.length sc)) := fun X hX => by
                    have q1 := hX.heap HY.out.gx id
                    have q2 := hX.heap HY.out.tbx id
                    exact ⟨by rw [cell_of q1]; rfl, by rw [cell_of q1]; rfl, by rw [cell_of q2]; rfl⟩
                  have HKY : Hid (Kept No w Y3) := HY.out.kw
                  have HLv : Hid (∀ X, Kept No Y3 X → ∀ j, j < T.length → X.cell? ⟨nb3, j, none⟩ = some (.bool (L.getD j true))) := fun X hX j hj => by
                    rw [cell_of (hX.heap HY.out.lx id)]; exact bc_get _ _ (by rw [HL0.out]; exact hj)
                  by_cases xw2 : wk = 2
                  · refine region_quiet_class (C := fun w' => Kept No Y3 w') mixed (by kernel_rfl) (Kept.refl _ _).drew ?_
                    refine q_op (.int .i64 wk) (by kernel_rfl) (fun W1 hW1 => by simp [go_sem]) ?_
                    try simp only [Act.put, List.setIfInBounds_toArray, List.set_cons_zero, List.set_cons_succ, List.getElem_toArray, List.getElem_cons_zero, List.getElem_cons_succ]
                    refine q_op (.bool false) (by kernel_rfl) (fun W1 hW1 => by simp [go_sem, xw2]) ?_
                    try simp only [Act.put, List.setIfInBounds_toArray, List.set_cons_zero, List.set_cons_succ, List.getElem_toArray, List.getElem_cons_zero, List.getElem_cons_succ]
                    refine q_op (.bool false) (by kernel_rfl) (fun W1 hW1 => by simp [go_sem]) ?_
                    try simp only [Act.put, List.setIfInBounds_toArray, List.set_cons_zero, List.set_cons_succ, List.getElem_toArray, List.getElem_cons_zero, List.getElem_cons_succ]
                    go_big_quiet_skip
                    try simp only [Act.put, List.setIfInBounds_toArray, List.set_cons_zero, List.set_cons_succ, List.getElem_toArray, List.getElem_cons_zero, List.getElem_cons_succ]
                    go_big_quiet_skip
                    try simp only [Act.put, List.setIfInBounds_toArray, List.set_cons_zero, List.set_cons_succ, List.getElem_toArray, List.getElem_cons_zero, List.getElem_cons_succ]
                    refine q_op (.bool false) (by kernel_rfl) (fun W1 hW1 => by simp [go_sem]) ?_
                    try simp only [Act.put, List.setIfInBounds_toArray, List.set_cons_zero, List.set_cons_succ, List.getElem_toArray, List.getElem_cons_zero, List.getElem_cons_succ]
                    refine q_op (.bool false) (by kernel_rfl) (fun W1 hW1 => by simp [go_sem]) ?_
                    try simp only [Act.put, List.setIfInBounds_toArray, List.set_cons_zero, List.set_cons_succ, List.getElem_toArray, List.getElem_cons_zero, List.getElem_cons_succ]
                    go_big_quiet_skip
                    try simp only [Act.put, List.setIfInBounds_toArray, List.set_cons_zero, List.set_cons_succ, List.getElem_toArray, List.getElem_cons_zero, List.getElem_cons_succ]
                    go_big_quiet_skip
                    try simp only [Act.put, List.setIfInBounds_toArray, List.set_cons_zero, List.set_cons_succ, List.getElem_toArray, List.getElem_cons_zero, List.getElem_cons_succ]
                    go_big_quiet_skip
                    try simp only [Act.put, List.setIfInBounds_toArray, List.set_cons_zero, List.set_cons_succ, List.getElem_toArray, List.getElem_cons_zero, List.getElem_cons_succ]
                    go_big_quiet_skip
                    try simp only [Act.put, List.setIfInBounds_toArray, List.set_cons_zero, List.set_cons_succ, List.getElem_toArray, List.getElem_cons_zero, List.getElem_cons_succ]
                    go_big_quiet_skip
                    try simp only [Act.put, List.setIfInBounds_toArray, List.set_cons_zero, List.set_cons_succ, List.getElem_toArray, List.getElem_cons_zero, List.getElem_cons_succ]
                    go_big_quiet_skip
                    try simp only [Act.put, List.setIfInBounds_toArray, List.set_cons_zero, List.set_cons_succ, List.getElem_toArray, List.getElem_cons_zero, List.getElem_cons_succ]
                    go_big_quiet_skip
                    try simp only [Act.put, List.setIfInBounds_toArray, List.set_cons_zero, List.set_cons_succ, List.getElem_toArray, List.getElem_cons_zero, List.getElem_cons_succ]
                    refine q_op (.bool false) (by kernel_rfl) (fun W1 hW1 => by simp [go_sem]) ?_
                    try simp only [Act.put, List.setIfInBounds_toArray, List.set_cons_zero, List.set_cons_succ, List.getElem_toArray, List.getElem_cons_zero, List.getElem_cons_succ]
                    refine q_op (.bool false) (by kernel_rfl) (fun W1 hW1 => by simp [go_sem]) ?_
                    try simp only [Act.put, List.setIfInBounds_toArray, List.set_cons_zero, List.set_cons_succ, List.getElem_toArray, List.getElem_cons_zero, List.getElem_cons_succ]
                    go_big_quiet_skip
                    try simp only [Act.put, List.setIfInBounds_toArray, List.set_cons_zero, List.set_cons_succ, List.getElem_toArray, List.getElem_cons_zero, List.getElem_cons_succ]
                    go_big_quiet_skip
                    try simp only [Act.put, List.setIfInBounds_toArray, List.set_cons_zero, List.set_cons_succ, List.getElem_toArray, List.getElem_cons_zero, List.getElem_cons_succ]
                    go_big_quiet_skip
                    try simp only [Act.put, List.setIfInBounds_toArray, List.set_cons_zero, List.set_cons_succ, List.getElem_toArray, List.getElem_cons_zero, List.getElem_cons_succ]
                    go_big_quiet_skip
                    try simp only [Act.put, List.setIfInBounds_toArray, List.set_cons_zero, List.set_cons_succ, List.getElem_toArray, List.getElem_cons_zero, List.getElem_cons_succ]
                    go_big_quiet_skip
                    try simp only [Act.put, List.setIfInBounds_toArray, List.set_cons_zero, List.set_cons_succ, List.getElem_toArray, List.getElem_cons_zero, List.getElem_cons_succ]
                    go_big_quiet_skip
                    try simp only [Act.put, List.setIfInBounds_toArray, List.set_cons_zero, List.set_cons_succ, List.getElem_toArray, List.getElem_cons_zero, List.getElem_cons_succ]
                    go_big_quiet_skip
                    try simp only [Act.put, List.setIfInBounds_toArray, List.set_cons_zero, List.set_cons_succ, List.getElem_toArray, List.getElem_cons_zero, List.getElem_cons_succ]
                    go_big_quiet_skip
                    try simp only [Act.put, List.setIfInBounds_toArray, List.set_cons_zero, List.set_cons_succ, List.getElem_toArray, List.getElem_cons_zero, List.getElem_cons_succ]
                    go_big_quiet_skip
                    try simp only [Act.put, List.setIfInBounds_toArray, List.set_cons_zero, List.set_cons_succ, List.getElem_toArray, List.getElem_cons_zero, List.getElem_cons_succ]
                    go_big_quiet_skip
                    try simp only [Act.put, List.setIfInBounds_toArray, List.set_cons_zero, List.set_cons_succ, List.getElem_toArray, List.getElem_cons_zero, List.getElem_cons_succ]
                    go_big_quiet_skip
                    try simp only [Act.put, List.setIfInBounds_toArray, List.set_cons_zero, List.set_cons_succ, List.getElem_toArray, List.getElem_cons_zero, List.getElem_cons_succ]
                    go_big_quiet_skip
                    try simp only [Act.put, List.setIfInBounds_toArray, List.set_cons_zero, List.set_cons_succ, List.getElem_toArray, List.getElem_cons_zero, List.getElem_cons_succ]
                    refine q_op (.bool false) (by kernel_rfl) (fun W1 hW1 => by simp [go_sem]) ?_
                    try simp only [Act.put, List.setIfInBounds_toArray, List.set_cons_zero, List.set_cons_succ, List.getElem_toArray, List.getElem_cons_zero, List.getElem_cons_succ]
                    refine wpQuiet_nil ?_
                    intro Y9 hY9
                    go_wp2_with fail
                    go_meet
                    exact ⟨by rw [HdK.out]; simp [xw2], hY9⟩
                  · rcases keyN_cases hil (by omega) with hq | hq | hq
                    · obtain rfl : ky = -1 := Hky.out.symm.trans hq
                      refine region_quiet_class (C := fun w' => Kept No Y3 w') mixed (by kernel_rfl) (Kept.refl _ _).drew ?_
                      refine q_op (.int .i64 wk) (by kernel_rfl) (fun W1 hW1 => by simp [go_sem]) ?_
                      try simp only [Act.put, List.setIfInBounds_toArray, List.set_cons_zero, List.set_cons_succ, List.getElem_toArray, List.getElem_cons_zero, List.getElem_cons_succ]
                      refine q_op (.bool true) (by kernel_rfl) (fun W1 hW1 => by simp [go_sem, xw2]) ?_
                      try simp only [Act.put, List.setIfInBounds_toArray, List.set_cons_zero, List.set_cons_succ, List.getElem_toArray, List.getElem_cons_zero, List.getElem_cons_succ]
                      refine q_op (.bool true) (by kernel_rfl) (fun W1 hW1 => by simp [go_sem]) ?_
                      try simp only [Act.put, List.setIfInBounds_toArray, List.set_cons_zero, List.set_cons_succ, List.getElem_toArray, List.getElem_cons_zero, List.getElem_cons_succ]
                      refine q_op (.int .i64 (-1)) (by kernel_rfl) (fun W1 hW1 => by simp [go_sem]) ?_
                      try simp only [Act.put, List.setIfInBounds_toArray, List.set_cons_zero, List.set_cons_succ, List.getElem_toArray, List.getElem_cons_zero, List.getElem_cons_succ]
                      refine q_op (.bool false) (by kernel_rfl) (fun W1 hW1 => by simp [go_sem]) ?_
                      try simp only [Act.put, List.setIfInBounds_toArray, List.set_cons_zero, List.set_cons_succ, List.getElem_toArray, List.getElem_cons_zero, List.getElem_cons_succ]
                      refine q_op (.bool false) (by kernel_rfl) (fun W1 hW1 => by simp [go_sem]) ?_
                      try simp only [Act.put, List.setIfInBounds_toArray, List.set_cons_zero, List.set_cons_succ, List.getElem_toArray, List.getElem_cons_zero, List.getElem_cons_succ]
                      refine q_op (.bool false) (by kernel_rfl) (fun W1 hW1 => by simp [go_sem]) ?_
                      try simp only [Act.put, List.setIfInBounds_toArray, List.set_cons_zero, List.set_cons_succ, List.getElem_toArray, List.getElem_cons_zero, List.getElem_cons_succ]
                      go_big_quiet_skip
                      try simp only [Act.put, List.setIfInBounds_toArray, List.set_cons_zero, List.set_cons_succ, List.getElem_toArray, List.getElem_cons_zero, List.getElem_cons_succ]
                      go_big_quiet_skip
                      try simp only [Act.put, List.setIfInBounds_toArray, List.set_cons_zero, List.set_cons_succ, List.getElem_toArray, List.getElem_cons_zero, List.getElem_cons_succ]
                      go_big_quiet_skip
                      try simp only [Act.put, List.setIfInBounds_toArray, List.set_cons_zero, List.set_cons_succ, List.getElem_toArray, List.getElem_cons_zero, List.getElem_cons_succ]
                      go_big_quiet_skip
                      try simp only [Act.put, List.setIfInBounds_toArray, List.set_cons_zero, List.set_cons_succ, List.getElem_toArray, List.getElem_cons_zero, List.getElem_cons_succ]
                      go_big_quiet_skip
                      try simp only [Act.put, List.setIfInBounds_toArray, List.set_cons_zero, List.set_cons_succ, List.getElem_toArray, List.getElem_cons_zero, List.getElem_cons_succ]
                      go_big_quiet_skip
                      try simp only [Act.put, List.setIfInBounds_toArray, List.set_cons_zero, List.set_cons_succ, List.getElem_toArray, List.getElem_cons_zero, List.getElem_cons_succ]
                      go_big_quiet_skip
                      try simp only [Act.put, List.setIfInBounds_toArray, List.set_cons_zero, List.set_cons_succ, List.getElem_toArray, List.getElem_cons_zero, List.getElem_cons_succ]
                      refine q_op (.bool false) (by kernel_rfl) (fun W1 hW1 => by simp [go_sem]) ?_
                      try simp only [Act.put, List.setIfInBounds_toArray, List.set_cons_zero, List.set_cons_succ, List.getElem_toArray, List.getElem_cons_zero, List.getElem_cons_succ]
                      refine q_op (.bool false) (by kernel_rfl) (fun W1 hW1 => by simp [go_sem]) ?_
                      try simp only [Act.put, List.setIfInBounds_toArray, List.set_cons_zero, List.set_cons_succ, List.getElem_toArray, List.getElem_cons_zero, List.getElem_cons_succ]
                      go_big_quiet_skip
                      try simp only [Act.put, List.setIfInBounds_toArray, List.set_cons_zero, List.set_cons_succ, List.getElem_toArray, List.getElem_cons_zero, List.getElem_cons_succ]
                      go_big_quiet_skip
                      try simp only [Act.put, List.setIfInBounds_toArray, List.set_cons_zero, List.set_cons_succ, List.getElem_toArray, List.getElem_cons_zero, List.getElem_cons_succ]
                      go_big_quiet_skip
                      try simp only [Act.put, List.setIfInBounds_toArray, List.set_cons_zero, List.set_cons_succ, List.getElem_toArray, List.getElem_cons_zero, List.getElem_cons_succ]
                      go_big_quiet_skip
                      try simp only [Act.put, List.setIfInBounds_toArray, List.set_cons_zero, List.set_cons_succ, List.getElem_toArray, List.getElem_cons_zero, List.getElem_cons_succ]
                      go_big_quiet_skip
                      try simp only [Act.put, List.setIfInBounds_toArray, List.set_cons_zero, List.set_cons_succ, List.getElem_toArray, List.getElem_cons_zero, List.getElem_cons_succ]
                      go_big_quiet_skip
                      try simp only [Act.put, List.setIfInBounds_toArray, List.set_cons_zero, List.set_cons_succ, List.getElem_toArray, List.getElem_cons_zero, List.getElem_cons_succ]
                      go_big_quiet_skip
                      try simp only [Act.put, List.setIfInBounds_toArray, List.set_cons_zero, List.set_cons_succ, List.getElem_toArray, List.getElem_cons_zero, List.getElem_cons_succ]
                      go_big_quiet_skip
                      try simp only [Act.put, List.setIfInBounds_toArray, List.set_cons_zero, List.set_cons_succ, List.getElem_toArray, List.getElem_cons_zero, List.getElem_cons_succ]
                      go_big_quiet_skip
                      try simp only [Act.put, List.setIfInBounds_toArray, List.set_cons_zero, List.set_cons_succ, List.getElem_toArray, List.getElem_cons_zero, List.getElem_cons_succ]
                      go_big_quiet_skip
                      try simp only [Act.put, List.setIfInBounds_toArray, List.set_cons_zero, List.set_cons_succ, List.getElem_toArray, List.getElem_cons_zero, List.getElem_cons_succ]
                      go_big_quiet_skip
                      try simp only [Act.put, List.setIfInBounds_toArray, List.set_cons_zero, List.set_cons_succ, List.getElem_toArray, List.getElem_cons_zero, List.getElem_cons_succ]
                      go_big_quiet_skip
                      try simp only [Act.put, List.setIfInBounds_toArray, List.set_cons_zero, List.set_cons_succ, List.getElem_toArray, List.getElem_cons_zero, List.getElem_cons_succ]
                      refine q_op (.bool false) (by kernel_rfl) (fun W1 hW1 => by simp [go_sem]) ?_
                      try simp only [Act.put, List.setIfInBounds_toArray, List.set_cons_zero, List.set_cons_succ, List.getElem_toArray, List.getElem_cons_zero, List.getElem_cons_succ]
                      refine wpQuiet_nil ?_
                      intro Y9 hY9
                      go_wp2_with fail
                      go_meet
                      exact ⟨by rw [HdK.out]; simp, hY9⟩
                    · exact absurd (Hky.out.symm.trans hq) hk2
                    · obtain ⟨kk, hkk⟩ : ∃ kk, kk = i - 1 := ⟨_, rfl⟩
                      rw [← hkk] at hq
                      have hkl : kk < t.sl.length := by omega
                      obtain rfl : ky = (kk : Int) := Hky.out.symm.trans hq
                      rw [Int.toNat_natCast] at HdK
                      obtain ⟨kv, Hkv⟩ : ∃ kv, Hid (t.sl.getD kk (0, 0) = kv) := ⟨_, rfl⟩
                      rw [Hkv.out] at HdK
                      have k4 : (kk : Int) < (t.sl.length : Int) := by omega
                      have xk : (0 : Int) ≤ (kk : Int) := by omega
                      clear hkk
                      have HSkv : Hid (∀ X, Kept No Y3 X → X.cell? ⟨bo, off2 + kk * 2, none⟩ = some (.int .i64 kv.1) ∧ X.cell? ⟨bo, off2 + kk * 2 + 1, none⟩ = some (.int .i64 kv.2)) := fun X hX => by have := HSl0.out X (HKY.out.trans hX) kk hkl; rw [Hkv.out] at this; exact this
                      cases xh2 : held T kv
                      · refine region_quiet_class (C := fun w' => Kept No Y3 w') mixed (by kernel_rfl) (Kept.refl _ _).drew ?_
                        refine q_op (.int .i64 wk) (by kernel_rfl) (fun W1 hW1 => by simp [go_sem]) ?_
                        try simp only [Act.put, List.setIfInBounds_toArray, List.set_cons_zero, List.set_cons_succ, List.getElem_toArray, List.getElem_cons_zero, List.getElem_cons_succ]
                        refine q_op (.bool true) (by kernel_rfl) (fun W1 hW1 => by simp [go_sem, xw2]) ?_
                        try simp only [Act.put, List.setIfInBounds_toArray, List.set_cons_zero, List.set_cons_succ, List.getElem_toArray, List.getElem_cons_zero, List.getElem_cons_succ]
                        refine q_op (.bool true) (by kernel_rfl) (fun W1 hW1 => by simp [go_sem]) ?_
                        try simp only [Act.put, List.setIfInBounds_toArray, List.set_cons_zero, List.set_cons_succ, List.getElem_toArray, List.getElem_cons_zero, List.getElem_cons_succ]
                        refine q_op (.int .i64 (kk : Int)) (by kernel_rfl) (fun W1 hW1 => by simp [go_sem]) ?_
                        try simp only [Act.put, List.setIfInBounds_toArray, List.set_cons_zero, List.set_cons_succ, List.getElem_toArray, List.getElem_cons_zero, List.getElem_cons_succ]
                        refine q_op (.bool true) (by kernel_rfl) (fun W1 hW1 => by simp [go_sem, xk]) ?_
                        try simp only [Act.put, List.setIfInBounds_toArray, List.set_cons_zero, List.set_cons_succ, List.getElem_toArray, List.getElem_cons_zero, List.getElem_cons_succ]
                        refine q_op (.bool true) (by kernel_rfl) (fun W1 hW1 => by simp [go_sem]) ?_
                        try simp only [Act.put, List.setIfInBounds_toArray, List.set_cons_zero, List.set_cons_succ, List.getElem_toArray, List.getElem_cons_zero, List.getElem_cons_succ]
                        refine q_op (.bool true) (by kernel_rfl) (fun W1 hW1 => by simp [go_sem]) ?_
                        try simp only [Act.put, List.setIfInBounds_toArray, List.set_cons_zero, List.set_cons_succ, List.getElem_toArray, List.getElem_cons_zero, List.getElem_cons_succ]
                        refine q_op (AG (some ⟨b, off, none⟩) T.length cap ro R.length rc) (by kernel_rfl) (fun W1 hW1 => by obtain ⟨a0, a1, a2⟩ := HCw.out W1 hW1; simp [go_sem, a0, a1]) ?_
                        try simp only [Act.put, List.setIfInBounds_toArray, List.set_cons_zero, List.set_cons_succ, List.getElem_toArray, List.getElem_cons_zero, List.getElem_cons_succ]
                        refine q_op (.pointer (some ⟨tb, 3, none⟩)) (by kernel_rfl) (fun W1 hW1 => by simp [go_sem]) ?_
                        try simp only [Act.put, List.setIfInBounds_toArray, List.set_cons_zero, List.set_cons_succ, List.getElem_toArray, List.getElem_cons_zero, List.getElem_cons_succ]
                        refine q_op (.slice (some ⟨bo, off2, none⟩) t.sl.length sc) (by kernel_rfl) (fun W1 hW1 => by obtain ⟨a0, a1, a2⟩ := HCw.out W1 hW1; simp [go_sem, a2]) ?_
                        try simp only [Act.put, List.setIfInBounds_toArray, List.set_cons_zero, List.set_cons_succ, List.getElem_toArray, List.getElem_cons_zero, List.getElem_cons_succ]
                        refine q_op (.int .i64 kk) (by kernel_rfl) (fun W1 hW1 => by simp [go_sem]) ?_
                        try simp only [Act.put, List.setIfInBounds_toArray, List.set_cons_zero, List.set_cons_succ, List.getElem_toArray, List.getElem_cons_zero, List.getElem_cons_succ]
                        refine q_op (.pointer (some ⟨bo, off2 + kk * 2, none⟩)) (by kernel_rfl) (fun W1 hW1 => by simp [go_sem, k4]) ?_
                        try simp only [Act.put, List.setIfInBounds_toArray, List.set_cons_zero, List.set_cons_succ, List.getElem_toArray, List.getElem_cons_zero, List.getElem_cons_succ]
                        refine q_op (AV kv) (by kernel_rfl) (fun W1 hW1 => by obtain ⟨a3, a4⟩ := HSkv.out W1 hW1; simp [go_sem, a3, a4]) ?_
                        try simp only [Act.put, List.setIfInBounds_toArray, List.set_cons_zero, List.set_cons_succ, List.getElem_toArray, List.getElem_cons_zero, List.getElem_cons_succ]
                        refine q_call 24 #[AG (some ⟨b, off, none⟩) T.length cap ro R.length rc, AV kv] (.bool false) (by kernel_rfl) (fun W1 hW1 => by simp [go_sem]) (fun W1 hW1 => by have := HWk.out W1 (HKY.out.trans hW1) kv; rw [xh2] at this; exact this.mono (fun e w' ⟨h1, h2⟩ => ⟨h1, hW1.trans h2⟩)) ?_
                        try simp only [Act.put, List.setIfInBounds_toArray, List.set_cons_zero, List.set_cons_succ, List.getElem_toArray, List.getElem_cons_zero, List.getElem_cons_succ]
                        refine q_op (.bool false) (by kernel_rfl) (fun W1 hW1 => by simp [go_sem]) ?_
                        try simp only [Act.put, List.setIfInBounds_toArray, List.set_cons_zero, List.set_cons_succ, List.getElem_toArray, List.getElem_cons_zero, List.getElem_cons_succ]
                        refine q_op (.bool false) (by kernel_rfl) (fun W1 hW1 => by simp [go_sem]) ?_
                        try simp only [Act.put, List.setIfInBounds_toArray, List.set_cons_zero, List.set_cons_succ, List.getElem_toArray, List.getElem_cons_zero, List.getElem_cons_succ]
                        go_big_quiet_skip
                        try simp only [Act.put, List.setIfInBounds_toArray, List.set_cons_zero, List.set_cons_succ, List.getElem_toArray, List.getElem_cons_zero, List.getElem_cons_succ]
                        go_big_quiet_skip
                        try simp only [Act.put, List.setIfInBounds_toArray, List.set_cons_zero, List.set_cons_succ, List.getElem_toArray, List.getElem_cons_zero, List.getElem_cons_succ]
                        go_big_quiet_skip
                        try simp only [Act.put, List.setIfInBounds_toArray, List.set_cons_zero, List.set_cons_succ, List.getElem_toArray, List.getElem_cons_zero, List.getElem_cons_succ]
                        go_big_quiet_skip
                        try simp only [Act.put, List.setIfInBounds_toArray, List.set_cons_zero, List.set_cons_succ, List.getElem_toArray, List.getElem_cons_zero, List.getElem_cons_succ]
                        go_big_quiet_skip
                        try simp only [Act.put, List.setIfInBounds_toArray, List.set_cons_zero, List.set_cons_succ, List.getElem_toArray, List.getElem_cons_zero, List.getElem_cons_succ]
                        go_big_quiet_skip
                        try simp only [Act.put, List.setIfInBounds_toArray, List.set_cons_zero, List.set_cons_succ, List.getElem_toArray, List.getElem_cons_zero, List.getElem_cons_succ]
                        go_big_quiet_skip
                        try simp only [Act.put, List.setIfInBounds_toArray, List.set_cons_zero, List.set_cons_succ, List.getElem_toArray, List.getElem_cons_zero, List.getElem_cons_succ]
                        go_big_quiet_skip
                        try simp only [Act.put, List.setIfInBounds_toArray, List.set_cons_zero, List.set_cons_succ, List.getElem_toArray, List.getElem_cons_zero, List.getElem_cons_succ]
                        go_big_quiet_skip
                        try simp only [Act.put, List.setIfInBounds_toArray, List.set_cons_zero, List.set_cons_succ, List.getElem_toArray, List.getElem_cons_zero, List.getElem_cons_succ]
                        go_big_quiet_skip
                        try simp only [Act.put, List.setIfInBounds_toArray, List.set_cons_zero, List.set_cons_succ, List.getElem_toArray, List.getElem_cons_zero, List.getElem_cons_succ]
                        go_big_quiet_skip
                        try simp only [Act.put, List.setIfInBounds_toArray, List.set_cons_zero, List.set_cons_succ, List.getElem_toArray, List.getElem_cons_zero, List.getElem_cons_succ]
                        go_big_quiet_skip
                        try simp only [Act.put, List.setIfInBounds_toArray, List.set_cons_zero, List.set_cons_succ, List.getElem_toArray, List.getElem_cons_zero, List.getElem_cons_succ]
                        refine q_op (.bool false) (by kernel_rfl) (fun W1 hW1 => by simp [go_sem]) ?_
                        try simp only [Act.put, List.setIfInBounds_toArray, List.set_cons_zero, List.set_cons_succ, List.getElem_toArray, List.getElem_cons_zero, List.getElem_cons_succ]
                        refine wpQuiet_nil ?_
                        intro Y9 hY9
                        go_wp2_with fail
                        go_meet
                        exact ⟨by rw [HdK.out, xh2]; simp, hY9⟩
                      · obtain ⟨xlN2, xg3, xg4⟩ := held_lt xh2
                        have xo2 : objN T kv = (ix kv : Int) + 1 := by unfold objN; rw [if_pos (held_obj xh2)]; unfold ix; omega
                        have xl2 : (ix kv : Int) < (T.length : Int) := by omega
                        refine region_quiet_class (C := fun w' => Kept No Y3 w') mixed (by kernel_rfl) (Kept.refl _ _).drew ?_
                        refine q_op (.int .i64 wk) (by kernel_rfl) (fun W1 hW1 => by simp [go_sem]) ?_
                        try simp only [Act.put, List.setIfInBounds_toArray, List.set_cons_zero, List.set_cons_succ, List.getElem_toArray, List.getElem_cons_zero, List.getElem_cons_succ]
                        refine q_op (.bool true) (by kernel_rfl) (fun W1 hW1 => by simp [go_sem, xw2]) ?_
                        try simp only [Act.put, List.setIfInBounds_toArray, List.set_cons_zero, List.set_cons_succ, List.getElem_toArray, List.getElem_cons_zero, List.getElem_cons_succ]
                        refine q_op (.bool true) (by kernel_rfl) (fun W1 hW1 => by simp [go_sem]) ?_
                        try simp only [Act.put, List.setIfInBounds_toArray, List.set_cons_zero, List.set_cons_succ, List.getElem_toArray, List.getElem_cons_zero, List.getElem_cons_succ]
                        refine q_op (.int .i64 (kk : Int)) (by kernel_rfl) (fun W1 hW1 => by simp [go_sem]) ?_
                        try simp only [Act.put, List.setIfInBounds_toArray, List.set_cons_zero, List.set_cons_succ, List.getElem_toArray, List.getElem_cons_zero, List.getElem_cons_succ]
                        refine q_op (.bool true) (by kernel_rfl) (fun W1 hW1 => by simp [go_sem, xk]) ?_
                        try simp only [Act.put, List.setIfInBounds_toArray, List.set_cons_zero, List.set_cons_succ, List.getElem_toArray, List.getElem_cons_zero, List.getElem_cons_succ]
                        refine q_op (.bool true) (by kernel_rfl) (fun W1 hW1 => by simp [go_sem]) ?_
                        try simp only [Act.put, List.setIfInBounds_toArray, List.set_cons_zero, List.set_cons_succ, List.getElem_toArray, List.getElem_cons_zero, List.getElem_cons_succ]
                        refine q_op (.bool true) (by kernel_rfl) (fun W1 hW1 => by simp [go_sem]) ?_
                        try simp only [Act.put, List.setIfInBounds_toArray, List.set_cons_zero, List.set_cons_succ, List.getElem_toArray, List.getElem_cons_zero, List.getElem_cons_succ]
                        refine q_op (AG (some ⟨b, off, none⟩) T.length cap ro R.length rc) (by kernel_rfl) (fun W1 hW1 => by obtain ⟨a0, a1, a2⟩ := HCw.out W1 hW1; simp [go_sem, a0, a1]) ?_
                        try simp only [Act.put, List.setIfInBounds_toArray, List.set_cons_zero, List.set_cons_succ, List.getElem_toArray, List.getElem_cons_zero, List.getElem_cons_succ]
                        refine q_op (.pointer (some ⟨tb, 3, none⟩)) (by kernel_rfl) (fun W1 hW1 => by simp [go_sem]) ?_
                        try simp only [Act.put, List.setIfInBounds_toArray, List.set_cons_zero, List.set_cons_succ, List.getElem_toArray, List.getElem_cons_zero, List.getElem_cons_succ]
                        refine q_op (.slice (some ⟨bo, off2, none⟩) t.sl.length sc) (by kernel_rfl) (fun W1 hW1 => by obtain ⟨a0, a1, a2⟩ := HCw.out W1 hW1; simp [go_sem, a2]) ?_
                        try simp only [Act.put, List.setIfInBounds_toArray, List.set_cons_zero, List.set_cons_succ, List.getElem_toArray, List.getElem_cons_zero, List.getElem_cons_succ]
                        refine q_op (.int .i64 kk) (by kernel_rfl) (fun W1 hW1 => by simp [go_sem]) ?_
                        try simp only [Act.put, List.setIfInBounds_toArray, List.set_cons_zero, List.set_cons_succ, List.getElem_toArray, List.getElem_cons_zero, List.getElem_cons_succ]
                        refine q_op (.pointer (some ⟨bo, off2 + kk * 2, none⟩)) (by kernel_rfl) (fun W1 hW1 => by simp [go_sem, k4]) ?_
                        try simp only [Act.put, List.setIfInBounds_toArray, List.set_cons_zero, List.set_cons_succ, List.getElem_toArray, List.getElem_cons_zero, List.getElem_cons_succ]
                        refine q_op (AV kv) (by kernel_rfl) (fun W1 hW1 => by obtain ⟨a3, a4⟩ := HSkv.out W1 hW1; simp [go_sem, a3, a4]) ?_
                        try simp only [Act.put, List.setIfInBounds_toArray, List.set_cons_zero, List.set_cons_succ, List.getElem_toArray, List.getElem_cons_zero, List.getElem_cons_succ]
                        refine q_call 24 #[AG (some ⟨b, off, none⟩) T.length cap ro R.length rc, AV kv] (.bool true) (by kernel_rfl) (fun W1 hW1 => by simp [go_sem]) (fun W1 hW1 => by have := HWk.out W1 (HKY.out.trans hW1) kv; rw [xh2] at this; exact this.mono (fun e w' ⟨h1, h2⟩ => ⟨h1, hW1.trans h2⟩)) ?_
                        try simp only [Act.put, List.setIfInBounds_toArray, List.set_cons_zero, List.set_cons_succ, List.getElem_toArray, List.getElem_cons_zero, List.getElem_cons_succ]
                        refine q_op (.bool true) (by kernel_rfl) (fun W1 hW1 => by simp [go_sem]) ?_
                        try simp only [Act.put, List.setIfInBounds_toArray, List.set_cons_zero, List.set_cons_succ, List.getElem_toArray, List.getElem_cons_zero, List.getElem_cons_succ]
                        refine q_op (.bool true) (by kernel_rfl) (fun W1 hW1 => by simp [go_sem]) ?_
                        try simp only [Act.put, List.setIfInBounds_toArray, List.set_cons_zero, List.set_cons_succ, List.getElem_toArray, List.getElem_cons_zero, List.getElem_cons_succ]
                        refine q_op (SLN nb3 T.length) (by kernel_rfl) (fun W1 hW1 => by simp [go_sem]) ?_
                        try simp only [Act.put, List.setIfInBounds_toArray, List.set_cons_zero, List.set_cons_succ, List.getElem_toArray, List.getElem_cons_zero, List.getElem_cons_succ]
                        refine q_op (AG (some ⟨b, off, none⟩) T.length cap ro R.length rc) (by kernel_rfl) (fun W1 hW1 => by obtain ⟨a0, a1, a2⟩ := HCw.out W1 hW1; simp [go_sem, a0, a1]) ?_
                        try simp only [Act.put, List.setIfInBounds_toArray, List.set_cons_zero, List.set_cons_succ, List.getElem_toArray, List.getElem_cons_zero, List.getElem_cons_succ]
                        refine q_op (.pointer (some ⟨tb, 3, none⟩)) (by kernel_rfl) (fun W1 hW1 => by simp [go_sem]) ?_
                        try simp only [Act.put, List.setIfInBounds_toArray, List.set_cons_zero, List.set_cons_succ, List.getElem_toArray, List.getElem_cons_zero, List.getElem_cons_succ]
                        refine q_op (.slice (some ⟨bo, off2, none⟩) t.sl.length sc) (by kernel_rfl) (fun W1 hW1 => by obtain ⟨a0, a1, a2⟩ := HCw.out W1 hW1; simp [go_sem, a2]) ?_
                        try simp only [Act.put, List.setIfInBounds_toArray, List.set_cons_zero, List.set_cons_succ, List.getElem_toArray, List.getElem_cons_zero, List.getElem_cons_succ]
                        refine q_op (.int .i64 kk) (by kernel_rfl) (fun W1 hW1 => by simp [go_sem]) ?_
                        try simp only [Act.put, List.setIfInBounds_toArray, List.set_cons_zero, List.set_cons_succ, List.getElem_toArray, List.getElem_cons_zero, List.getElem_cons_succ]
                        refine q_op (.pointer (some ⟨bo, off2 + kk * 2, none⟩)) (by kernel_rfl) (fun W1 hW1 => by simp [go_sem, k4]) ?_
                        try simp only [Act.put, List.setIfInBounds_toArray, List.set_cons_zero, List.set_cons_succ, List.getElem_toArray, List.getElem_cons_zero, List.getElem_cons_succ]
                        refine q_op (AV kv) (by kernel_rfl) (fun W1 hW1 => by obtain ⟨a3, a4⟩ := HSkv.out W1 hW1; simp [go_sem, a3, a4]) ?_
                        try simp only [Act.put, List.setIfInBounds_toArray, List.set_cons_zero, List.set_cons_succ, List.getElem_toArray, List.getElem_cons_zero, List.getElem_cons_succ]
                        refine q_call 21 #[AG (some ⟨b, off, none⟩) T.length cap ro R.length rc, AV kv] (.int .i64 ((ix kv : Int) + 1)) (by kernel_rfl) (fun W1 hW1 => by simp [go_sem]) (fun W1 hW1 => by have := HOb.out W1 (HKY.out.trans hW1) kv; rw [xo2] at this; exact this.mono (fun e w' ⟨h1, h2⟩ => ⟨h1, hW1.trans h2⟩)) ?_
                        try simp only [Act.put, List.setIfInBounds_toArray, List.set_cons_zero, List.set_cons_succ, List.getElem_toArray, List.getElem_cons_zero, List.getElem_cons_succ]
                        refine q_op (.int .i64 (ix kv : Int)) (by kernel_rfl) (fun W1 hW1 => by simp [go_sem]; rw [IntKind.wrap_i64]; omega) ?_
                        try simp only [Act.put, List.setIfInBounds_toArray, List.set_cons_zero, List.set_cons_succ, List.getElem_toArray, List.getElem_cons_zero, List.getElem_cons_succ]
                        refine q_op (.pointer (some ⟨nb3, ix kv, none⟩)) (by kernel_rfl) (fun W1 hW1 => by simp [go_sem, xl2]) ?_
                        try simp only [Act.put, List.setIfInBounds_toArray, List.set_cons_zero, List.set_cons_succ, List.getElem_toArray, List.getElem_cons_zero, List.getElem_cons_succ]
                        refine q_op (.bool (L.getD (ix kv) true)) (by kernel_rfl) (fun W1 hW1 => by have a5 := HLv.out W1 hW1 (ix kv) xlN2; simp [go_sem, a5]) ?_
                        try simp only [Act.put, List.setIfInBounds_toArray, List.set_cons_zero, List.set_cons_succ, List.getElem_toArray, List.getElem_cons_zero, List.getElem_cons_succ]
                        refine q_op (.bool (!L.getD (ix kv) true)) (by kernel_rfl) (fun W1 hW1 => by simp [go_sem]) ?_
                        try simp only [Act.put, List.setIfInBounds_toArray, List.set_cons_zero, List.set_cons_succ, List.getElem_toArray, List.getElem_cons_zero, List.getElem_cons_succ]
                        refine q_op (.bool (!L.getD (ix kv) true)) (by kernel_rfl) (fun W1 hW1 => by simp [go_sem]) ?_
                        try simp only [Act.put, List.setIfInBounds_toArray, List.set_cons_zero, List.set_cons_succ, List.getElem_toArray, List.getElem_cons_zero, List.getElem_cons_succ]
                        refine wpQuiet_nil ?_
                        intro Y9 hY9
                        go_wp2_with fail
                        go_meet
                        exact ⟨by rw [HdK.out, xh2, decide_eq_true (show ¬ wk = 2 from xw2), decide_eq_true xk]; rfl, hY9⟩
              case rest =>
                obtain ⟨rfl, hY4⟩ := hcut
                obtain ⟨Y4, hYe⟩ : ∃ Y4, Y4 = wc := ⟨_, rfl⟩
                subst hYe
                have HY4 : Hid (Su w T F L nb1 nb3 fb w4 (.cells #[.slice (some ⟨b, off, none⟩) T.length cap, .slice ro R.length rc] 25 (0, 0)) (.slice po pl pc) tb (.cells #[.int .i64 t.kind, .int .i64 t.weak, .int .i64 t.arr, .slice (some ⟨bo, off2, none⟩) t.sl.length sc, .int .i64 t.fin] 43 (0, 0)) (clrTo T F L h ++ dJ T F L h i) Y4) := HY.out.no hY4
                clear hY4 HY
                have hdg : dG T F L h i = (gv || gk) := by rw [HDg.out, decide_eq_true hk2]; rfl
                clear HDg HdV HdK
                go_upto_if 126 with fail
                go_cut [12] (fun c wx => c = .bool (gv || gk) ∧ wx = Y4)
                case first =>
                  cases gk
                  · go_wp2_with fail
                    go_meet
                    exact ⟨by simp, rfl⟩
                  · go_wp2_with fail
                    go_meet
                    exact ⟨by simp, rfl⟩
                case rest =>
                  obtain ⟨rfl, hwc⟩ := hcut
                  subst hwc
                  cases hgg : (gv || gk)
                  · rw [hgg] at hdg
                    go_wp2_with fail
                    go_roundw
                    case rel => exact ⟨i + 1, by omega, .inr ⟨Hlh.out, hwk1, by omega⟩, by go_num, by show Su _ _ _ _ _ _ _ _ _ _ _ _ _ _; rw [dJ_no hdg]; exact HY4.out⟩
                    case measure => simp [intOf]; omega
                  · rw [hgg] at hdg
                    obtain ⟨eo, ec, hfx, hrow⟩ := HY4.out.row
                    have hlen : (clrTo T F L h ++ dJ T F L h i).length + 1 ≤ 1000000 := by
                      have := HCl.out h (by omega)
                      have := dJ_len T F L h i
                      rw [List.length_append]; omega
                    have s2 : wc.cell? ⟨fb, 2, none⟩ = some (.slice eo (clrTo T F L h ++ dJ T F L h i).length ec) := by rw [cell_of hfx]; rfl
                    have HRow : Hid (EnRow wc w4.heap.size (.slice eo (clrTo T F L h ++ dJ T F L h i).length ec) (clrTo T F L h ++ dJ T F L h i)) := hrow
                    have HFx : Hid _ := hfx
                    have hszc : w4.heap.size ≤ wc.heap.size := HY4.out.kf.size
                    clear hfx hrow
                    obtain ⟨Ls, HLs⟩ : ∃ Ls, Hid (clrTo T F L h ++ dJ T F L h i = Ls) := ⟨_, rfl⟩
                    rw [HLs.out] at s2 HRow HFx hlen HY4
                    go_wp2_with (refine app_ent rfl (.tmp 129) (.tmp 134) rfl w4.heap.size (.slice eo Ls.length ec) Ls rfl (World.ownsRow.alloc HRow.out _) wc.heap.size ((h : Int) + 1, (i : Int)) rfl (World.alloc_heap_new wc _) hlen (by simp; omega) ?_)
                    intro v' w9 hv hg
                    obtain ⟨eo', ec', rfl⟩ := hv.out.form
                    have hfx9 : w9.heap[fb]? = some (.cells #[SLN nb3 T.length, .slice po pl pc, .slice eo Ls.length ec] 37 (0, 0)) := by
                      rw [hg.out.block fb (by rw [World.size_alloc]; have := hp_lt HFx.out; omega) (fun e => ?_)]
                      · exact (Below.heap_alloc wc _ _ (hp_lt HFx.out)).trans HFx.out
                      · have := (HRow.out.block e.symm).1; omega
                    have s3 : w9.cell? ⟨fb, 2, none⟩ = some (.slice eo Ls.length ec) := by rw [cell_of hfx9]; rfl
                    have fz : ∀ o, w9.frozen? ⟨fb, o, none⟩ = false := fun o => frozen_of hfx9 o
                    have HFx9 : Hid _ := hfx9
                    clear hfx9
                    go_wp2_with fail
                    go_roundw
                    case rel =>
                      refine ⟨i + 1, by omega, .inr ⟨Hlh.out, hwk1, by omega⟩, by go_num, ?_⟩
                      show Su _ _ _ _ _ _ _ _ _ _ _ _ _ _
                      rw [dJ_yes hdg, ← List.append_assoc, HLs.out]
                      have h9 := HY4.out.app hfb4 hg.out HRow.out hv.out HFx9.out
                      rw [List.length_append] at h9
                      exact h9
                    case measure => simp [intOf]; omega
        · have he : clrTo T F L (h + 1) = clrTo T F L h ++ dJ T F L h i := by
            have hcl := HDh.out (by first | rfl | trivial) hwk1
            rw [clrTo, hcl]
            rcases Nat.eq_zero_or_pos t.sl.length with h0 | h0
            · have : i = 1 := by rcases hiL rfl hwk1 with h | h <;> omega
              rw [this, h0, dJ_one, HDj0.out]
            · have : i = t.sl.length := by rcases hiL rfl hwk1 with h | h <;> omega
              rw [this]
          have k3 : ¬ (i : Int) < (t.sl.length : Int) := by omega
          clear hii hiL hib HDh HgT HDj0
          go_wp2_with fail
          go_roundw
          case rel => exact ⟨h + 1, by omega, by go_num, by show Sg _ _ _ _ _ _ _ _ _ _ _ _; rw [he]; exact HS.out.toSg⟩
          case measure => simp [intOf]; omega
    · have k1 : ¬ (h : Int) < (T.length : Int) := by omega
      obtain rfl : h = T.length := by omega
      obtain ⟨eo, ec, hfx, hrow⟩ := HSg.out.row
      have hne : w.heap.size + 1 ≠ fb := by omega
      have hrb := HSg.out.kf.heap HB4.out hne
      have f0 : wr.cell? ⟨fb, 0, none⟩ = some (SLN nb3 T.length) := by rw [cell_of hfx]; rfl
      have f1 : wr.cell? ⟨fb, 1, none⟩ = some (.slice po pl pc) := by rw [cell_of hfx]; rfl
      have f2 : wr.cell? ⟨fb, 2, none⟩ = some (.slice eo (clrTo T F L T.length).length ec) := by rw [cell_of hfx]; rfl
      have c0 : wr.cell? ⟨w.heap.size + 1, 0, none⟩ = some (.slice none 0 0) := by rw [cell_of hrb]; rfl
      have c1 : wr.cell? ⟨w.heap.size + 1, 1, none⟩ = some (.slice none 0 0) := by rw [cell_of hrb]; rfl
      have c2 : wr.cell? ⟨w.heap.size + 1, 2, none⟩ = some (.slice none 0 0) := by rw [cell_of hrb]; rfl
      have fz : ∀ o, wr.frozen? ⟨w.heap.size + 1, o, none⟩ = false := fun o => frozen_of hrb o
      have HRb : Hid _ := hrb
      have HRow : Hid (EnRow wr w4.heap.size (.slice eo (clrTo T F L T.length).length ec) (clrTo T F L T.length)) := hrow
      have HIr : Hid (IRow wr W.heap.size (.slice po pl pc) (hdl D)) := by
        refine IRow.turn HI4.out (fun k hk => ?_)
        obtain ⟨_, c, hc⟩ := HI4.out.block hk
        rw [hc, HSg.out.kf.heap hc (fun e => ?_)]
        subst e
        have := HSg4.out.row
        obtain ⟨_, _, h4, _⟩ := this
        rw [hc] at h4; cases h4
      clear hrb hfx hrow
      generalize (clrTo T F L T.length).length = lne at f2 HRow
      go_wp2_with fail
      refine bodyPost_ret (v := .agg #[SLN nb3 T.length, .slice po pl pc, .slice eo lne ec]) (by simp [results, Try.results19, go_sem, c0, c1, c2]) rfl ?_
      have k3 : Kept (fun k => k = w.heap.size + 1) wr (((wr.setCell ⟨w.heap.size + 1, 0, none⟩ (SLN nb3 T.length)).setCell ⟨w.heap.size + 1, 1, none⟩ (.slice po pl pc)).setCell ⟨w.heap.size + 1, 2, none⟩ (.slice eo lne ec)) := by
        repeat refine Kept.set ?_ _ _ _ (.inl rfl)
        exact Kept.refl _ _
      refine ⟨_, _, _, rfl, D, HQ.out _ _ _ _ ⟨nb3, rfl, ?_, HPd.out, ?_, ?_, ?_⟩⟩
      · exact k3.heap HSg.out.lx (ne_ty HSg.out.lx HRb.out (by decide))
      · refine IRow.base (IRow.turn HIr.out (fun k hk => ?_)) HK.out.size
        obtain ⟨_, cc, hc⟩ := HIr.out.block hk
        rw [hc, k3.heap hc (ne_ty hc HRb.out (by decide))]
      · refine EnRow.base (EnRow.turn HRow.out (fun k hk => ?_)) (Nat.le_trans hfb4.2 (Nat.le_of_lt hfb4.1))
        obtain ⟨_, cc, hc⟩ := HRow.out.block hk
        rw [hc, k3.heap hc (ne_ty hc HRb.out (by decide))]
      · exact HSg.out.kw.trans' k3 (fun i e => .inr (by omega))
end Go.Proofs.Ytnofmpbdfcolfaa
