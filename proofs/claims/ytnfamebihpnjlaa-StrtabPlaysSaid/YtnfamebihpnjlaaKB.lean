/- renew, in the order of the puts. -/
import Derived.Test.YtnfamebihpnjlaaX5
import Derived.Test.YtnfamebihpnjlaaKA
namespace Go.Proofs.Ytnfamebihpnjlaa
open Go.RowKit Go.Shelf
set_option linter.unusedSimpArgs false
set_option linter.unusedVariables false
attribute [local go_sem] Oper.semAt_some

theorem okO_mem {L : List Ent} {ks : List Int} {x : Int} (h : OkO L ks x) : (∃ e ∈ L, e.h = x) ∧ ks.length + 1 ≤ L.length := by
  obtain ⟨rest, hp⟩ := h
  exact okH_mem ⟨rest, by rw [hp]⟩

set_option maxRecDepth 100000 in
set_option maxHeartbeats 2000000 in
theorem renew_ord {w : World} {B A C M n p nn : Nat} {vs : List Value} {L : List Ent} (h : Rep w B A C M n p nn vs L) (ho : Ord L) (hl : L.length ≤ 60000) {m : Nat} (m1 : 4 ≤ m) (m2 : m ≤ 100000) :
    Calls Try.prog 40 #[.pointer (some ⟨A, 0, none⟩), .int .i64 m] w fun e w' => e = .returned (.tuple #[]) ∧ ∃ C' vs', Rep w' B A C' M m p nn vs' L ∧ Kept (fun k => k = A ∨ k = M) w w' ∧ ∀ k, FP A C' M vs' k → k = A ∨ k = M ∨ w.heap.size ≤ k := by
  have HR : Hid (Rep w B A C M n p nn vs L) := h
  have hmk : ∀ w : World, (Instr.makeSlice 58 (.int .i64 (m : Int)) (.int .i64 (m : Int))).run Try.prog w = .ok (.slice (some ⟨w.heap.size, 0, none⟩) m m) (w.alloc (chO (List.replicate m nilS))) := fun w => run_mk m (by omega) w
  have HAl : Hid (A < w.heap.size ∧ M < w.heap.size) := ⟨hp_lt h.hA, h.map.lt⟩
  clear h
  refine (callsIn_wide (n := 6)).1 ?_
  refine callsIn_of_wp_marks Try.func40 rfl trivial ?_ rfl
  simp only [Try.ntmps40, List.size_toArray, List.length_cons, List.length_nil, Nat.reduceAdd, Nat.reduceSub, Array.replicate_succ, Array.replicate_zero, List.push_toArray, List.append_toArray, List.nil_append, List.cons_append]
  gi_wp2_with fail
  obtain ⟨W0, HW0⟩ : ∃ W0, Hid (W0 = w.alloc (.cells #[.pointer (some ⟨A, 0, none⟩)] 23)) := ⟨_, rfl⟩
  have HB0 : Hid (W0.heap[w.heap.size]? = some (.cells #[.pointer (some ⟨A, 0, none⟩)] 23 (0, 0))) := by show _ = _; rw [HW0.out]; exact World.alloc_heap_new w _
  have HK0 : Hid (Kept No w W0) := by show Kept _ _ _; rw [HW0.out]; exact (Kept.refl _ _).alloc _
  have hz0 : Hid (W0.heap.size = w.heap.size + 1) := by show _ = _; rw [HW0.out]; simp
  have c1 : W0.cell? ⟨w.heap.size, 0, none⟩ = some (.pointer (some ⟨A, 0, none⟩)) := by rw [cell_of HB0.out]; rfl
  have a0 := (tb_cells (HK0.out.heap HR.out.hA id)).1
  have f0 := tb_frozen (HK0.out.heap HR.out.hA id) 0
  rw [← HW0.out]
  have hne : ¬ A = W0.heap.size := by have := hz0.out; have := HAl.out.1; omega
  have hne' : A < W0.heap.size := by have := hz0.out; have := HAl.out.1; omega
  have hnb : ¬ w.heap.size = W0.heap.size := by have := hz0.out; omega
  have hnb' : w.heap.size < W0.heap.size := by have := hz0.out; omega
  have mixed : Try.prog.follows .mixedOrders = true := by kernel_rfl
  refine wpIn_wide.2 ?_
  go_big_region_o
  obtain ⟨C', HC'⟩ : ∃ C', Hid (W0.heap.size = C') := ⟨_, rfl⟩
  obtain ⟨W1, HW1⟩ : ∃ W1, Hid (W1 = ((W0.setCell ⟨A, 0, none⟩ (.slice (some ⟨W0.heap.size, 0, none⟩) m m)).alloc (chO (List.replicate m nilS))).drew) := ⟨_, rfl⟩
  rw [← HW1.out]
  have hs0 : (W0.setCell ⟨A, 0, none⟩ (.slice (some ⟨W0.heap.size, 0, none⟩) m m)).heap.size = W0.heap.size := by simp [World.setCell]
  have HA1 : Hid (W1.heap[A]? = some (tb C' m M p)) := by
    show _ = _
    rw [HW1.out]
    refine (Below.heap_alloc _ _ A (by rw [hs0]; exact hne')).trans ?_
    rw [hp_set_same (HK0.out.heap HR.out.hA id), HC'.out]; rfl
  have HC1 : Hid (W1.heap[C']? = some (chO (List.replicate m nilS))) := by
    show _ = _
    rw [HW1.out, ← HC'.out]
    have := World.alloc_heap_new (W0.setCell ⟨A, 0, none⟩ (.slice (some ⟨W0.heap.size, 0, none⟩) m m)) (chO (List.replicate m nilS))
    rw [hs0] at this; exact this
  have HK01 : Hid (Kept (fun k => k = A) W0 W1) := by
    show Kept _ _ _
    rw [HW1.out]
    exact (((Kept.refl (fun k => k = A) W0).set A 0 _ (Or.inl rfl)).alloc _).drew
  have HB1 : Hid (W1.heap[w.heap.size]? = some (.cells #[.pointer (some ⟨A, 0, none⟩)] 23 (0, 0))) := HK01.out.heap HB0.out (by have := HAl.out.1; omega)
  have HK1 : Hid (Kept (fun k => k = A) w W1) := HK0.out.no.trans HK01.out
  have hz1 : Hid (W1.heap.size = C' + 1) := by show _ = _; rw [HW1.out, ← HC'.out]; show (World.alloc _ _).heap.size = _; rw [World.size_alloc, hs0]
  have HCz : Hid (C' = w.heap.size + 1) := by show _ = _; rw [← HC'.out, hz0.out]
  rw [HC'.out]
  have c2 : W1.cell? ⟨w.heap.size, 0, none⟩ = some (.pointer (some ⟨A, 0, none⟩)) := by rw [cell_of HB1.out]; rfl
  clear c1 a0 f0 hne hne' hnb hnb' hs0 HW1 HK01 HB0 HK0 HW0 hmk hz0 HC'
  gi_wp2_with (refine ⟨trivial, ?_⟩; gi_at_call 42; refine (callsIn_wide.2 (inOrder_any _ _)).mono ?_; rintro e w' ⟨rfl, rfl⟩)
  have HM1 : Hid (MapIs W1 M nn L.length (lookE L)) := HR.out.map.kept HK1.out HR.out.ne.2.1
  have HK2 : Hid (Kept No W1 (W1.alloc (.cells #[.pointer (some ⟨A, 0, none⟩)] 23))) := (Kept.refl _ _).alloc _
  have hz2 : Hid ((W1.alloc (.cells #[.pointer (some ⟨A, 0, none⟩)] 23)).heap.size = C' + 2) := by show _ = _; rw [World.size_alloc, hz1.out]
  refine range_at rfl (by decide) rfl trivial (enters_of Try.func45 (by kernel_rfl) rfl) (OkO L) (FinO L) (NI w B A C' M m p nn w.heap.size L) ?tI ?h0
    (iter_ord _ (HK2.out.heap HA1.out id) (HM1.out.kept HK2.out id) HR.out.good ho hl (World.alloc_heap_new W1 _))
    (fun x => { tmps := #[.pointer (some ⟨A, 0, none⟩), .int .i64 m, .pointer (some ⟨w.heap.size, 0, none⟩), undef, x, .pointer (some ⟨A, 0, none⟩), .int .i64 m, .slice (some ⟨C', 0, none⟩) m m, .pointer (some ⟨A, 0, none⟩), .pointer (some ⟨A, 0, none⟩), .pointer (some ⟨A, 0, none⟩),
      .func (.func 45) #[] #[.pointer (some ⟨W1.heap.size, 0, none⟩)], x, undef, undef, undef], defers := [] }) ?assign ?body ?done
  case tI =>
    intro b ks W W' hN hlo
    obtain ⟨⟨vs', h1, h2⟩, h3, h4⟩ := hN
    exact ⟨⟨vs', hlo.rq h1 (by have := hz2.out; have := HCz.out; have := HAl.out.2; omega), h2⟩, hlo.cells h3, Loose.kept h4 hlo (by have := hz2.out; have := HCz.out; omega)⟩
  case h0 =>
    intro b W' hk hb
    have hk1 : Kept No W1 W' := HK2.out.trans hk
    have hzb := hz2.out
    have hcz := HCz.out
    have ha := HAl.out.1
    refine ⟨⟨List.replicate m nilS, ⟨hk1.heap HA1.out id, hk1.heap HC1.out id, by simp, by omega, m2, HM1.out.kept hk1 id, ?_, ?_, HR.out.bA, by have := HR.out.bA; omega, HR.out.bM, HR.out.good, by simp [entsH]⟩, ?_⟩, hk1.heap HB1.out id, (HK1.out.mono (fun k e => Or.inl e)).trans hk1.no⟩
    · intro b' hb'
      rw [List.getElem_replicate]
      exact ⟨rfl, Or.inl ⟨rfl, rfl⟩⟩
    · intro b1 b2 hb1 hb2 g _ hg
      rw [List.getElem_replicate] at hg
      cases hg
    · rintro k (e | e | e | ⟨v, h1, h2⟩)
      · exact Or.inl e
      · exact Or.inr (Or.inr (by omega))
      · exact Or.inr (Or.inl e)
      · rw [List.mem_replicate] at h1
        rw [h1.2] at h2; cases h2
  case assign =>
    intro l' x W K hK
    gi_wp2
    exact hK
  case body =>
    intro l' b ks x W hN hb hbl hok
    obtain ⟨⟨vs', h1, h2⟩, h3, h4⟩ := hN
    obtain ⟨⟨e, he, rfl⟩, hle⟩ := okO_mem hok
    have c3 : W.cell? ⟨w.heap.size, 0, none⟩ = some (.pointer (some ⟨A, 0, none⟩)) := by rw [cell_of h3]; rfl
    have HL1 : Hid _ := link_any h1 he (by have := entsH_len L ks; omega)
    have H1 : Hid (Rq W B A C' M m p nn vs' L (entsH L ks)) := h1
    have H2 : Hid (∀ k, FP A C' M vs' k → k = A ∨ k = M ∨ (w.heap.size ≤ k ∧ k ≠ b)) := h2
    have H3 : Hid (W.heap[w.heap.size]? = some (.cells #[.pointer (some ⟨A, 0, none⟩)] 23 (0, 0))) := h3
    have H4 : Hid (Kept (fun k => k = A ∨ k = M) w W) := h4
    have HE : Hid (e ∈ L) := he
    clear h1 h2 h3 h4 hok he
    gi_wp2_with (refine ⟨trivial, ?_⟩; gi_at_call 39; refine (CallsIn.inRound l' (callsIn_wide.2 HL1.out)).mono ?_; rintro r w' ⟨rfl, vs2, hq, hk, hf⟩)
    have hzb := hz2.out
    have hcz := HCz.out
    have ha := HAl.out
    have hbF : ¬ FP A C' M vs' b := fun hF => by
      rcases H2.out b hF with e1 | e1 | e1
      · omega
      · omega
      · exact e1.2 rfl
    have hxF : ¬ FP A C' M vs' w.heap.size := by
      rintro (e1 | e1 | e1 | ⟨v, h1, h2⟩)
      · omega
      · omega
      · omega
      · obtain ⟨i, hi, rfl⟩ := List.getElem_of_mem h1
        exact row3_ne (H1.out.row i hi) h2 H3.out (by decide) rfl
    refine ⟨Still.of_kept hk ?_, ⟨⟨vs2, ?_, ?_⟩, hk.heap H3.out hxF, H4.out.trans' hk (fun i hi => ?_)⟩, hk.block b hbl hbF⟩
    · rintro k (e1 | e1 | e1 | ⟨v, h1, h2⟩)
      · exact Or.inl (by omega)
      · exact Or.inl (by omega)
      · exact Or.inl (by omega)
      · obtain ⟨i, hi, rfl⟩ := List.getElem_of_mem h1
        rcases (H1.out.row i hi).2 with ⟨e1, _⟩ | ⟨g, cap, cur, e1, _, e2, _⟩
        · rw [e1] at h2; cases h2
        · rw [e1] at h2
          simp [Value.ownBlock] at h2
          subst h2
          exact Or.inr ⟨_, _, _, e2⟩
    · rw [entsH_snoc HR.out.good.hnd ks HE.out]; exact hq
    · intro k hk'
      have hsw := H4.out.size
      rcases hf k hk' with h5 | h5
      · exact H2.out k h5
      · exact Or.inr (Or.inr (by omega))
    · rcases H2.out i hi with e1 | e1 | e1
      · exact Or.inl (Or.inl e1)
      · exact Or.inl (Or.inr e1)
      · exact Or.inr e1.1
  case done =>
    intro D b ks W hD hfin hN hK
    obtain ⟨⟨vs', h1, h2⟩, h3, h4⟩ := hN
    have HF : Hid (FinO L ks ∧ Rq W B A C' M m p nn vs' L (entsH L ks) ∧ (∀ k, FP A C' M vs' k → k = A ∨ k = M ∨ (w.heap.size ≤ k ∧ k ≠ b)) ∧ Kept (fun k => k = A ∨ k = M) w W) := ⟨hfin, h1, h2, h4⟩
    clear h1 h2 h3 h4 hfin
    gi_wp2
    have hzb := hz2.out
    have hcz := HCz.out
    have ha := HAl.out
    refine ⟨by simp, .inl ⟨_, _, rfl, run_takeDeferred hK, ?_⟩⟩
    obtain ⟨f1, f2, f3, f4⟩ := HF.out
    have hlo : Loose (C' + 2) W (W.putObj D (.deferred none)) := Loose.putObj _ (by omega) hK rfl
    have f5 : entsH L ks = L := by rw [f1]; exact entsH_self HR.out.good.hnd
    rw [f5] at f2
    exact ⟨_, results_none rfl _ _ _, rfl, C', vs', (hlo.rq f2 (by omega)).renewed (List.Perm.refl _) m1 HR.out.pb HR.out.nb, Loose.kept f4 hlo (by omega), fun k hk => (f3 k hk).imp id (fun h => h.imp id (fun h => h.1))⟩
end Go.Proofs.Ytnfamebihpnjlaa
