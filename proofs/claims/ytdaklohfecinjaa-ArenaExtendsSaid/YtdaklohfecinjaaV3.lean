/- ArenaExtends, walked. -/
import Derived.Test.YtdaklohfecinjaaV2
namespace Go.Proofs.Ytdaklohfecinjaa
open Go.RowKit Go.Maps Go.Sort Go.Shelf
set_option linter.unusedSimpArgs false
set_option linter.unusedVariables false

theorem Rx.grow {S : Nat → Prop} {w0 w w' : World} {A C M F f size least n B : Nat} {cs : List Int} {hb : List (Nat × Nd)} (h : Rx w0 w A C M F f size least n cs hb) (hk : Kept S w w') (hS : ∀ k, S k → B ≤ k) (hB : ∀ k, FP A C M F hb k → k < B) (h0 : w0.heap.size ≤ B) : Rx w0 w' A C M F f size least n cs hb :=
  ⟨h.1.kept hk (fun k h1 h2 => by have := hS k h2; have := hB k h1; omega), h.2.1, h.2.2.trans' hk (fun i hi => .inr (by have := hS i hi; omega))⟩
theorem HR2.grow {S : Nat → Prop} {w w' : World} {B : Nat} {v : Value} {xs : List (Nat × Nd)} (h : HR2 w v xs) (hk : Kept S w w') (hS : ∀ k, S k → B ≤ k) (hB : ∀ g, v.ownBlock = some g → g < B) : HR2 w' v xs :=
  ⟨h.1.heap (fun g hg => hk.block g (h.2 g hg) (fun e => by have := hS g e; have := hB g hg; omega)), fun g hg => Nat.lt_of_lt_of_le (h.2 g hg) hk.size⟩

/-- While the cells of all blocks are taken. -/
structure Taken (w : World) (A C M F f size least B : Nat) (cs : List Int) (hb xs : List (Nat × Nd)) (v u : Value) (vals : List Value) (W : World) : Prop where
  was : WasIs W B u vals cs xs
  rx : Rx w W A C M F f size least 80 cs hb
  hr : HR2 W v xs
  le : B ≤ W.heap.size

/-- Behind Extend. -/
structure Aft (w : World) (A C M F f size least B : Nat) (cs cs' : List Int) (hb' xs : List (Nat × Nd)) (v u : Value) (vals : List Value) (W : World) : Prop where
  was : WasIs W B u vals cs xs
  rx : Rx w W A C M F f size least 80 cs' hb'
  hr : HR2 W v xs
theorem Aft.no {w : World} {A C M F f size least B : Nat} {cs cs' : List Int} {hb' xs : List (Nat × Nd)} {v u : Value} {vals : List Value} {W W' : World} (h : Aft w A C M F f size least B cs cs' hb' xs v u vals W) (hk : Kept No W W') : Aft w A C M F f size least B cs cs' hb' xs v u vals W' :=
  ⟨h.was.no hk, h.rx.no hk, h.hr.kept hk⟩

/-- The cells of a row that is not empty. -/
theorem row_some {w : World} {B : Nat} {t : TypeId} {v : Value} {n : Nat} {xs : List Value} (h : w.ownsRow B t 1 v n xs) (hn : 1 ≤ n) : ∃ g cap, v = .slice (some ⟨g, 0, none⟩) n cap ∧ ∀ j u, xs[j]? = some u → w.cell? ⟨g, j, none⟩ = some u := by
  rcases h.2 with ⟨h1, h2⟩ | ⟨g, cap, cur, h1, h2, h3, h4⟩
  · omega
  · refine ⟨g, cap, h1, fun j u hu => ?_⟩
    have := h.cells (g := g) (by rw [h1]; rfl) j u hu
    by_cases h0 : j = 0
    · subst h0; simpa [Addr.add] using this
    · simpa [Addr.add, h0] using this

set_option maxRecDepth 100000 in
set_option maxHeartbeats 4000000 in
theorem Extends_any (size : Int) (v : Value) (L : List (Int × Int × Int × Int)) (h n : Int) (w : World) (hL : Acts w v L) (hw : wf h) :
    Calls Try.prog 11 #[.int .i64 size, v, .int .i64 h, .int .i64 n] w fun e w' => e = .returned (.bool true) ∧ Kept No w w' := by
  obtain ⟨i0, hi, hz0, hz1, hz2⟩ := info_parts info51
  have HI0 : Hid (Try.prog.info? 51 = some i0 ∧ i0.zero = some (.slice none 0 0) ∧ i0.size = 1 ∧ i0.bytes = 24) := ⟨hi, hz0, hz1, hz2⟩
  have HL : Hid (Acts w v L) := hL
  have HW : Hid (wf h) := hw
  obtain ⟨ao, cap, rfl, q1, q2⟩ := hL
  clear q1 q2 hw hi hz0 hz1 hz2
  cases hs' : rl size with
  | false =>
    go_enter Try.func11, Try.ntmps11
    go_wp2_with (go_at_call 22; refine (made_none _ _ _ _ HL.out hs').mono ?_; rintro e w' ⟨rfl, rfl⟩)
    refine (alive_any w).mono ?_
    rintro e w2 ⟨rfl, h2⟩
    have H2 : Hid (Kept No w w2) := h2
    clear h2
    go_wp2
    go_ret
    exact ⟨rfl, H2.out⟩
  | true =>
  obtain ⟨size, rfl⟩ := rl_nat hs'
  rcases Nat.lt_or_ge 80 L.length with hn0 | hn
  · have hn : ¬ L.length ≤ 80 := by omega
    go_enter Try.func11, Try.ntmps11
    go_wp2_with fail
    refine (made_many _ _ _ _ HL.out hs' hn).mono ?_
    rintro e w1 ⟨rfl, h1⟩
    have H1 : Hid (Kept No w w1) := h1
    clear h1
    go_wp2_with fail
    refine (alive_any w1).mono ?_
    rintro e w2 ⟨rfl, h2⟩
    have H2 : Hid (Kept No w w2) := H1.out.trans h2
    clear h2
    go_wp2
    go_ret
    exact ⟨rfl, H2.out⟩
  go_enter Try.func11, Try.ntmps11
  go_wp2_with fail
  refine (made_some _ _ _ _ HL.out hs' hn).mono ?_
  rintro e w1 ⟨A, rfl, hb, C, M, F, f, least, cs, h1, hfp, hk1⟩
  have H1 : Hid (Rx w w1 A C M F f size least 80 cs hb) := ⟨h1, hfp, hk1⟩
  clear h1 hfp hk1 HL hn
  cases hl : look hb h with
  | none =>
    have HN : Hid (look hb h = none) := hl
    clear hl
    go_wp2_with (first | (go_at_call 18; refine (Len_none _ HW.out _ H1.out.1 HN.out).mono ?_; rintro e w' ⟨rfl, rfl⟩) | (go_at_call 36; refine (Extend_none _ _ HW.out _ H1.out.1 HN.out).mono ?_; rintro e w' ⟨rfl, rfl⟩) | (go_at_call 14; refine (no_any _ _).mono ?_; rintro e w' ⟨rfl, rfl⟩))
    refine (alive_any w1).mono ?_
    rintro e w2 ⟨rfl, h2⟩
    have H2 : Hid (Kept No w w2) := H1.out.2.2.trans h2
    clear h2
    go_wp2
    go_ret
    exact ⟨rfl, H2.out⟩
  | some p =>
  obtain ⟨k, hk, rfl⟩ := look_at hl
  clear hl
  have hm : hb[k].2 ∈ nodes F hb := List.mem_cons_of_mem _ (List.mem_map_of_mem (List.getElem_mem hk))
  have hbd := H1.out.1.geo.bd _ hm
  have hsz := H1.out.1.sz
  have hlen := H1.out.1.len
  have hpk := H1.out.1.pos hb[k] (List.getElem_mem hk)
  have hsn := sum_node (F := F) hk
  have hle := H1.out.1.geo.le
  obtain ⟨s, HS⟩ : ∃ s, Hid (hb[k].2.s = s) := ⟨_, show _ = _ from rfl⟩
  obtain ⟨i, HI⟩ : ∃ i, Hid (hb[k].1 = i) := ⟨_, show _ = _ from rfl⟩
  obtain ⟨LV, HLV⟩ : ∃ LV, Hid (sumS (nodes F hb) = LV) := ⟨_, show _ = _ from rfl⟩
  obtain ⟨T, HT⟩ : ∃ T, Hid (sumS (nodes F (rem hb k)) = T) := ⟨_, show _ = _ from rfl⟩
  rw [HLV.out, HT.out, HS.out] at hsn
  rw [HLV.out] at hle
  rw [HS.out] at hbd hpk
  rw [HI.out] at HW ⊢
  have HLen : Hid (∀ w', Rx w w' A C M F f size least 80 cs hb → Calls Try.prog 18 #[.pointer (some ⟨A, 0, none⟩), .int .i64 i] w' fun e w'' => e = .returned (.int .i64 s) ∧ w' = w'') := fun w' hR => by
    have := Len_some (List.getElem_mem hk) (by rw [HI.out]; exact HW.out) w' hR.1
    rw [HI.out, HS.out] at this; exact this
  have HLive : Hid (∀ w', Rx w w' A C M F f size least 80 cs hb → Calls Try.prog 24 #[.pointer (some ⟨A, 0, none⟩)] w' fun e w'' => e = .returned (.int .i64 LV) ∧ Rx w w'' A C M F f size least 80 cs hb ∧ Kept No w' w'') := fun w' hR => by
    have := Live_rp w' hR.1
    rw [HLV.out] at this
    exact this.mono fun e w'' ⟨he, hk'⟩ => ⟨he, hR.no hk', hk'⟩
  have s0 : ((s : Int) == 0) = false := by simp; omega
  have hs1 : 1 ≤ s := by omega
  clear hm hlen hpk
  go_wp2_with (go_at_call 18; refine (HLen.out _ H1.out).mono ?_; rintro e w' ⟨rfl, rfl⟩)
  refine (Handles_any H1.out.1).mono ?_
  rintro e w2 ⟨v, rfl, hrow, hb2⟩
  obtain ⟨xs, hperm, hxs, hinc⟩ := entries hb H1.out.1.hnd
  have H2 : Hid (Rx w w2 A C M F f size least 80 cs hb) := H1.out.no (Kept.of_below hb2)
  have hlen : xs.length = hb.length := hperm.length_eq
  have HV : Hid (HR2 w2 v xs ∧ (∀ g, v.ownBlock = some g → w1.heap.size ≤ g) ∧ xs.length = hb.length ∧ hs xs = hsS hb ∧ xs.Perm hb ∧ w1.heap.size ≤ w2.heap.size) := ⟨⟨row_h hlen hxs hrow, fun g hg => (own_ge hrow hg).2⟩, fun g hg => (own_ge hrow hg).1, hlen, hxs, hperm, hb2.size⟩
  have hxl : xs.length ≤ 65536 := by have := H2.out.1.length_le; have := H2.out.1.sz; omega
  have HFP : Hid (∀ k, FP A C M F hb k → k < w1.heap.size) := fun k hk => H1.out.1.lt hk
  obtain ⟨D, hown, hpkk, hDs⟩ := perm_of H2.out.1.map H2.out.1.hnd
  have HX : Hid (∀ j (hj : j < xs.length), xs[j] ∈ hb ∧ wf (xs[j].1 : Int) ∧ xs[j].2.a + xs[j].2.s ≤ size) := fun j hj => by
    have hm : xs[j] ∈ hb := hperm.mem_iff.1 (List.getElem_mem hj)
    exact ⟨hm, intKeys_wf hown Try.underlying3 _ (hpkk.mem_iff.1 (List.mem_map.2 ⟨xs[j], hm, rfl⟩)), H2.out.1.geo.bd _ (List.mem_cons_of_mem _ (List.mem_map_of_mem hm))⟩
  clear hrow hb2 hlen hxs hinc hperm hown hpkk hDs
  obtain ⟨so, cap2, hv2, hcap2, hcell⟩ := HV.out.1.1
  obtain ⟨B, HB⟩ : ∃ B, Hid (B = w2.heap.size) := ⟨_, rfl⟩
  subst hv2
  have HBd : Hid ((∀ k, FP A C M F hb k → k < B) ∧ w.heap.size ≤ B ∧ (∀ g, (Value.slice so xs.length cap2).ownBlock = some g → g < B) ∧ ∀ g, (Value.slice so xs.length cap2).ownBlock = some g → ¬ FP A C M F hb g) := by
    refine ⟨fun k hk => ?_, ?_, fun g hg => ?_, fun g hg e => ?_⟩
    · rw [HB.out]; exact Nat.lt_of_lt_of_le (HFP.out k hk) HV.out.2.2.2.2.2
    · rw [HB.out]; exact H2.out.2.2.size
    · rw [HB.out]; exact HV.out.1.2 g hg
    · have := HV.out.2.1 g hg; have := HFP.out g e; omega
  have HT2 : Hid (Taken w A C M F f size least B cs hb xs (.slice so xs.length cap2) (.slice none 0 0) [] w2) := ⟨was_nil _ _ _ _, H2.out, HV.out.1, by rw [HB.out]; exact Nat.le_refl _⟩
  obtain ⟨N, HN⟩ : ∃ N, Hid (xs.length = N) := ⟨_, show _ = _ from rfl⟩
  have HC : Hid (∀ W, HR2 W (.slice so N cap2) xs → ∀ j (hj : j < xs.length), ∃ g, so = some ⟨g, 0, none⟩ ∧ W.cell? ⟨g, j, none⟩ = some (.int .i64 (xs[j].1 : Int))) := by
    intro W hW j hj
    obtain ⟨ao', cap', e, _, hc⟩ := hW.1
    injection e with e1 e2 e3
    subst e1
    obtain ⟨g, hg, hc'⟩ := hc j hj
    exact ⟨g, hg, hc' j hj⟩
  have HP : Hid (xs.length = hb.length ∧ hs xs = hsS hb) := ⟨HV.out.2.2.1, HV.out.2.2.2.1⟩
  rw [HN.out] at HBd HT2 hxl ⊢
  clear hcell hcap2 HV H2 HFP HB
  go_wp2_with fail
  go_loopw [11, 13, 57] (fun l _ i wr => ∃ (q : Nat) (u : Value), q ≤ N ∧ i = .int .i64 q ∧ u = l ∧ Hid (∃ vals, vals.length = q ∧ Taken w A C M F f size least B cs hb xs (.slice so N cap2) u vals wr)) (fun _ _ i _ => N - (intOf i).toNat)
  case atStart => exact ⟨0, _, Nat.zero_le _, rfl, rfl, [], rfl, HT2.out⟩
  case round =>
    obtain ⟨q, u, hq, rfl, hu, HJ⟩ := hrel
    subst hu
    obtain ⟨vals, hvl, hTk⟩ := HJ.out
    have HTk : Hid (Taken w A C M F f size least B cs hb xs (.slice so N cap2) u vals wr ∧ vals.length = q) := ⟨hTk, hvl⟩
    clear HJ hTk hvl
    by_cases hlt : q < N
    · have hqx : q < xs.length := by have := HN.out; omega
      obtain ⟨g, hg, hck⟩ := HC.out wr HTk.out.1.hr q hqx
      subst hg
      have k1 : (0 : Int) ≤ (q : Int) := by omega
      have k2 : (q : Int) < (N : Int) := by omega
      obtain ⟨x, Hx⟩ : ∃ x : Nat, Hid (xs[q].1 = x) := ⟨_, show _ = _ from rfl⟩
      rw [Hx.out] at hck
      have HCe : Hid (Calls Try.prog 37 #[.pointer (some ⟨A, 0, none⟩), .int .i64 x] wr fun e w' => ∃ v, e = .returned v ∧ w'.ownsRow wr.heap.size 2 1 v xs[q].2.s (rowD cs xs[q].2.a xs[q].2.s) ∧ Kept No wr w') := by
        have := cells_some (HX.out q hqx).1 (HX.out q hqx).2.1 wr HTk.out.1.rx.1
        rw [Hx.out] at this; exact this
      go_wp2_with fail
      refine HCe.out.mono ?_
      rintro e w3 ⟨u2, rfl, hr3, hk3⟩
      obtain ⟨uo, un, uc, hu2⟩ : ∃ uo un uc, u2 = .slice uo un uc := by
        rcases hr3.2 with ⟨h1, _⟩ | ⟨g', c', cur, h1, _⟩
        · exact ⟨_, _, _, h1⟩
        · exact ⟨_, _, _, h1⟩
      subst hu2
      have ka : Kept No wr (w3.alloc (.cells #[.slice uo un uc] 51)) := hk3.alloc _
      have HW4 : Hid (Taken w A C M F f size least B cs hb xs (.slice (some ⟨g, 0, none⟩) N cap2) u vals (w3.alloc (.cells #[.slice uo un uc] 51)) ∧ (w3.alloc (.cells #[.slice uo un uc] 51)).ownsRow B 2 1 (.slice uo un uc) xs[q].2.s (rowD cs xs[q].2.a xs[q].2.s)) :=
        ⟨⟨HTk.out.1.was.no ka, HTk.out.1.rx.no ka, HTk.out.1.hr.kept ka, Nat.le_trans HTk.out.1.le ka.size⟩, ownsRow_base_a (hr3.alloc _) HTk.out.1.le⟩
      have HWl : Hid ((w3.alloc (.cells #[.slice uo un uc] 51)).ownsRow B 51 1 u q vals) := by have := HW4.out.1.was.1; rw [HTk.out.2] at this; exact this
      clear hr3 hk3 HCe ka
      go_wp2_with (at_builtin; refine wpList_append_own _ rfl _ _ 56 rfl B 51 i0 (.slice none 0 0) 1 24 Try.underlying56 HI0.out.1 HI0.out.2.1 HI0.out.2.2.1 HI0.out.2.2.2 rfl (by decide) u q vals rfl HWl.out ⟨w3.heap.size, 0, none⟩ 1 1 [.slice uo un uc] rfl ?qc1 ?qc2 ?qc3 ?qc4 ?qc5 ?qc6 ?_)
      case qc1 => rfl
      case qc2 =>
        intro t z ht
        have e0 : t = 0 := by
          have := (List.getElem?_eq_some_iff.1 ht).1
          simpa using this
        subst e0
        simp at ht
        subst ht
        rw [Addr.add_lit]
        have := World.alloc_heap_new w3 (.cells #[.slice uo un uc] 51)
        rw [cell_of this]; rfl
      case qc3 => intro z hz; rw [List.mem_singleton] at hz; subst hz; rfl
      case qc4 => unfold maxLen; omega
      case qc5 => omega
      case qc6 => exact HW4.out.1.le
      intro u' w4 hown hgrow hnil
      have HJ4 : Hid (∃ vals', vals'.length = q + 1 ∧ Taken w A C M F f size least B cs hb xs (.slice (some ⟨g, 0, none⟩) N cap2) u' vals' w4) := by
        have kg : Kept (fun k => u.ownBlock = some k) (w3.alloc (.cells #[.slice uo un uc] 51)) w4 := (Kept.refl _ _).grown hgrow (fun q e => .inl e)
        have hS : ∀ k, u.ownBlock = some k → B ≤ k := fun k hk => (HWl.out.lt k hk).1
        have hvl := HTk.out.2
        refine ⟨vals ++ [.slice uo un uc], by rw [List.length_append, hvl]; rfl, ?_, HW4.out.1.rx.grow kg hS HBd.out.1 HBd.out.2.1, HW4.out.1.hr.grow kg hS HBd.out.2.2.1, Nat.le_trans HW4.out.1.le kg.size⟩
        refine HW4.out.1.was.snoc (by omega) ?_ (by rw [hvl]; exact hown) kg
        simp only [hvl]
        exact HW4.out.2
      clear hown hgrow hnil HW4 HWl
      go_wp2
      go_roundw
      case rel => exact ⟨q + 1, _, by omega, by go_num, rfl, HJ4.out⟩
      case measure => simp [intOf]; omega
    · obtain rfl : q = N := by omega
      have k2 : ¬ (q : Int) < (q : Int) := by omega
      obtain ⟨W0, hW0⟩ : ∃ W, W = wr := ⟨_, rfl⟩
      subst hW0
      go_wp2_with fail
      refine (HLive.out _ HTk.out.1.rx).mono ?_
      rintro e w3 ⟨rfl, hR3, hk3⟩
      have HT3 : Hid (Taken w A C M F f size least B cs hb xs (.slice so q cap2) u vals w3 ∧ vals.length = q) := ⟨⟨HTk.out.1.was.no hk3, hR3, HTk.out.1.hr.kept hk3, Nat.le_trans HTk.out.1.le hk3.size⟩, HTk.out.2⟩
      clear hR3 hk3 HTk
      cases hr : rl n with
      | false =>
        have HEx : Hid (Calls Try.prog 36 #[.pointer (some ⟨A, 0, none⟩), .int .i64 i, .int .i64 n] w3 fun e w' => e = .returned (.int .i64 1) ∧ w3 = w') := by
          have := Extend_arg (List.getElem_mem hk) (by rw [HI.out]; exact HW.out) n hr w3 HT3.out.1.rx.1
          rw [HI.out] at this; exact this
        have hcase := rl_false hr
        have hgo : (n < 1) ∨ (¬ n < 1 ∧ 65536 < n) := by omega
        clear hcase
        rcases hgo with g1 | ⟨g1, g2⟩
        all_goals (
          go_wp2_with (first | (go_at_call 18; refine (HLen.out _ HT3.out.1.rx).mono ?_; rintro e w' ⟨rfl, rfl⟩) | (go_at_call 36; refine HEx.out.mono ?_; rintro e w' ⟨rfl, rfl⟩) | (go_at_call 14; refine (no_any _ _).mono ?_; rintro e w' ⟨rfl, rfl⟩))
          refine (HLive.out _ HT3.out.1.rx).mono ?_
          rintro e w4 ⟨rfl, hR4, hk4⟩
          have HK4 : Hid (Kept No w w4) := hR4.2.2
          clear hR4 hk4
          go_wp2_with fail
          refine (alive_any w4).mono ?_
          rintro e w5 ⟨rfl, h5⟩
          have HK5 : Hid (Kept No w w5) := HK4.out.trans h5
          clear h5
          go_wp2
          go_ret
          exact ⟨rfl, HK5.out⟩)
      | true =>
      obtain ⟨n, rfl⟩ := rl_nat hr
      have hn' := rl_true hr
      have g1 : ¬ ((n : Int) < 1) := by omega
      have g2 : ¬ (65536 < (n : Int)) := by omega
      rcases Nat.lt_or_ge size (T + n) with hf | hf
      · have HEx : Hid (Calls Try.prog 36 #[.pointer (some ⟨A, 0, none⟩), .int .i64 i, .int .i64 n] w3 fun e w' => e = .returned (.int .i64 8) ∧ Rx w w' A C M F f size least 80 cs hb ∧ Kept No w3 w') := by
          have := Extend_full w3 HT3.out.1.rx.1 hk (by rw [HI.out]; exact HW.out) hr (by rw [HT.out]; exact hf)
          rw [HI.out] at this
          exact this.mono fun e w' ⟨he, h1, h2⟩ => ⟨he, HT3.out.1.rx.no h2, h2⟩
        have g3 : (size : Int) < (LV : Int) - (s : Int) + (n : Int) := by omega
        go_wp2_with (go_at_call 18; refine (HLen.out _ HT3.out.1.rx).mono ?_; rintro e w' ⟨rfl, rfl⟩)
        refine HEx.out.mono ?_
        rintro e w4 ⟨rfl, hR4, hk4⟩
        have HR4 : Hid (Rx w w4 A C M F f size least 80 cs hb) := hR4
        clear hR4 hk4
        go_wp2_with (first | (go_at_call 14; refine (no_any _ _).mono ?_; rintro e w' ⟨rfl, rfl⟩))
        refine (HLive.out _ HR4.out).mono ?_
        rintro e w5 ⟨rfl, hR5, hk5⟩
        have HR5 : Hid (Rx w w5 A C M F f size least 80 cs hb) := hR5
        clear hR5 hk5
        go_wp2_with (first | (go_at_call 18; refine (HLen.out _ HR5.out).mono ?_; rintro e w' ⟨rfl, rfl⟩))
        refine (alive_any w5).mono ?_
        rintro e w6 ⟨rfl, h6⟩
        have HK6 : Hid (Kept No w w6) := HR5.out.2.2.trans h6
        clear h6
        go_wp2
        go_ret
        exact ⟨rfl, HK6.out⟩
      · obtain ⟨hb', Hb'⟩ : ∃ hb', Hid (cmpH 0 (rem hb k ++ [(hb[k].1, ⟨hb[k].2.p, 0, n⟩)]) = hb') := ⟨_, show _ = _ from rfl⟩
        obtain ⟨cs', Hcs'⟩ : ∃ cs', Hid (extC cs (nodes F (rem hb k)) hb[k].2 n = cs') := ⟨_, show _ = _ from rfl⟩
        have hf' : sumS (nodes F (rem hb k)) + n ≤ size := by rw [HT.out]; exact hf
        have HE : Hid (∀ j (hj : j < xs.length), ∃ y ∈ hb', y.1 = xs[j].1 ∧ (xs[j].1 ≠ i → y.2.s = xs[j].2.s) ∧ ∀ t, t < y.2.s → cs'.getD (y.2.a + t) 0 = if t < xs[j].2.s then cs.getD (xs[j].2.a + t) 0 else 0) := by
          intro j hj
          have := ext_block HT3.out.1.rx.1 hk hf' (HX.out j hj).1
          rw [Hb'.out, Hcs'.out, HI.out] at this
          exact this
        have HEx : Hid (Calls Try.prog 36 #[.pointer (some ⟨A, 0, none⟩), .int .i64 i, .int .i64 n] w3 fun e w' => e = .returned (.int .i64 0) ∧ ∃ f', Aft w A C M F f' size least B cs cs' hb' xs (.slice so q cap2) u vals w') := by
          have := Extend_some w3 HT3.out.1.rx.1 hk (by rw [HI.out]; exact HW.out) hr hf'
          rw [HI.out] at this
          refine this.mono ?_
          rintro e w' ⟨he, ⟨f', hR'⟩, hk'⟩
          refine ⟨he, f', HT3.out.1.was.out hk' HBd.out.1, ⟨by rw [← Hb'.out, ← Hcs'.out, HI.out]; exact hR', fun j e => ?_, HT3.out.1.rx.2.2.since hk' HT3.out.1.rx.2.1⟩, ?_⟩
          · refine HT3.out.1.rx.2.1 j (fp_sub (fun x hx => ?_) e)
            rw [← Hb'.out] at hx
            obtain ⟨y, hy, _, e2, _⟩ := cmpH_mem hx
            rcases List.mem_append.1 hy with hy | hy
            · exact ⟨y, rem_mem hy, e2⟩
            · rw [List.mem_singleton] at hy
              subst hy
              exact ⟨hb[k], List.getElem_mem hk, e2⟩
          · exact ⟨HT3.out.1.hr.1.heap (fun g hg => hk'.block g (HT3.out.1.hr.2 g hg) (HBd.out.2.2.2 g hg)), fun g hg => Nat.lt_of_lt_of_le (HT3.out.1.hr.2 g hg) hk'.size⟩
        obtain ⟨Z, HZ⟩ : ∃ Z, Hid (T + n = Z) := ⟨_, show _ = _ from rfl⟩
        have hZ := HZ.out
        have HSum : Hid (sumS (nodes F hb') = Z ∧ topN (nodes F hb') = Z) := by
          have := ext_sum (F := F) hk hb[k].2.p n
          rw [Hb'.out, HT.out, HZ.out] at this; exact this
        have HOwn : Hid (((i, ⟨hb[k].2.p, T, n⟩) : Nat × Nd) ∈ hb') := by
          have := (ext_own HT3.out.1.rx.1 hk hf').1
          rw [Hb'.out, HI.out, HT.out] at this; exact this
        have HSo : Hid (hsS hb' = hsS hb) := by
          have := ext_handles hk hb[k].2.p n
          rw [Hb'.out] at this; exact this
        have zf1 : ((Z : Int) != (LV : Int) - (s : Int) + (n : Int)) = false := by rw [bne_eq_false_iff_eq]; omega
        have zf2 : ((T : Int) != (Z : Int) - (n : Int)) = false := by rw [bne_eq_false_iff_eq]; omega
        have g3 : ¬ ((size : Int) < (LV : Int) - (s : Int) + (n : Int)) := by omega
        have hTZ : T ≤ 65536 ∧ Z ≤ 65536 := by omega
        clear Hb' Hcs' hf'
        go_wp2_with (go_at_call 18; refine (HLen.out _ HT3.out.1.rx).mono ?_; rintro e w' ⟨rfl, rfl⟩)
        refine HEx.out.mono ?_
        rintro e w4 ⟨rfl, f', hA4⟩
        have HA4 : Hid (Aft w A C M F f' size least B cs cs' hb' xs (.slice so q cap2) u vals w4) := hA4
        clear hA4 HEx
        have HLive2 : Hid (∀ w', Aft w A C M F f' size least B cs cs' hb' xs (.slice so q cap2) u vals w' → Calls Try.prog 24 #[.pointer (some ⟨A, 0, none⟩)] w' fun e w'' => e = .returned (.int .i64 Z) ∧ Hid (Aft w A C M F f' size least B cs cs' hb' xs (.slice so q cap2) u vals w'')) := fun w' hR => by
          have := Live_rp w' hR.rx.1
          rw [HSum.out.1] at this
          exact this.mono fun e w'' ⟨he, hk'⟩ => ⟨he, hR.no hk'⟩
        have HTop2 : Hid (∀ w', Aft w A C M F f' size least B cs cs' hb' xs (.slice so q cap2) u vals w' → Calls Try.prog 25 #[.pointer (some ⟨A, 0, none⟩)] w' fun e w'' => e = .returned (.int .i64 Z) ∧ Hid (Aft w A C M F f' size least B cs cs' hb' xs (.slice so q cap2) u vals w'')) := fun w' hR => by
          have := Top_any w' hR.rx.1
          rw [HSum.out.2] at this
          exact this.mono fun e w'' ⟨he, hk'⟩ => ⟨he, hR.no hk'⟩
        have HAddr2 : Hid (∀ w', Aft w A C M F f' size least B cs cs' hb' xs (.slice so q cap2) u vals w' → Calls Try.prog 20 #[.pointer (some ⟨A, 0, none⟩), .int .i64 i] w' fun e w'' => e = .returned (.int .i64 T) ∧ w' = w'') := fun w' hR => Addr_some HOwn.out HW.out w' hR.rx.1
        have HHan2 : Hid (∀ w', Aft w A C M F f' size least B cs cs' hb' xs (.slice so q cap2) u vals w' → Calls Try.prog 23 #[.pointer (some ⟨A, 0, none⟩)] w' fun e w'' => ∃ v', e = .returned v' ∧ Hid (Aft w A C M F f' size least B cs cs' hb' xs (.slice so q cap2) u vals w'' ∧ HRow w'' v' xs)) := fun w' hR => by
          refine (Handles_any hR.rx.1).mono ?_
          rintro e w'' ⟨v', he, hrow, hb''⟩
          refine ⟨v', he, hR.no (Kept.of_below hb''), ?_⟩
          have hl2 : hb'.length = xs.length := by
            have h1 : (hsS hb').length = hb'.length := by simp [hsS, hs]
            have h2 : (hsS hb).length = hb.length := by simp [hsS, hs]
            rw [HSo.out, h2] at h1
            rw [HP.out.1]; omega
          exact row_h hl2.symm (by rw [HP.out.2, HSo.out]) hrow
        have HInts : Hid (∀ w' v', Aft w A C M F f' size least B cs cs' hb' xs (.slice so q cap2) u vals w' → HRow w' v' xs → Calls Try.prog 33 #[v', .slice so q cap2] w' fun e w'' => e = .returned (.bool true) ∧ Hid (Aft w A C M F f' size least B cs cs' hb' xs (.slice so q cap2) u vals w'')) := fun w' v' hR hv' =>
          (Ints_same hv' hR.hr.1 (by rw [HN.out]; exact hxl)).mono fun e w'' ⟨he, hk'⟩ => ⟨he, hR.no hk'⟩
        go_wp2_with (go_at_call 14; refine (no_any _ _).mono ?_; rintro e w' ⟨rfl, rfl⟩)
        refine (HLive2.out _ HA4.out).mono ?_
        rintro e w5 ⟨rfl, HA5⟩
        go_wp2_with fail
        refine (HTop2.out _ HA5.out).mono ?_
        rintro e w6 ⟨rfl, HA6⟩
        go_wp2_with fail
        refine (HLive2.out _ HA6.out).mono ?_
        rintro e w7 ⟨rfl, HA7⟩
        go_wp2_with (go_at_call 20; refine (HAddr2.out _ HA7.out).mono ?_; rintro e w' ⟨rfl, rfl⟩)
        refine (HLive2.out _ HA7.out).mono ?_
        rintro e w8 ⟨rfl, HA8⟩
        go_wp2_with fail
        refine (HHan2.out _ HA8.out).mono ?_
        rintro e w9 ⟨v9, rfl, HA9⟩
        go_wp2_with fail
        refine (HInts.out _ _ HA9.out.1 HA9.out.2).mono ?_
        rintro e w10 ⟨rfl, HA10⟩
        have HVals : Hid (vals.length = q) := HT3.out.2
        have HPos : Hid (∀ x ∈ hb, 1 ≤ x.2.s) := fun x hx => (HT3.out.1.rx.1.pos x hx).1
        clear HA4 HA5 HA6 HA7 HA8 HA9 HLive2 HTop2 HAddr2 HHan2 HInts zf1 zf2 g3 g1 g2 HLive HLen HSum HOwn HSo HT3
        go_wp2_with fail
        go_loopw [160] (fun i wr => ∃ t : Nat, t ≤ q ∧ i = .int .i64 t ∧ Hid (Aft w A C M F f' size least B cs cs' hb' xs (.slice so q cap2) u vals wr)) (fun i _ => q - (intOf i).toNat)
        case atStart => exact ⟨0, Nat.zero_le _, rfl, HA10.out⟩
        case round =>
          obtain ⟨t, ht, rfl, HAt⟩ := hrel
          by_cases hlt : t < q
          · have htx : t < xs.length := by have := HN.out; omega
            have hq1 : 1 ≤ q := by omega
            obtain ⟨g, hg, hck⟩ := HC.out wr HAt.out.hr t htx
            subst hg
            have k1 : (0 : Int) ≤ (t : Int) := by omega
            have k2 : (t : Int) < (q : Int) := by omega
            obtain ⟨x, Hx⟩ : ∃ x : Nat, Hid (xs[t].1 = x) := ⟨_, show _ = _ from rfl⟩
            rw [Hx.out] at hck
            obtain ⟨y, hy, hy1, hy2, hy3⟩ := HE.out t htx
            obtain ⟨sx, Hsx⟩ : ∃ sx, Hid (xs[t].2.s = sx) := ⟨_, show _ = _ from rfl⟩
            obtain ⟨sy, Hsy⟩ : ∃ sy, Hid (y.2.s = sy) := ⟨_, show _ = _ from rfl⟩
            rw [Hx.out] at hy1 hy2
            rw [Hsx.out, Hsy.out] at hy2
            have hposy := (HAt.out.rx.1.pos y hy).1
            have hposx : 1 ≤ xs[t].2.s := HPos.out _ (HX.out t htx).1
            rw [Hsy.out] at hposy
            rw [Hsx.out] at hposx
            have hbdy := HAt.out.rx.1.geo.bd _ (List.mem_cons_of_mem _ (List.mem_map_of_mem hy))
            have hbdx := (HX.out t htx).2.2
            rw [Hsy.out] at hbdy
            rw [Hsx.out] at hbdx
            have hsy : sy ≤ 65536 := by omega
            have hsx : sx ≤ 65536 := by omega
            obtain ⟨V, HVf⟩ : ∃ V : Nat → Int, Hid (∀ t', V t' = if t' < sx then cs.getD (xs[t].2.a + t') 0 else 0) := ⟨fun t' => if t' < sx then cs.getD (xs[t].2.a + t') 0 else 0, fun _ => rfl⟩
            have HVy : Hid (∀ t', t' < sy → cs'.getD (y.2.a + t') 0 = V t') := fun t' ht' => by
              have := hy3 t' (by rw [Hsy.out]; exact ht')
              rw [this, HVf.out, Hsx.out]
            have HCe : Hid (Calls Try.prog 37 #[.pointer (some ⟨A, 0, none⟩), .int .i64 x] wr fun e w' => ∃ gn cn, e = .returned (.slice (some ⟨gn, 0, none⟩) sy cn) ∧ Hid (∀ t', t' < sy → w'.cell? ⟨gn, t', none⟩ = some (.int .i64 (V t'))) ∧ Hid (Aft w A C M F f' size least B cs cs' hb' xs (.slice (some ⟨g, 0, none⟩) q cap2) u vals w')) := by
              have hwf : wf (y.1 : Int) := by have := (HX.out t htx).2.1; rw [hy1, ← Hx.out]; exact this
              have := cells_some hy hwf wr HAt.out.rx.1
              rw [hy1, Hsy.out] at this
              refine this.mono ?_
              rintro e w' ⟨v', he, hrow, hk'⟩
              obtain ⟨gn, cn, hv', hcells⟩ := row_some hrow hposy
              refine ⟨gn, cn, by rw [he, hv'], fun t' ht' => ?_, HAt.out.no hk'⟩
              rw [← HVy.out t' ht']
              exact hcells t' _ (rowD_at cs' y.2.a ht')
            clear hy hy1 hy3 hbdy HVy
            go_wp2_with fail
            refine HCe.out.mono ?_
            rintro e w11 ⟨gn, cn, rfl, HCn, HA11⟩
            clear HCe HAt hck
            have HVl : Hid (vals.length = q) := HVals.out
            obtain ⟨gu, cu, hu, hcu⟩ := row_some HA11.out.was.1 (by rw [HVl.out]; exact hq1)
            rw [HVl.out] at hu
            subst hu
            obtain ⟨hxx, hrw⟩ := HA11.out.was.2 t (by rw [HVl.out]; exact hlt)
            rw [Hsx.out] at hrw
            obtain ⟨gw, cw, hvw, hcw⟩ := row_some hrw hposx
            have cu0 : w11.cell? ⟨gu, t, none⟩ = some (.slice (some ⟨gw, 0, none⟩) sx cw) := by
              rw [← hvw]; exact hcu t _ (List.getElem?_eq_getElem (by rw [HVl.out]; exact hlt))
            have HCw : Hid (∀ t', t' < sx → w11.cell? ⟨gw, t', none⟩ = some (.int .i64 (V t'))) := fun t' ht' => by
              rw [HVf.out, if_pos ht']
              exact hcw t' _ (rowD_at cs _ ht')
            have HV0 : Hid (∀ t', ¬ t' < sx → V t' = 0) := fun t' ht' => by rw [HVf.out, if_neg ht']
            have kt0 : t < q := hlt
            clear hcu hrw hcw hvw hxx
            go_wp2_with fail
            go_loop [170] (fun i => ∃ t' : Nat, t' ≤ sy ∧ i = .int .i64 t') (fun i => sy - (intOf i).toNat)
            case atStart => exact ⟨0, Nat.zero_le _, rfl⟩
            case round =>
              obtain ⟨j, hj, rfl⟩ := hrel
              by_cases hjl : j < sy
              · have j1 : (0 : Int) ≤ (j : Int) := by omega
                have j2 : (j : Int) < (sy : Int) := by omega
                have cn0 := HCn.out j hjl
                by_cases hjx : j < sx
                · have j3 : (j : Int) < (sx : Int) := by omega
                  have cw0 := HCw.out j hjx
                  go_wp2
                  go_round
                  case rel => exact ⟨j + 1, by omega, by go_num⟩
                  case measure => simp [intOf]; omega
                · have j3 : ¬ (j : Int) < (sx : Int) := by omega
                  rw [HV0.out j hjx] at cn0
                  go_wp2
                  go_round
                  case rel => exact ⟨j + 1, by omega, by go_num⟩
                  case measure => simp [intOf]; omega
              · have j2 : ¬ (j : Int) < (sy : Int) := by omega
                by_cases hxi : x = i
                · have x1 : ((x : Int) != (i : Int)) = false := by rw [bne_eq_false_iff_eq]; omega
                  go_wp2
                  go_roundw
                  case rel => exact ⟨t + 1, by omega, by go_num, HA11.out⟩
                  case measure => simp [intOf]; omega
                · have x1 : ((x : Int) != (i : Int)) = true := by rw [bne_iff_ne]; omega
                  have x2 : ((sy : Int) != (sx : Int)) = false := by rw [bne_eq_false_iff_eq]; have := hy2 hxi; omega
                  go_wp2
                  go_roundw
                  case rel => exact ⟨t + 1, by omega, by go_num, HA11.out⟩
                  case measure => simp [intOf]; omega
          · obtain rfl : t = q := by omega
            have k2 : ¬ (t : Int) < (t : Int) := by omega
            go_wp2_with fail
            refine (alive_any wr).mono ?_
            rintro e w12 ⟨rfl, h12⟩
            have HK12 : Hid (Kept No w w12) := HAt.out.rx.2.2.trans h12
            clear h12
            go_wp2
            go_ret
            exact ⟨rfl, HK12.out⟩

theorem ArenaExtends_any {L : List (Int × Int × Int × Int)} (size : Int) (v : Value) (h n : Int) (w : World) (hL : Acts w v L) (hw : wf h) : Calls Try.prog 11 #[.int .i64 size, v, .int .i64 h, .int .i64 n] w fun e w' => e = .returned (.bool true) ∧ Below w.heap.size w w' :=
  (Extends_any size v L h n w hL hw).mono (fun e w' ⟨he, hk⟩ => ⟨he, hk.below (Nat.le_refl _) (fun k e => e.elim)⟩)
end Go.Proofs.Ytdaklohfecinjaa
