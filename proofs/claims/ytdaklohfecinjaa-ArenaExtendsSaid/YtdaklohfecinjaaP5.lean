/- ArenaFirst, walked. -/
import Derived.Test.YtdaklohfecinjaaP4
namespace Go.Proofs.Ytdaklohfecinjaa
open Go.RowKit Go.Maps Go.Sort Go.Shelf
set_option linter.unusedSimpArgs false
set_option linter.unusedVariables false

/-- A row of handles, its block in memory. -/
def HR2 (w : World) (v : Value) (xs : List (Nat × Nd)) : Prop := HRow w v xs ∧ ∀ g, v.ownBlock = some g → g < w.heap.size
theorem HR2.kept {w w' : World} {v : Value} {xs : List (Nat × Nd)} (h : HR2 w v xs) (hk : Kept No w w') : HR2 w' v xs :=
  ⟨h.1.heap (fun g hg => hk.block g (h.2 g hg) id), fun g hg => Nat.lt_of_lt_of_le (h.2 g hg) hk.size⟩

set_option maxRecDepth 100000 in
set_option maxHeartbeats 4000000 in
theorem First_any (size n : Int) (v : Value) (L : List (Int × Int × Int × Int)) (w : World) (hL : Acts w v L) :
    Calls Try.prog 8 #[.int .i64 size, v, .int .i64 n] w fun e w' => e = .returned (.bool true) ∧ Kept No w w' := by
  have HL : Hid (Acts w v L) := hL
  obtain ⟨ao, cap, rfl, q1, q2⟩ := hL
  clear q1 q2
  cases hs' : rl size with
  | false =>
    go_enter Try.func8, Try.ntmps8
    go_wp2_with (go_at_call 22; refine (made_none _ _ _ _ HL.out hs').mono ?_; rintro e w' ⟨rfl, rfl⟩)
    refine (alive_any w).mono ?_
    rintro e w2 ⟨rfl, h2⟩
    have H2 : Hid (Kept No w w2) := h2
    clear h2
    go_wp2
    go_ret
    exact ⟨rfl, H2.out⟩
  | true =>
  obtain ⟨size, rfl⟩ := rl_nat hs'
  rcases Nat.lt_or_ge 80 L.length with hn0 | hn
  · have hn : ¬ L.length ≤ 80 := by omega
    go_enter Try.func8, Try.ntmps8
    go_wp2_with fail
    refine (made_many _ _ _ _ HL.out hs' hn).mono ?_
    rintro e w1 ⟨rfl, h1⟩
    have H1 : Hid (Kept No w w1) := h1
    clear h1
    go_wp2_with fail
    refine (alive_any w1).mono ?_
    rintro e w2 ⟨rfl, h2⟩
    have H2 : Hid (Kept No w w2) := H1.out.trans h2
    clear h2
    go_wp2
    go_ret
    exact ⟨rfl, H2.out⟩
  go_enter Try.func8, Try.ntmps8
  go_wp2_with fail
  refine (made_some _ _ _ _ HL.out hs' hn).mono ?_
  rintro e w1 ⟨A, rfl, hb, C, M, F, f, least, cs, h1, hfp, hk1⟩
  have H1 : Hid (Rx w w1 A C M F f size least 80 cs hb) := ⟨h1, hfp, hk1⟩
  clear h1 hfp hk1
  go_wp2_with fail
  refine (Handles_any H1.out.1).mono ?_
  rintro e w2 ⟨v, rfl, hrow, hb2⟩
  obtain ⟨xs, hperm, hxs, hinc⟩ := entries hb H1.out.1.hnd
  have H2 : Hid (Rx w w2 A C M F f size least 80 cs hb) := H1.out.no (Kept.of_below hb2)
  have hlen : xs.length = hb.length := hperm.length_eq
  have HV : Hid (HRow w2 v xs ∧ (∀ g, v.ownBlock = some g → w1.heap.size ≤ g ∧ g < w2.heap.size) ∧ xs.length = hb.length ∧ hs xs = hsS hb ∧ xs.Perm hb) := ⟨row_h hlen hxs hrow, fun g hg => own_ge hrow hg, hlen, hxs, hperm⟩
  have hxl : xs.length ≤ 65536 := by have := H2.out.1.length_le; have := H2.out.1.sz; omega
  have HFP : Hid (∀ k, FP A C M F hb k → k < w1.heap.size) := fun k hk => H1.out.1.lt hk
  clear hrow hb2 hlen hxs hinc hperm
  cases hr : rl n with
  | false =>
    have HF : Hid (Calls Try.prog 23 #[.pointer (some ⟨A, 0, none⟩)] w2 fun e w' => ∃ v', e = .returned v' ∧ HRow w' v' xs ∧ HRow w' v xs ∧ Kept No w2 w') :=
      First_refused (w2 := w2) (f := f) H2.out HV.out.2.2.1 HV.out.2.2.2.1 HV.out.1 (fun g hg => (HV.out.2.1 g hg).2)
    go_wp2_with fail
    refine (Alloc_arg _ _ H2.out.1 hr).mono ?_
    rintro e w' ⟨rfl, rfl⟩
    go_wp2_with (go_at_call 14; refine (no_any _ _).mono ?_; rintro e w' ⟨rfl, rfl⟩)
    refine HF.out.mono ?_
    rintro e w4 ⟨v', rfl, q1, q2, q3⟩
    have HI : Hid (Calls Try.prog 33 #[v', v] w4 fun e w' => e = .returned (.bool true) ∧ Kept No w4 w') := Ints_same q1 q2 hxl
    have HK4 : Hid (Kept No w w4) := H2.out.2.2.trans q3
    clear q1 q2 q3
    go_wp2_with fail
    refine HI.out.mono ?_
    rintro e w5 ⟨rfl, h5⟩
    have HK5 : Hid (Kept No w w5) := HK4.out.trans h5
    clear h5
    go_wp2_with fail
    refine (alive_any w5).mono ?_
    rintro e w6 ⟨rfl, h6⟩
    have HK6 : Hid (Kept No w w6) := HK5.out.trans h6
    clear h6
    go_wp2
    go_ret
    exact ⟨rfl, HK6.out⟩
  | true =>
  obtain ⟨n, rfl⟩ := rl_nat hr
  have hn' := rl_true hr
  rcases first_room (nodes F hb) size n (nodes F hb).length with ⟨k, h1, h2, h3⟩ | h1
  · have HK : Hid ((n : Int) ≤ gap (nodes F hb) size k ∧ ∀ i, i < k → gap (nodes F hb) size i < n) := ⟨h2, h3⟩
    clear h2 h3
    have HEnd := ends_one H2.out.1 h1 HV.out.2.2.2.2
    go_wp2_with fail
    refine (Alloc_room w2 H2.out.1 hr (by omega) h1 HK.out.1 HK.out.2).mono ?_
    rintro e w3 ⟨h0, b, f', rfl, i1, i2, i3, i4, hR4, hk4⟩
    obtain ⟨T, HT⟩ : ∃ T, Hid ((nodes F hb)[k].a + (nodes F hb)[k].s = T) := ⟨_, show _ = _ from rfl⟩
    rw [HT.out] at hR4 HEnd
    have hmem : ((h0, ⟨b, T, n⟩) : Nat × Nd) ∈ ins hb k (h0, ⟨b, T, n⟩) := ins_mem.2 (.inl rfl)
    have hle := hR4.h_le
    have hTn : T + n ≤ size := hR4.geo.bd ⟨b, T, n⟩ (List.mem_cons_of_mem _ (List.mem_map_of_mem hmem))
    have hszz : size ≤ 65536 := H2.out.1.sz
    have HWf : Hid (wf h0) := wf_of (by omega) (by omega)
    have hh0 : h0 ≤ 1000000 := by omega
    obtain ⟨D, hown, hpk, hDs⟩ := perm_of H2.out.1.map H2.out.1.hnd
    have HX : Hid (∀ j (hj : j < xs.length), xs[j] ∈ ins hb k (h0, ⟨b, T, n⟩) ∧ wf (xs[j].1 : Int) ∧ xs[j].1 ≠ h0 ∧ xs[j].2.a + xs[j].2.s ≤ size) := fun j hj => by
      have hm : xs[j] ∈ hb := HV.out.2.2.2.2.mem_iff.1 (List.getElem_mem hj)
      refine ⟨ins_mem.2 (.inr hm), intKeys_wf hown Try.underlying3 _ (hpk.mem_iff.1 (List.mem_map.2 ⟨xs[j], hm, rfl⟩)), fun e => ?_, H2.out.1.geo.bd _ (List.mem_cons_of_mem _ (List.mem_map_of_mem hm))⟩
      have := look_mem H2.out.1.hnd hm
      rw [e, i2] at this; cases this
    have HLk : Hid (∀ i : Nat, 1 ≤ i → i < h0 → ∃ y ∈ ins hb k (h0, ⟨b, T, n⟩), y.1 = i ∧ 1 ≤ y.2.s) := fun i j1 j2 => by
      have := i3 i j1 j2
      cases hl : look hb i with
      | none => exact absurd hl this
      | some p =>
        obtain ⟨y, hy, hy1, _⟩ := look_some hl
        exact ⟨y, ins_mem.2 (.inr hy), by omega, (H2.out.1.pos y hy).1⟩
    have HE : Hid (T = 0 ∨ xs.countP (fun x => x.2.a + x.2.s == T) = 1) := HEnd
    obtain ⟨cs', HZ⟩ : ∃ cs', Hid (cs' = putL cs T (List.replicate n 0)) := ⟨_, rfl⟩
    rw [← HZ.out] at hR4
    have HZ2 : Hid (∀ j, j < n → cs'.getD (T + j) 0 = 0) := fun j hj => by
      rw [HZ.out, putL_getD _ _ _ (by have := H2.out.1.len; simp; omega), if_pos (by simp; omega)]
      rw [List.getD_eq_getElem?_getD, List.getElem?_replicate]; split <;> rfl
    have H3 : Hid (Rx w w3 A C M F f' size h0 81 cs' (ins hb k (h0, ⟨b, T, n⟩)) ∧ HR2 w3 v xs) := ⟨⟨hR4, fun j e => by
      rcases fp_ins h1 e with e | e
      · exact H2.out.2.1 j e
      · have := H2.out.2.2.size; dsimp only at e; omega, H2.out.2.2.since hk4 H2.out.2.1⟩, HV.out.1.heap (fun g hg => hk4.block g (HV.out.2.1 g hg).2 (fun e => by
        have := (HV.out.2.1 g hg).1
        have := HFP.out g e
        omega)), fun g hg => Nat.lt_of_lt_of_le (HV.out.2.1 g hg).2 hk4.size⟩
    obtain ⟨hb', Hb'⟩ : ∃ hb', Hid (hb' = ins hb k (h0, ⟨b, T, n⟩)) := ⟨_, rfl⟩
    rw [← Hb'.out] at H3 HX HLk hmem
    have HMem : Hid (((h0, ⟨b, T, n⟩) : Nat × Nd) ∈ hb') := hmem
    have HA0 : Hid (Calls Try.prog 20 #[.pointer (some ⟨A, 0, none⟩), .int .i64 h0] w3 fun e w' => e = .returned (.int .i64 T) ∧ w3 = w') := Addr_some (x := (h0, ⟨b, T, n⟩)) hmem HWf.out _ H3.out.1.1
    have HLd : Hid (∀ j, j < n → ∀ W, Rx w W A C M F f' size h0 81 cs' hb' → Calls Try.prog 30 #[.pointer (some ⟨A, 0, none⟩), .int .i64 h0, .int .i64 j] W fun e w' => e = .returned (.tuple #[.int .i64 0, .int .i64 0]) ∧ Kept No W w') := fun j hj W hW => by
      have := Load_some (x := (h0, ⟨b, T, n⟩)) HMem.out HWf.out j hj W hW.1
      rw [HZ2.out j hj] at this; exact this
    clear i1 i2 i3 i4 hR4 hk4 hmem hle hown hpk hDs HEnd
    go_wp2_with (first | (go_at_call 14; refine (no_any _ _).mono ?_; rintro e w' ⟨rfl, rfl⟩) | (go_at_call 20; refine HA0.out.mono ?_; rintro e w' ⟨rfl, rfl⟩))
    go_loopw [12, 13, 14] (fun i _ _ wr => ∃ j : Nat, j ≤ n ∧ i = .int .i64 j ∧ Hid (Rx w wr A C M F f' size h0 81 cs' hb' ∧ HR2 wr v xs)) (fun i _ _ _ => n - (intOf i).toNat)
    case atStart => exact ⟨0, Nat.zero_le _, rfl, H3.out⟩
    case round =>
      obtain ⟨j, hj, rfl, HW⟩ := hrel
      by_cases hlt : j < n
      · have j1 : (j : Int) < (n : Int) := by omega
        go_wp2_with fail
        refine (HLd.out j hlt _ HW.out.1).mono ?_
        rintro e w5 ⟨rfl, h5⟩
        have HW5 : Hid (Rx w w5 A C M F f' size h0 81 cs' hb' ∧ HR2 w5 v xs) := ⟨HW.out.1.no h5, HW.out.2.kept h5⟩
        clear h5
        go_wp2_with (go_at_call 14; refine (no_any _ _).mono ?_; rintro e w' ⟨rfl, rfl⟩)
        go_round
        case rel => exact ⟨j + 1, by omega, by go_num, HW5.out⟩
        case measure => simp [intOf]; omega
      · have he : j = n := by omega
        subst he
        obtain ⟨W0, hW0⟩ : ∃ W, W = wr := ⟨_, rfl⟩
        subst hW0
        have HAd : Hid (∀ W, Kept No W0 W → ∀ k (hk : k < xs.length), Calls Try.prog 20 #[.pointer (some ⟨A, 0, none⟩), .int .i64 (xs[k].1 : Int)] W fun e w' => e = .returned (.int .i64 xs[k].2.a) ∧ W = w') := fun W hW k hk =>
          Addr_some (HX.out k hk).1 (HX.out k hk).2.1 _ (HW.out.1.1.no hW)
        have HLn : Hid (∀ W, Kept No W0 W → ∀ k (hk : k < xs.length), Calls Try.prog 18 #[.pointer (some ⟨A, 0, none⟩), .int .i64 (xs[k].1 : Int)] W fun e w' => e = .returned (.int .i64 xs[k].2.s) ∧ W = w') := fun W hW k hk =>
          Len_some (HX.out k hk).1 (HX.out k hk).2.1 _ (HW.out.1.1.no hW)
        obtain ⟨so, cap2, hv2, hcap2, hcell⟩ := HW.out.2.1
        subst hv2
        have HC : Hid (∀ k (hk : k < xs.length), ∃ g, so = some ⟨g, 0, none⟩ ∧ ∀ j (hj : j < xs.length), W0.cell? ⟨g, j, none⟩ = some (.int .i64 (xs[j].1 : Int))) := hcell
        have HWr : Hid (Rx w W0 A C M F f' size h0 81 cs' hb') := HW.out.1
        clear hcell HW HV HFP
        go_wp2_with fail
        go_loopw [15, 16] (fun c i wq => ∃ q : Nat, q ≤ xs.length ∧ i = .int .i64 q ∧ Hid (c = .int .i64 ((xs.take q).countP (fun x => x.2.a + x.2.s == T) : Nat)) ∧ Hid (wq.heap = W0.heap ∧ Kept No W0 wq)) (fun _ i _ => xs.length - (intOf i).toNat)
        case atStart => exact ⟨0, Nat.zero_le _, rfl, rfl, rfl, Kept.refl _ _⟩
        case round =>
          obtain ⟨q, hq, rfl, hc1, hwq⟩ := hrel
          have hc2 := hc1.out
          subst hc2
          clear hc1
          by_cases hql : q < xs.length
          · obtain ⟨g, hg, hcl⟩ := HC.out q hql
            have hck : wr.cell? ⟨g, q, none⟩ = some (.int .i64 (xs[q].1 : Int)) := by rw [← hcl q hql]; simp [World.cell?, hwq.out.1]
            have hX := HX.out q hql
            obtain ⟨a, Ha⟩ : ∃ a, Hid (xs[q].2.a = a) := ⟨xs[q].2.a, (show xs[q].2.a = xs[q].2.a from rfl)⟩
            obtain ⟨s, Hs⟩ : ∃ s, Hid (xs[q].2.s = s) := ⟨xs[q].2.s, (show xs[q].2.s = xs[q].2.s from rfl)⟩
            obtain ⟨x, Hx⟩ : ∃ x : Int, Hid ((xs[q].1 : Int) = x) := ⟨(xs[q].1 : Int), (show (xs[q].1 : Int) = (xs[q].1 : Int) from rfl)⟩
            have HAk : Hid (∀ m, Calls Try.prog 20 #[.pointer (some ⟨A, 0, none⟩), .int .i64 x] (wr.drewN m) fun e w' => e = .returned (.int .i64 a) ∧ wr.drewN m = w') := fun m => by
              have := HAd.out (wr.drewN m) (hwq.out.2.drewN m) q hql; rw [Ha.out, Hx.out] at this; exact this
            have HLk2 : Hid (∀ m, Calls Try.prog 18 #[.pointer (some ⟨A, 0, none⟩), .int .i64 x] (wr.drewN m) fun e w' => e = .returned (.int .i64 s) ∧ wr.drewN m = w') := fun m => by
              have := HLn.out (wr.drewN m) (hwq.out.2.drewN m) q hql; rw [Hs.out, Hx.out] at this; exact this
            have hxh : (x == (h0 : Int)) = false := by
              rw [beq_eq_false_iff_ne, ← Hx.out]; have := hX.2.2.1; omega
            have hbd := hX.2.2.2
            rw [Ha.out, Hs.out] at hbd
            rw [Hx.out] at hck
            obtain ⟨c, HCn⟩ : ∃ c, Hid ((xs.take q).countP (fun x => x.2.a + x.2.s == T) = c) := ⟨_, rfl⟩
            have hcle : c ≤ q := by
              rw [← HCn.out]
              have := List.countP_le_length (p := fun x : Nat × Nd => x.2.a + x.2.s == T) (l := xs.take q)
              rw [List.length_take] at this; omega
            have HCs : Hid ((xs.take (q + 1)).countP (fun x => x.2.a + x.2.s == T) = c + if a + s = T then 1 else 0) := by
              show _ = _
              rw [List.take_succ_eq_append_getElem hql, List.countP_append, HCn.out, List.countP_singleton, Ha.out, Hs.out]
              simp
            rw [HCn.out]
            have t1 : (0 : Int) ≤ (q : Int) := by omega
            have t2 : (q : Int) < (xs.length : Int) := by omega
            have t3 : (q : Int).toNat = q := by omega
            have u2 : IntKind.i64.wrap ((a : Int) + (s : Int)) = (a : Int) + (s : Int) := by rw [IntKind.wrap_i64]; omega
            have HW2 : Hid (∀ m, (wr.drewN m).heap = W0.heap ∧ Kept No W0 (wr.drewN m)) := fun m => ⟨hwq.out.1, hwq.out.2.drewN m⟩
            subst hg
            clear hcl hX
            by_cases hT : a + s = T
            · have f1 : ((a : Int) + (s : Int) == (T : Int)) = true := by rw [beq_iff_eq]; omega
              have HCs2 : Hid ((xs.take (q + 1)).countP (fun x => x.2.a + x.2.s == T) = c + 1) := by have := HCs.out; rw [if_pos hT] at this; exact this
              clear hT HCs
              go_wp2_with fail
              go_quiet (first | (go_at_call 20; exact quiet_same (HAk.out _)) | (go_at_call 18; exact quiet_same (HLk2.out _)))
              go_wp2
              go_round
              case rel => exact ⟨q + 1, by omega, by go_num, (show Value.int .i64 ((c : Int) + 1) = _ by rw [HCs2.out, Int.natCast_add]; rfl), HW2.out _⟩
              case measure => simp [intOf]; omega
            · have f1 : ((a : Int) + (s : Int) == (T : Int)) = false := by rw [beq_eq_false_iff_ne]; omega
              have HCs2 : Hid ((xs.take (q + 1)).countP (fun x => x.2.a + x.2.s == T) = c) := by have := HCs.out; rw [if_neg hT] at this; exact this
              clear hT HCs
              go_wp2_with fail
              go_quiet (first | (go_at_call 20; exact quiet_same (HAk.out _)) | (go_at_call 18; exact quiet_same (HLk2.out _)))
              go_wp2
              go_round
              case rel => exact ⟨q + 1, by omega, by go_num, (show Value.int .i64 (c : Int) = _ by rw [HCs2.out]), HW2.out _⟩
              case measure => simp [intOf]; omega
          · have he : q = xs.length := by omega
            subst he
            rw [List.take_of_length_le (Nat.le_refl _)]
            obtain ⟨c, HCn⟩ : ∃ c, Hid (xs.countP (fun x => x.2.a + x.2.s == T) = c) := ⟨_, rfl⟩
            rw [HCn.out]
            have HE2 : Hid (T = 0 ∨ c = 1) := by have := HE.out; rw [HCn.out] at this; exact this
            have HWx : Hid (Rx w wr A C M F f' size h0 81 cs' hb') := HWr.out.no hwq.out.2
            clear HCn hwq
            go_wp2_with fail
            go_loop [17] (fun i => ∃ q : Nat, 1 ≤ q ∧ q ≤ max h0 1 ∧ i = .int .i64 q) (fun i => h0 + 1 - (intOf i).toNat)
            case atStart => exact ⟨1, Nat.le_refl _, by omega, rfl⟩
            case round =>
              obtain ⟨q, hq1, hq2, rfl⟩ := hrel
              by_cases hqh : q < h0
              · obtain ⟨y, hy, hyq, hys⟩ := HLk.out q hq1 hqh
                have HLy : Hid (Calls Try.prog 18 #[.pointer (some ⟨A, 0, none⟩), .int .i64 q] wr fun e w' => e = .returned (.int .i64 y.2.s) ∧ wr = w') := by
                  have hwy : wf (y.1 : Int) := wf_of (by omega) (by have := HWf.out; have := HWx.out.1.h_le; omega)
                  have := Len_some hy hwy wr HWx.out.1
                  rw [hyq] at this; exact this
                obtain ⟨s, Hs⟩ : ∃ s, Hid (y.2.s = s) := ⟨y.2.s, (show y.2.s = y.2.s from rfl)⟩
                rw [Hs.out] at HLy hys
                have f1 : ((s : Int) == 0) = false := by rw [beq_eq_false_iff_ne]; omega
                have t4 : (q : Int) < (h0 : Int) := by omega
                clear hy hyq
                go_wp2_with (go_at_call 18; refine HLy.out.mono ?_; rintro e w' ⟨rfl, rfl⟩)
                go_round
                case rel => exact ⟨q + 1, by omega, by omega, by go_num⟩
                case measure => simp [intOf]; omega
              · have t4 : ¬ ((q : Int) < (h0 : Int)) := by omega
                have HAl := alive_any wr
                by_cases hT0 : T = 0
                · subst hT0
                  go_wp2_with fail
                  refine HAl.mono ?_
                  rintro e w6 ⟨rfl, h6⟩
                  have HK6 : Hid (Kept No w w6) := HWx.out.2.2.trans h6
                  clear h6
                  go_wp2
                  go_ret
                  exact ⟨rfl, HK6.out⟩
                · have hE : c = 1 := by rcases HE2.out with h | h; exact absurd h hT0; exact h
                  subst hE
                  have f1 : ((T : Int) == 0) = false := by rw [beq_eq_false_iff_ne]; omega
                  clear hT0
                  go_wp2_with fail
                  refine HAl.mono ?_
                  rintro e w6 ⟨rfl, h6⟩
                  have HK6 : Hid (Kept No w w6) := HWx.out.2.2.trans h6
                  clear h6
                  go_wp2
                  go_ret
                  exact ⟨rfl, HK6.out⟩
  · have HG : Hid (∀ i, i < (nodes F hb).length → gap (nodes F hb) size i < n) := h1
    clear h1
    go_wp2_with fail
    refine (Alloc_full w2 H2.out.1 hr HG.out).mono ?_
    rintro e w3 ⟨rfl, ⟨f', hR3⟩, hk3⟩
    have H3 : Hid (Rx w w3 A C M F f' size least 80 cs hb) := ⟨hR3, H2.out.2.1, H2.out.2.2.since (hk3.mono (fun k hk => Or.inl hk)) H2.out.2.1⟩
    have HF : Hid (Calls Try.prog 23 #[.pointer (some ⟨A, 0, none⟩)] w3 fun e w' => ∃ v', e = .returned v' ∧ HRow w' v' xs ∧ HRow w' v xs ∧ Kept No w3 w') :=
      First_refused (w2 := w2) (f := f) H3.out HV.out.2.2.1 HV.out.2.2.2.1 (HV.out.1.heap (fun g hg => hk3.block g (HV.out.2.1 g hg).2 (fun e => by
        have := (HV.out.2.1 g hg).1
        have := HFP.out A (Or.inl rfl)
        unfold Only at e
        omega))) (fun g hg => Nat.lt_of_lt_of_le (HV.out.2.1 g hg).2 hk3.size)
    clear hR3 hk3
    go_wp2_with (go_at_call 14; refine (no_any _ _).mono ?_; rintro e w' ⟨rfl, rfl⟩)
    refine HF.out.mono ?_
    rintro e w4 ⟨v', rfl, q1, q2, q3⟩
    have HI : Hid (Calls Try.prog 33 #[v', v] w4 fun e w' => e = .returned (.bool true) ∧ Kept No w4 w') := Ints_same q1 q2 hxl
    have HK4 : Hid (Kept No w w4) := H3.out.2.2.trans q3
    clear q1 q2 q3
    go_wp2_with fail
    refine HI.out.mono ?_
    rintro e w5 ⟨rfl, h5⟩
    have HK5 : Hid (Kept No w w5) := HK4.out.trans h5
    clear h5
    go_wp2_with fail
    refine (alive_any w5).mono ?_
    rintro e w6 ⟨rfl, h6⟩
    have HK6 : Hid (Kept No w w6) := HK5.out.trans h6
    clear h6
    go_wp2
    go_ret
    exact ⟨rfl, HK6.out⟩

theorem ArenaFirst_any {L : List (Int × Int × Int × Int)} (size : Int) (v : Value) (n : Int) (w : World) (hL : Acts w v L) : Calls Try.prog 8 #[.int .i64 size, v, .int .i64 n] w fun e w' => e = .returned (.bool true) ∧ Below w.heap.size w w' :=
  (First_any size n v L w hL).mono (fun e w' ⟨he, hk⟩ => ⟨he, hk.below (Nat.le_refl _) (fun k e => e.elim)⟩)
end Go.Proofs.Ytdaklohfecinjaa
