/- ArenaGrows, walked. -/
import Derived.Test.YtdaklohfecinjaaH1
namespace Go.Proofs.Ytdaklohfecinjaa
open Go.RowKit
set_option linter.unusedSimpArgs false
set_option linter.unusedVariables false

set_option maxRecDepth 100000 in
set_option maxHeartbeats 4000000 in
theorem Grows_any (size h n : Int) (v : Value) (L : List (Int × Int × Int × Int)) (w : World) (hL : Acts w v L) (hw : wf h) :
    Calls Try.prog 9 #[.int .i64 size, v, .int .i64 h, .int .i64 n] w fun e w' => e = .returned (.bool true) ∧ Kept No w w' := by
  have HL : Hid (Acts w v L) := hL
  have HW : Hid (wf h) := hw
  obtain ⟨ao, cap, rfl, q1, q2⟩ := hL
  clear q1 q2 hw
  cases hs : rl size with
  | false =>
    go_enter Try.func9, Try.ntmps9
    go_wp2_with (go_at_call 22; refine (made_none _ _ _ _ HL.out hs).mono ?_; rintro e w' ⟨rfl, rfl⟩)
    refine (alive_any w).mono ?_
    rintro e w2 ⟨rfl, h2⟩
    have H2 : Hid (Kept No w w2) := h2
    clear h2
    go_wp2
    go_ret
    exact ⟨rfl, H2.out⟩
  | true =>
  obtain ⟨size, rfl⟩ := rl_nat hs
  rcases Nat.lt_or_ge 80 L.length with hn0 | hn
  · have hn : ¬ L.length ≤ 80 := by omega
    go_enter Try.func9, Try.ntmps9
    go_wp2_with fail
    refine (made_many _ _ _ _ HL.out hs hn).mono ?_
    rintro e w1 ⟨rfl, h1⟩
    have H1 : Hid (Kept No w w1) := h1
    clear h1
    go_wp2_with fail
    refine (alive_any w1).mono ?_
    rintro e w2 ⟨rfl, h2⟩
    have H2 : Hid (Kept No w w2) := H1.out.trans h2
    clear h2
    go_wp2
    go_ret
    exact ⟨rfl, H2.out⟩
  obtain ⟨i0, hi, hz0, hz1, hz2⟩ := info_parts info2
  go_enter Try.func9, Try.ntmps9
  go_wp2_with fail
  refine (made_some _ _ _ _ HL.out hs hn).mono ?_
  rintro e w1 ⟨A, rfl, hb, C, M, F, f, least, cs, hR⟩
  have H1 : Hid (Rx w w1 A C M F f size least 80 cs hb) := hR
  clear hR
  cases hl : look hb h with
  | none =>
    have HN : Hid (look hb h = none) := hl
    clear hl
    go_wp2_with (go_at_call 18; refine (Len_none _ HW.out _ H1.out.1 HN.out).mono ?_; rintro e w' ⟨rfl, rfl⟩)
    go_loop [12] (fun i => i = .int .i64 0) (fun _ => 0)
    case atStart => rfl
    case round =>
      subst hrel
      go_wp2_with (first | (go_at_call 20; refine (Addr_none _ HW.out _ H1.out.1 HN.out).mono ?_; rintro e w' ⟨rfl, rfl⟩) | (go_at_call 34; refine (Resize_none _ _ HW.out _ H1.out.1 HN.out).mono ?_; rintro e w' ⟨rfl, rfl⟩) | (go_at_call 14; refine (no_any _ _).mono ?_; rintro e w' ⟨rfl, rfl⟩))
      refine (alive_any w1).mono ?_
      rintro e w2 ⟨rfl, h2⟩
      have H2 : Hid (Kept No w w2) := H1.out.2.2.trans h2
      clear h2
      go_wp2
      go_ret
      exact ⟨rfl, H2.out⟩
  | some p =>
    obtain ⟨k, hk, rfl⟩ := look_at hl
    clear hl
    have hm : hb[k].2 ∈ nodes F hb := List.mem_cons_of_mem _ (List.mem_map_of_mem (List.getElem_mem hk))
    have hbd := H1.out.1.geo.bd _ hm
    have hsz := H1.out.1.sz
    have hlen := H1.out.1.len
    have hpk := H1.out.1.pos hb[k] (List.getElem_mem hk)
    obtain ⟨s, HS⟩ : ∃ s, Hid (hb[k].2.s = s) := ⟨_, show _ = _ from rfl⟩
    obtain ⟨a, HA⟩ : ∃ a, Hid (hb[k].2.a = a) := ⟨_, show _ = _ from rfl⟩
    obtain ⟨i, HI⟩ : ∃ i, Hid (hb[k].1 = i) := ⟨_, show _ = _ from rfl⟩
    rw [HS.out, HA.out] at hbd
    rw [HS.out] at hpk
    rw [HI.out] at HW ⊢
    have HLen : Hid (∀ w', Kept No w1 w' → Calls Try.prog 18 #[.pointer (some ⟨A, 0, none⟩), .int .i64 i] w' fun e w'' => e = .returned (.int .i64 s) ∧ w' = w'') := fun w' hk' => by
      have := Len_some (List.getElem_mem hk) (by rw [HI.out]; exact HW.out) w' (H1.out.1.no hk')
      rw [HI.out, HS.out] at this; exact this
    have HAddr : Hid (∀ w', Kept No w1 w' → Calls Try.prog 20 #[.pointer (some ⟨A, 0, none⟩), .int .i64 i] w' fun e w'' => e = .returned (.int .i64 a) ∧ w' = w'') := fun w' hk' => by
      have := Addr_some (List.getElem_mem hk) (by rw [HI.out]; exact HW.out) w' (H1.out.1.no hk')
      rw [HI.out, HA.out] at this; exact this
    have HLoad : Hid (∀ w' (j : Nat), Kept No w1 w' → j < s → Calls Try.prog 30 #[.pointer (some ⟨A, 0, none⟩), .int .i64 i, .int .i64 j] w' fun e w'' => e = .returned (.tuple #[.int .i64 (cs.getD (a + j) 0), .int .i64 0]) ∧ Kept No w' w'') := fun w' j hk' hj => by
      have := Load_some (List.getElem_mem hk) (by rw [HI.out]; exact HW.out) j (by rw [HS.out]; exact hj) w' (H1.out.1.no hk')
      rw [HI.out, HA.out] at this; exact this
    have hs64 : s ≤ 65536 := by omega
    clear hm
    go_wp2_with (go_at_call 18; refine (HLen.out _ (Kept.refl _ _)).mono ?_; rintro e w' ⟨rfl, rfl⟩)
    go_loopw [11, 12, 13, 14] (fun v i _ _ wr => ∃ (j : Nat) (u : Value), j ≤ s ∧ i = .int .i64 j ∧ u = v ∧ Hid (wr.ownsRow w1.heap.size 2 1 u j (rowD cs a j) ∧ Kept No w1 wr)) (fun _ i _ _ _ => s - (intOf i).toNat)
    case atStart => exact ⟨0, _, Nat.zero_le _, rfl, rfl, World.ownsRow_nil _ _ _ _, Kept.refl _ _⟩
    case round =>
      obtain ⟨j, u, hj, rfl, hu, HJ⟩ := hrel
      subst hu
      by_cases hlt : j < s
      · have k2 : (j : Int) < (s : Int) := by omega
        go_wp2_with fail
        refine (HLoad.out _ j HJ.out.2 hlt).mono ?_
        rintro e w2 ⟨rfl, hk2⟩
        have H2 : Hid (w2.ownsRow w1.heap.size 2 1 u j (rowD cs a j) ∧ Kept No w1 w2) := ⟨ownsRow_no HJ.out.1 hk2, HJ.out.2.trans hk2⟩
        clear hk2
        obtain ⟨x, HX⟩ : ∃ x, Hid (cs.getD (a + j) 0 = x) := ⟨_, show _ = _ from rfl⟩
        rw [HX.out]
        go_wp2_with (at_builtin; refine wpList_append_own _ rfl _ _ 51 rfl w1.heap.size 2 i0 (.int .i64 0) 1 8 Try.underlying51 hi hz0 hz1 hz2 rfl (by decide) u j (rowD cs a j) rfl (H2.out.1.alloc _) ⟨w2.heap.size, 0, none⟩ 1 1 [.int .i64 x] rfl ?qc1 ?qc2 ?qc3 ?qc4 ?qc5 ?qc6 ?_)
        case qc1 => rfl
        case qc2 =>
          intro t y ht
          have e0 : t = 0 := by
            have := (List.getElem?_eq_some_iff.1 ht).1
            simpa using this
          subst e0
          simp at ht
          subst ht
          rw [Addr.add_lit]
          have := World.alloc_heap_new w2 (.cells #[.int .i64 x] 2)
          rw [cell_of this]; rfl
        case qc3 => intro y hy; rw [List.mem_singleton] at hy; subst hy; rfl
        case qc4 => unfold maxLen; omega
        case qc5 => omega
        case qc6 => have := H2.out.2.size; simp; omega
        intro u' w3 hown hgrow hnil
        have H3 : Hid (w3.ownsRow w1.heap.size 2 1 u' (j + 1) (rowD cs a (j + 1)) ∧ Kept No w1 w3) := by
          refine ⟨?_, (H2.out.2.alloc _).grown hgrow (fun q e => .inr ?_)⟩
          · rw [rowD_succ, HX.out]
            exact hown
          · exact (H2.out.1.lt q e).1
        clear hown hgrow hnil
        go_wp2
        go_roundw
        case rel => exact ⟨j + 1, _, by omega, by go_num, rfl, H3.out⟩
        case measure => simp [intOf]; omega
      · have hj2 : ¬ (j : Int) < (s : Int) := by omega
        obtain rfl : s = j := by omega
        go_wp2_with (go_at_call 20; refine (HAddr.out _ HJ.out.2).mono ?_; rintro e w' ⟨rfl, rfl⟩)
        have HU : Hid (wr.ownsRow w1.heap.size 2 1 u s (rowD cs a s)) := HJ.out.1
        have HK : Hid (Kept No w1 wr) := HJ.out.2
        have s0 : ((s : Int) == 0) = false := by simp; omega
        clear HJ hj hj2
        cases hr : rl n with
        | false =>
          go_wp2_with fail
          refine (show Calls Try.prog 34 #[.pointer (some ⟨A, 0, none⟩), .int .i64 i, .int .i64 n] wr _ from by have := Resize_arg (List.getElem_mem hk) (by rw [HI.out]; exact HW.out) n hr wr (H1.out.1.no HK.out); rw [HI.out] at this; exact this).mono ?_
          rintro e w' ⟨rfl, rfl⟩
          go_wp2_with (first | (go_at_call 14; refine (no_any _ _).mono ?_; rintro e w' ⟨rfl, rfl⟩) | (go_at_call 18; refine (HLen.out _ HK.out).mono ?_; rintro e w' ⟨rfl, rfl⟩) | (go_at_call 20; refine (HAddr.out _ HK.out).mono ?_; rintro e w' ⟨rfl, rfl⟩))
          refine (alive_any wr).mono ?_
          rintro e w2 ⟨rfl, h2⟩
          have H2 : Hid (Kept No w w2) := (H1.out.2.2.trans HK.out).trans h2
          clear h2
          go_wp2
          go_ret
          exact ⟨rfl, H2.out⟩
        | true =>
          obtain ⟨n, rfl⟩ := rl_nat hr
          have hn' := rl_true hr
          go_wp2_with fail
          refine (show Calls Try.prog 34 #[.pointer (some ⟨A, 0, none⟩), .int .i64 i, .int .i64 n] wr _ from by have := Resize_some wr (H1.out.1.no HK.out) hk (by rw [HI.out]; exact HW.out) hr; rw [HI.out] at this; exact this).mono ?_
          rintro e w2 ⟨hres, hk2⟩
          have HK2 : Hid (Kept No w w2) := (H1.out.2.2.trans HK.out).since hk2 H1.out.2.1
          have HU2 : Hid (w2.ownsRow w1.heap.size 2 1 u s (rowD cs a s)) := ownsRow_out HU.out hk2 (fun q e => H1.out.1.lt e)
          clear hk2
          rcases hres with ⟨rfl, _, f', hR'⟩ | ⟨rfl, k', hk', hg1, hg2, f', hR'⟩
          · have HR2 : Hid (Rp w2 A C M F f' size least 80 cs hb) := hR'
            clear hR'
            have HLen2 : Hid (Calls Try.prog 18 #[.pointer (some ⟨A, 0, none⟩), .int .i64 i] w2 fun e w'' => e = .returned (.int .i64 s) ∧ w2 = w'') := by
              have := Len_some (List.getElem_mem hk) (by rw [HI.out]; exact HW.out) w2 HR2.out
              rw [HI.out, HS.out] at this; exact this
            have HAddr2 : Hid (Calls Try.prog 20 #[.pointer (some ⟨A, 0, none⟩), .int .i64 i] w2 fun e w'' => e = .returned (.int .i64 a) ∧ w2 = w'') := by
              have := Addr_some (List.getElem_mem hk) (by rw [HI.out]; exact HW.out) w2 HR2.out
              rw [HI.out, HA.out] at this; exact this
            go_wp2_with (first | (go_at_call 14; refine (no_any _ _).mono ?_; rintro e w' ⟨rfl, rfl⟩) | (go_at_call 18; refine HLen2.out.mono ?_; rintro e w' ⟨rfl, rfl⟩) | (go_at_call 20; refine HAddr2.out.mono ?_; rintro e w' ⟨rfl, rfl⟩))
            refine (alive_any w2).mono ?_
            rintro e w3 ⟨rfl, h3⟩
            have H3 : Hid (Kept No w w3) := HK2.out.trans h3
            clear h3
            go_wp2
            go_ret
            exact ⟨rfl, H3.out⟩
          · obtain ⟨T, HT⟩ : ∃ T, Hid ((nodes F (rem hb k))[k'].a + (nodes F (rem hb k))[k'].s = T) := ⟨_, show _ = _ from rfl⟩
            have hle := place_le (n := n) hk H1.out.1.geo (hk' := hk') (hfirst := hg2) (h1 := by omega)
            rw [HT.out, HS.out, HA.out] at hR' hle
            have hmem : ((i, ⟨hb[k].2.p, T, n⟩) : Nat × Nd) ∈ ins (rem hb k) k' (i, ⟨hb[k].2.p, T, n⟩) := ins_mem.2 (.inl rfl)
            have hTn : T + n ≤ size := hR'.geo.bd ⟨hb[k].2.p, T, n⟩ (List.mem_cons_of_mem _ (List.mem_map_of_mem hmem))
            have HR2 : Hid (Rp w2 A C M F f' size least 80 (layC cs a (min n s) T n) (ins (rem hb k) k' (i, ⟨hb[k].2.p, T, n⟩)) ∧ ((i, ⟨hb[k].2.p, T, n⟩) : Nat × Nd) ∈ ins (rem hb k) k' (i, ⟨hb[k].2.p, T, n⟩)) := ⟨hR', hmem⟩
            have HLen2 : Hid (Calls Try.prog 18 #[.pointer (some ⟨A, 0, none⟩), .int .i64 i] w2 fun e w'' => e = .returned (.int .i64 n) ∧ w2 = w'') :=
              Len_some HR2.out.2 HW.out w2 HR2.out.1
            have HAddr2 : Hid (Calls Try.prog 20 #[.pointer (some ⟨A, 0, none⟩), .int .i64 i] w2 fun e w'' => e = .returned (.int .i64 T) ∧ w2 = w'') :=
              Addr_some HR2.out.2 HW.out w2 HR2.out.1
            have HLoad2 : Hid (∀ w' (j : Nat), Kept No w2 w' → j < n → Calls Try.prog 30 #[.pointer (some ⟨A, 0, none⟩), .int .i64 i, .int .i64 j] w' fun e w'' => e = .returned (.tuple #[.int .i64 (if j < s then cs.getD (a + j) 0 else 0), .int .i64 0]) ∧ Kept No w' w'') := fun w' j hk' hj => by
              have := Load_some HR2.out.2 HW.out j hj w' (HR2.out.1.no hk')
              dsimp only at this
              rw [layC_getD cs a s T n j (by omega) (by omega) hj] at this
              exact this
            obtain ⟨hul, ⟨_, hu0⟩ | ⟨g, cap', cur, rfl, hg, hcur, hcap, hmax, hcs, htk⟩⟩ := HU2.out
            · omega
            have HG : Hid (∀ w' (j : Nat), Kept No w2 w' → j < s → w'.cell? ⟨g, j, none⟩ = some (.int .i64 (cs.getD (a + j) 0))) := fun w' j hk' hj => by
              rw [cell_of (hk'.heap hcur id)]
              have : (cur.toList.take (s * 1))[j]? = cur[j]? := by
                rw [List.getElem?_take, if_pos (by omega), Array.getElem?_toList]
              rw [← this, htk, rowD_at cs a hj]
            clear hR' hmem hg1 hg2 hul hg hcur hcap hmax hcs htk HU HU2
            rcases Nat.lt_or_ge a T with hT | hT
            · have t1 : (a : Int) < (T : Int) := by omega
              have t2 : ¬ (n : Int) ≤ (s : Int) := by omega
              clear hle hT
              go_wp2_with (first | (go_at_call 14; refine (no_any _ _).mono ?_; rintro e w' ⟨rfl, rfl⟩) | (go_at_call 18; refine HLen2.out.mono ?_; rintro e w' ⟨rfl, rfl⟩) | (go_at_call 20; refine HAddr2.out.mono ?_; rintro e w' ⟨rfl, rfl⟩))
              have e1 : decide ((n : Int) ≤ (s : Int)) = false := by simp; omega
              have e2 : decide (n ≤ s) = false := by simp; omega
              first | rw [e1] | rw [e2]
              clear t1 t2 e1 e2
              go_loopw [17, 18, 19, 20] (fun i _ _ _ wr => ∃ j : Nat, j ≤ n ∧ i = .int .i64 j ∧ Hid (Kept No w2 wr)) (fun i _ _ _ _ => n - (intOf i).toNat)
              case atStart => exact ⟨0, Nat.zero_le _, rfl, Kept.refl _ _⟩
              case round =>
                obtain ⟨j, hj, rfl, HJ⟩ := hrel
                by_cases hlt : j < n
                · have k2 : (j : Int) < (n : Int) := by omega
                  have k0 : (0 : Int) ≤ (j : Int) := by omega
                  have hLd := HLoad2.out _ j HJ.out hlt
                  by_cases hjs : j < s
                  · have k3 : (j : Int) < (s : Int) := by omega
                    rw [if_pos hjs] at hLd
                    obtain ⟨x, HX⟩ : ∃ x, Hid (cs.getD (a + j) 0 = x) := ⟨_, show _ = _ from rfl⟩
                    rw [HX.out] at hLd
                    have HLd : Hid (Calls Try.prog 30 #[.pointer (some ⟨A, 0, none⟩), .int .i64 i, .int .i64 j] wr fun e w'' => e = .returned (.tuple #[.int .i64 x, .int .i64 0]) ∧ Kept No wr w'') := hLd
                    clear hLd
                    have hxx : (x != x) = false := by simp
                    go_wp2_with fail
                    refine HLd.out.mono ?_
                    rintro e w3 ⟨rfl, hk3⟩
                    have H3 : Hid (Kept No w2 w3) := HJ.out.trans hk3
                    have c0 := HG.out w3 j H3.out hjs
                    rw [HX.out] at c0
                    clear hk3
                    go_wp2_with (go_at_call 14; refine (no_any _ _).mono ?_; rintro e w' ⟨rfl, rfl⟩)
                    go_roundw
                    case rel => exact ⟨j + 1, by omega, by go_num, H3.out⟩
                    case measure => simp [intOf]; omega
                  · have k3 : ¬ (j : Int) < (s : Int) := by omega
                    rw [if_neg hjs] at hLd
                    have HLd : Hid (Calls Try.prog 30 #[.pointer (some ⟨A, 0, none⟩), .int .i64 i, .int .i64 j] wr fun e w'' => e = .returned (.tuple #[.int .i64 0, .int .i64 0]) ∧ Kept No wr w'') := hLd
                    clear hLd
                    go_wp2_with fail
                    refine HLd.out.mono ?_
                    rintro e w3 ⟨rfl, hk3⟩
                    have H3 : Hid (Kept No w2 w3) := HJ.out.trans hk3
                    clear hk3
                    go_wp2_with (go_at_call 14; refine (no_any _ _).mono ?_; rintro e w' ⟨rfl, rfl⟩)
                    go_roundw
                    case rel => exact ⟨j + 1, by omega, by go_num, H3.out⟩
                    case measure => simp [intOf]; omega
                · have k2 : ¬ (j : Int) < (n : Int) := by omega
                  go_wp2_with fail
                  refine (alive_any wr).mono ?_
                  rintro e w3 ⟨rfl, h3⟩
                  have H3 : Hid (Kept No w w3) := (HK2.out.trans HJ.out).trans h3
                  clear h3
                  go_wp2
                  go_ret
                  exact ⟨rfl, H3.out⟩
            · have t1 : ¬ (a : Int) < (T : Int) := by omega
              clear hle hT
              go_wp2_with (first | (go_at_call 14; refine (no_any _ _).mono ?_; rintro e w' ⟨rfl, rfl⟩) | (go_at_call 18; refine HLen2.out.mono ?_; rintro e w' ⟨rfl, rfl⟩) | (go_at_call 20; refine HAddr2.out.mono ?_; rintro e w' ⟨rfl, rfl⟩))
              go_loopw [17, 18, 19, 20] (fun i _ _ _ wr => ∃ j : Nat, j ≤ n ∧ i = .int .i64 j ∧ Hid (Kept No w2 wr)) (fun i _ _ _ _ => n - (intOf i).toNat)
              case atStart => exact ⟨0, Nat.zero_le _, rfl, Kept.refl _ _⟩
              case round =>
                obtain ⟨j, hj, rfl, HJ⟩ := hrel
                by_cases hlt : j < n
                · have k2 : (j : Int) < (n : Int) := by omega
                  have k0 : (0 : Int) ≤ (j : Int) := by omega
                  have hLd := HLoad2.out _ j HJ.out hlt
                  by_cases hjs : j < s
                  · have k3 : (j : Int) < (s : Int) := by omega
                    rw [if_pos hjs] at hLd
                    obtain ⟨x, HX⟩ : ∃ x, Hid (cs.getD (a + j) 0 = x) := ⟨_, show _ = _ from rfl⟩
                    rw [HX.out] at hLd
                    have HLd : Hid (Calls Try.prog 30 #[.pointer (some ⟨A, 0, none⟩), .int .i64 i, .int .i64 j] wr fun e w'' => e = .returned (.tuple #[.int .i64 x, .int .i64 0]) ∧ Kept No wr w'') := hLd
                    clear hLd
                    have hxx : (x != x) = false := by simp
                    go_wp2_with fail
                    refine HLd.out.mono ?_
                    rintro e w3 ⟨rfl, hk3⟩
                    have H3 : Hid (Kept No w2 w3) := HJ.out.trans hk3
                    have c0 := HG.out w3 j H3.out hjs
                    rw [HX.out] at c0
                    clear hk3
                    go_wp2_with (go_at_call 14; refine (no_any _ _).mono ?_; rintro e w' ⟨rfl, rfl⟩)
                    go_roundw
                    case rel => exact ⟨j + 1, by omega, by go_num, H3.out⟩
                    case measure => simp [intOf]; omega
                  · have k3 : ¬ (j : Int) < (s : Int) := by omega
                    rw [if_neg hjs] at hLd
                    have HLd : Hid (Calls Try.prog 30 #[.pointer (some ⟨A, 0, none⟩), .int .i64 i, .int .i64 j] wr fun e w'' => e = .returned (.tuple #[.int .i64 0, .int .i64 0]) ∧ Kept No wr w'') := hLd
                    clear hLd
                    go_wp2_with fail
                    refine HLd.out.mono ?_
                    rintro e w3 ⟨rfl, hk3⟩
                    have H3 : Hid (Kept No w2 w3) := HJ.out.trans hk3
                    clear hk3
                    go_wp2_with (go_at_call 14; refine (no_any _ _).mono ?_; rintro e w' ⟨rfl, rfl⟩)
                    go_roundw
                    case rel => exact ⟨j + 1, by omega, by go_num, H3.out⟩
                    case measure => simp [intOf]; omega
                · have k2 : ¬ (j : Int) < (n : Int) := by omega
                  go_wp2_with fail
                  refine (alive_any wr).mono ?_
                  rintro e w3 ⟨rfl, h3⟩
                  have H3 : Hid (Kept No w w3) := (HK2.out.trans HJ.out).trans h3
                  clear h3
                  go_wp2
                  go_ret
                  exact ⟨rfl, H3.out⟩

theorem ArenaGrows_any {L : List (Int × Int × Int × Int)} (size : Int) (v : Value) (h n : Int) (w : World) (hL : Acts w v L) (hw : wf h) : Calls Try.prog 9 #[.int .i64 size, v, .int .i64 h, .int .i64 n] w fun e w' => e = .returned (.bool true) ∧ Below w.heap.size w w' :=
  (Grows_any size h n v L w hL hw).mono (fun e w' ⟨he, hk⟩ => ⟨he, hk.below (Nat.le_refl _) (fun k e => e.elim)⟩)
end Go.Proofs.Ytdaklohfecinjaa
