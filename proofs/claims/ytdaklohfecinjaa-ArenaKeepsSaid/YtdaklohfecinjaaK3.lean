/- ArenaKeeps, walked. -/
import Derived.Test.YtdaklohfecinjaaK2
namespace Go.Proofs.Ytdaklohfecinjaa
open Go.RowKit
set_option linter.unusedSimpArgs false
set_option linter.unusedVariables false

theorem Ph.load {w0 w : World} {A size n h0 : Nat} {d : List Int} (h : Ph w0 w A size n h0 d) (hw : wf h0) (j : Nat) (hj : j < d.length) :
    Calls Try.prog 30 #[.pointer (some ⟨A, 0, none⟩), .int .i64 h0, .int .i64 j] w fun e w' => e = .returned (.tuple #[.int .i64 (d.getD j 0), .int .i64 0]) ∧ Ph w0 w' A size n h0 d := by
  obtain ⟨hb, C, M, F, f, least, cs, hR, hH⟩ := h
  obtain ⟨x, hx, e1, e2, e3⟩ := hH
  subst e1
  refine (Load_some hx hw j (by omega) w hR.1).mono ?_
  rintro e w' ⟨he, hk⟩
  rw [e3 j hj] at he
  exact ⟨he, hb, C, M, F, f, least, cs, hR.no hk, x, hx, rfl, e2, e3⟩
theorem Ph.length {w0 w : World} {A size n h0 : Nat} {d : List Int} (h : Ph w0 w A size n h0 d) (hw : wf h0) :
    Calls Try.prog 18 #[.pointer (some ⟨A, 0, none⟩), .int .i64 h0] w fun e w' => e = .returned (.int .i64 d.length) ∧ w = w' := by
  obtain ⟨hb, C, M, F, f, least, cs, hR, hH⟩ := h
  obtain ⟨x, hx, e1, e2, e3⟩ := hH
  subst e1
  refine (Len_some hx hw w hR.1).mono ?_
  rintro e w' ⟨he, hk⟩
  rw [e2] at he
  exact ⟨he, hk⟩

/-- What the law lays into a block. -/
def sqs (n : Nat) : List Int := (List.range n).map fun t : Nat => (t : Int) * (t : Int) + 7
theorem sqs_length (n : Nat) : (sqs n).length = n := by simp [sqs]
theorem sqs_at {n j : Nat} (h : j < n) : (sqs n).getD j 0 = (j : Int) * (j : Int) + 7 := by
  unfold sqs
  rw [List.getD_eq_getElem?_getD, List.getElem?_map, List.getElem?_range h]; rfl
theorem sqf {j : Nat} (h : j ≤ 65536) : IntKind.i64.wrap ((j : Int) * (j : Int)) = (j : Int) * (j : Int) ∧ IntKind.i64.wrap ((j : Int) * (j : Int) + 7) = (j : Int) * (j : Int) + 7 := by
  have h1 : j * j ≤ 65536 * 65536 := Nat.mul_le_mul h h
  have h2 : (j : Int) * (j : Int) = ((j * j : Nat) : Int) := by simp
  rw [h2]
  constructor <;> (rw [IntKind.wrap_i64]; omega)

set_option maxRecDepth 100000 in
set_option maxHeartbeats 4000000 in
theorem Keeps_any (size n : Int) (v v2 : Value) (L L2 : List (Int × Int × Int × Int)) (w : World) (hL : Acts w v L) (hL2 : Acts w v2 L2) :
    Calls Try.prog 5 #[.int .i64 size, v, v2, .int .i64 n] w fun e w' => e = .returned (.bool true) ∧ Kept No w w' := by
  have HL : Hid (Acts w v L) := hL
  obtain ⟨ao, cap, rfl, q1, q2⟩ := hL
  obtain ⟨bo, cap2, rfl, q3, q4⟩ := hL2
  have HW : Hid (∀ a ∈ L2, wf a.2.1) := q3
  have HC : Hid (0 < L2.length → ∃ b off, bo = some ⟨b, off, none⟩ ∧ ∀ i (hi : i < L2.length),
    w.cell? ⟨b, off + i * 4, none⟩ = some (.int .i64 L2[i].1) ∧ w.cell? ⟨b, off + i * 4 + 1, none⟩ = some (.int .i64 L2[i].2.1) ∧ w.cell? ⟨b, off + i * 4 + 2, none⟩ = some (.int .i64 L2[i].2.2.1) ∧ w.cell? ⟨b, off + i * 4 + 3, none⟩ = some (.int .i64 L2[i].2.2.2)) := q4
  clear q1 q2 q3 q4
  cases hs : rl size with
  | false =>
    go_enter Try.func5, Try.ntmps5
    go_wp2_with (go_at_call 22; refine (made_none _ _ _ _ HL.out hs).mono ?_; rintro e w' ⟨rfl, rfl⟩)
    refine (alive_any w).mono ?_
    rintro e w2 ⟨rfl, h2⟩
    have H2 : Hid (Kept No w w2) := h2
    clear h2
    go_wp2
    go_ret
    exact ⟨rfl, H2.out⟩
  | true =>
  obtain ⟨size, rfl⟩ := rl_nat hs
  rcases Nat.lt_or_ge 80 L.length with hn0 | hn
  · have hn : ¬ L.length ≤ 80 := by omega
    go_enter Try.func5, Try.ntmps5
    go_wp2_with fail
    refine (made_many _ _ _ _ HL.out hs hn).mono ?_
    rintro e w1 ⟨rfl, h1⟩
    have H1 : Hid (Kept No w w1) := h1
    clear h1
    go_wp2_with fail
    refine (alive_any w1).mono ?_
    rintro e w2 ⟨rfl, h2⟩
    have H2 : Hid (Kept No w w2) := H1.out.trans h2
    clear h2
    go_wp2
    go_ret
    exact ⟨rfl, H2.out⟩
  go_enter Try.func5, Try.ntmps5
  go_wp2_with fail
  refine (made_some _ _ _ _ HL.out hs hn).mono ?_
  rintro e w1 ⟨A, rfl, hb, C, M, F, f, least, cs, hR⟩
  have H1 : Hid (Rx w w1 A C M F f size least 80 cs hb) := hR
  clear hR
  rcases Nat.lt_or_ge 80 L2.length with hm | hm
  · have hm' : ¬ (L2.length : Int) ≤ 80 := by omega
    go_wp2_with fail
    refine (alive_any w1).mono ?_
    rintro e w2 ⟨rfl, h2⟩
    have H2 : Hid (Kept No w w2) := H1.out.2.2.trans h2
    clear h2
    go_wp2
    go_ret
    exact ⟨rfl, H2.out⟩
  have hm' : (L2.length : Int) ≤ 80 := by omega
  cases hr : rl n with
  | false =>
    go_wp2_with (first | (go_at_call 27; refine (Alloc_arg _ _ H1.out.1 hr).mono ?_; rintro e w' ⟨rfl, rfl⟩) | (go_at_call 14; refine (no_any _ _).mono ?_; rintro e w' ⟨rfl, rfl⟩))
    refine (alive_any w1).mono ?_
    rintro e w2 ⟨rfl, h2⟩
    have H2 : Hid (Kept No w w2) := H1.out.2.2.trans h2
    clear h2
    go_wp2
    go_ret
    exact ⟨rfl, H2.out⟩
  | true =>
  obtain ⟨n, rfl⟩ := rl_nat hr
  have hn' := rl_true hr
  rcases first_room (nodes F hb) size n (nodes F hb).length with ⟨k, h1, h2, h3⟩ | h1
  · have HK : Hid ((n : Int) ≤ gap (nodes F hb) size k ∧ ∀ i, i < k → gap (nodes F hb) size i < n) := ⟨h2, h3⟩
    clear h2 h3
    go_wp2_with fail
    refine (Alloc_room w1 H1.out.1 hr (by omega) h1 HK.out.1 HK.out.2).mono ?_
    rintro e w2 ⟨h0, b, f', rfl, i1, i2, i3, i4, hR4, hk4⟩
    obtain ⟨T, HT⟩ : ∃ T, Hid ((nodes F hb)[k].a + (nodes F hb)[k].s = T) := ⟨_, show _ = _ from rfl⟩
    rw [HT.out] at hR4
    have hmem : ((h0, ⟨b, T, n⟩) : Nat × Nd) ∈ ins hb k (h0, ⟨b, T, n⟩) := ins_mem.2 (.inl rfl)
    have hle := hR4.h_le
    have hTn : T + n ≤ size := hR4.geo.bd ⟨b, T, n⟩ (List.mem_cons_of_mem _ (List.mem_map_of_mem hmem))
    have HWf : Hid (wf h0) := wf_of (by omega) (by omega)
    have H2 : Hid (∃ cs', Rx w w2 A C M F f' size h0 81 cs' (ins hb k (h0, ⟨b, T, n⟩))) := ⟨_, hR4, fun j e => by
      rcases fp_ins h1 e with e | e
      · exact H1.out.2.1 j e
      · have := H1.out.2.2.size; dsimp only at e; omega, H1.out.2.2.since hk4 H1.out.2.1⟩
    have HMem : Hid (((h0, ⟨b, T, n⟩) : Nat × Nd) ∈ ins hb k (h0, ⟨b, T, n⟩)) := hmem
    clear i1 i2 i3 i4 hR4 hk4 hmem hle
    go_wp2_with (go_at_call 14; refine (no_any _ _).mono ?_; rintro e w' ⟨rfl, rfl⟩)
    go_loopw [12] (fun i wr => ∃ j : Nat, j ≤ n ∧ i = .int .i64 j ∧ Hid (∃ cs', Rx w wr A C M F f' size h0 81 cs' (ins hb k (h0, ⟨b, T, n⟩)) ∧ ∀ t, t < j → cs'.getD (T + t) 0 = (t : Int) * (t : Int) + 7)) (fun i _ => n - (intOf i).toNat)
    case atStart =>
      obtain ⟨cs', hR'⟩ := H2.out
      exact ⟨0, Nat.zero_le _, rfl, cs', hR', fun t ht => by omega⟩
    case round =>
      obtain ⟨j, hj, rfl, HJ⟩ := hrel
      by_cases hlt : j < n
      · have k2 : (j : Int) < (n : Int) := by omega
        obtain ⟨u1, u2⟩ := sqf (j := j) (by omega)
        obtain ⟨q, hq⟩ : ∃ q, (j : Int) * (j : Int) + 7 = q := ⟨_, rfl⟩
        have HQ : Hid ((j : Int) * (j : Int) + 7 = q) := hq
        clear hq
        go_wp2_with fail
        obtain ⟨cs', hR', hcs⟩ := HJ.out
        refine (Store_some HMem.out HWf.out j _ hlt wr hR'.1).mono ?_
        rintro e w3 ⟨rfl, hR3, hk3⟩
        have H3 : Hid (∃ cs', Rx w w3 A C M F f' size h0 81 cs' (ins hb k (h0, ⟨b, T, n⟩)) ∧ ∀ t, t < j + 1 → cs'.getD (T + t) 0 = (t : Int) * (t : Int) + 7) := by
          refine ⟨_, ⟨hR3, hR'.2.1, hR'.2.2.since hk3 (fun q e => hR'.2.1 q (.inr (.inl e)))⟩, fun t ht => ?_⟩
          have hl := hR'.1.len
          dsimp only
          rw [putL_getD _ _ _ (by simp; omega)]
          by_cases e : t = j
          · subst e
            rw [if_pos (by simp)]
            simp
          · rw [if_neg (by simp; omega)]
            exact hcs t (by omega)
        clear hR3 hk3 hcs hR'
        go_wp2_with (go_at_call 14; refine (no_any _ _).mono ?_; rintro e w' ⟨rfl, rfl⟩)
        go_roundw
        case rel => exact ⟨j + 1, by omega, by go_num, H3.out⟩
        case measure => simp [intOf]; omega
      · have k2 : ¬ (j : Int) < (n : Int) := by omega
        have HP : Hid (Ph w wr A size 81 h0 (sqs n)) := by
          obtain ⟨cs', hR', hcs⟩ := HJ.out
          exact ⟨_, C, M, F, f', h0, cs', hR', _, HMem.out, rfl, by rw [sqs_length], fun t ht => by rw [sqs_length] at ht; rw [sqs_at ht]; exact hcs t (by omega)⟩
        clear HJ
        go_wp2_with fail
        go_loopw [13] (fun i wr1 => ∃ j : Nat, j ≤ L2.length ∧ i = .int .i64 j ∧ Hid (Ph w wr1 A size (81 + j) h0 (sqs n))) (fun i _ => L2.length - (intOf i).toNat)
        case atStart => exact ⟨0, Nat.zero_le _, rfl, HP.out⟩
        case round =>
          obtain ⟨j, hj, rfl, HP1⟩ := hrel
          by_cases hlt : j < L2.length
          · have m1 : (0 : Int) ≤ (j : Int) := by omega
            have m2 : (j : Int) < (L2.length : Int) := by omega
            obtain ⟨b2, off, rfl, hcell⟩ := HC.out (by omega)
            obtain ⟨c0, c1, c2, c3⟩ := hcell j hlt
            have hkk := HP1.out.kept
            have d0 := hkk.cell c0
            have d1 := hkk.cell c1
            have d2 := hkk.cell c2
            have d3 := hkk.cell c3
            have HWj : Hid (wf L2[j].2.1) := HW.out _ (List.getElem_mem hlt)
            clear hcell c0 c1 c2 c3 hkk
            generalize L2[j].1 = kd at *
            generalize L2[j].2.1 = hh at *
            generalize L2[j].2.2.1 = mm at *
            generalize L2[j].2.2.2 = xx at *
            by_cases hkd : kd = 1
            · subst hkd
              go_wp2_with fail
              refine (play_holds 1 hh mm xx HWj.out (.inl rfl) wr HP1.out (by omega)).mono ?_
              rintro e w3 ⟨⟨v, rfl⟩, h3⟩
              have H3 : Hid (Ph w w3 A size (81 + (j + 1)) h0 (sqs n)) := h3
              clear h3
              go_wp2
              go_roundw
              case rel => exact ⟨j + 1, by omega, by go_num, H3.out⟩
              case measure => simp [intOf]; omega
            · have g1 : (kd == 1) = false := by simp [hkd]
              by_cases hhh : hh = (h0 : Int)
              · have g2 : (hh != (h0 : Int)) = false := by simp [hhh]
                have H3 : Hid (Ph w wr A size (81 + (j + 1)) h0 (sqs n)) := HP1.out.mono (by omega)
                clear hhh
                go_wp2
                go_roundw
                case rel => exact ⟨j + 1, by omega, by go_num, H3.out⟩
                case measure => simp [intOf]; omega
              · have g2 : (hh != (h0 : Int)) = true := by simp [hhh]
                have HH : Hid (hh ≠ (h0 : Int)) := hhh
                clear hhh
                go_wp2_with fail
                refine (play_holds kd hh mm xx HWj.out (.inr HH.out) wr HP1.out (by omega)).mono ?_
                rintro e w3 ⟨⟨v, rfl⟩, h3⟩
                have H3 : Hid (Ph w w3 A size (81 + (j + 1)) h0 (sqs n)) := h3
                clear h3
                go_wp2
                go_roundw
                case rel => exact ⟨j + 1, by omega, by go_num, H3.out⟩
                case measure => simp [intOf]; omega
          · have m2 : ¬ (j : Int) < (L2.length : Int) := by omega
            have HP2 : Hid (Ph w wr A size 200 h0 (sqs n)) := HP1.out.mono (by omega)
            clear HP1
            go_wp2_with fail
            go_loopw [14, 15, 16] (fun i _ _ wr => ∃ j : Nat, j ≤ n ∧ i = .int .i64 j ∧ Hid (Ph w wr A size 200 h0 (sqs n))) (fun i _ _ _ => n - (intOf i).toNat)
            case atStart => exact ⟨0, Nat.zero_le _, rfl, HP2.out⟩
            case round =>
              obtain ⟨j, hj, rfl, HP3⟩ := hrel
              by_cases hlt3 : j < n
              · have m3 : (j : Int) < (n : Int) := by omega
                obtain ⟨u1, u2⟩ := sqf (j := j) (by omega)
                have HLd := HP3.out.load HWf.out j (by rw [sqs_length]; exact hlt3)
                rw [sqs_at hlt3] at HLd
                have HLd2 : Hid (Calls Try.prog 30 #[.pointer (some ⟨A, 0, none⟩), .int .i64 h0, .int .i64 j] wr fun e w' => e = .returned (.tuple #[.int .i64 ((j : Int) * (j : Int) + 7), .int .i64 0]) ∧ Ph w w' A size 200 h0 (sqs n)) := HLd
                clear HLd
                go_wp2_with fail
                refine HLd2.out.mono ?_
                rintro e w3 ⟨rfl, h3⟩
                have H3 : Hid (Ph w w3 A size 200 h0 (sqs n)) := h3
                clear h3
                go_wp2_with (go_at_call 14; refine (no_any _ _).mono ?_; rintro e w' ⟨rfl, rfl⟩)
                go_roundw
                case rel => exact ⟨j + 1, by omega, by go_num, H3.out⟩
                case measure => simp [intOf]; omega
              · have m3 : ¬ (j : Int) < (n : Int) := by omega
                have HLn : Hid (Calls Try.prog 18 #[.pointer (some ⟨A, 0, none⟩), .int .i64 h0] wr fun e w' => e = .returned (.int .i64 n) ∧ wr = w') := by
                  have := HP3.out.length HWf.out
                  rw [sqs_length] at this
                  exact this
                go_wp2_with (go_at_call 18; refine HLn.out.mono ?_; rintro e w' ⟨rfl, rfl⟩)
                refine (alive_any wr).mono ?_
                rintro e w5 ⟨rfl, h5⟩
                have H5 : Hid (Kept No w w5) := HP3.out.kept.trans h5
                clear h5
                go_wp2
                go_ret
                exact ⟨rfl, H5.out⟩
  · have HK : Hid (∀ i, i < (nodes F hb).length → gap (nodes F hb) size i < n) := h1
    clear h1
    go_wp2_with fail
    refine (Alloc_full w1 H1.out.1 hr HK.out).mono ?_
    rintro e w4 ⟨rfl, ⟨f', hR4⟩, hk4⟩
    have H4 : Hid (Kept No w w4) := H1.out.2.2.since hk4 (fun j e => H1.out.2.1 j (.inl e))
    clear hR4 hk4
    go_wp2_with (go_at_call 14; refine (no_any _ _).mono ?_; rintro e w' ⟨rfl, rfl⟩)
    refine (alive_any w4).mono ?_
    rintro e w5 ⟨rfl, h5⟩
    have H5 : Hid (Kept No w w5) := H4.out.trans h5
    clear h5
    go_wp2
    go_ret
    exact ⟨rfl, H5.out⟩

theorem ArenaKeeps_any {L L2 : List (Int × Int × Int × Int)} (size : Int) (v v2 : Value) (n : Int) (w : World) (hL : Acts w v L) (hL2 : Acts w v2 L2) : Calls Try.prog 5 #[.int .i64 size, v, v2, .int .i64 n] w fun e w' => e = .returned (.bool true) ∧ Below w.heap.size w w' :=
  (Keeps_any size n v v2 L L2 w hL hL2).mono (fun e w' ⟨he, hk⟩ => ⟨he, hk.below (Nat.le_refl _) (fun k e => e.elim)⟩)
end Go.Proofs.Ytdaklohfecinjaa
