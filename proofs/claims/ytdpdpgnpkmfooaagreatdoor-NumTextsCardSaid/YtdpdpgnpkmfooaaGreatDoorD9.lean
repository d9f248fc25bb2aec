/- The document's Read: a text with a point, walked. -/
import Derived.Test.YtdpdpgnpkmfooaaGreatDoorD8
namespace Go.Proofs.YtdpdpgnpkmfooaaGreatDoor
open Go.RowKit

/-- How many digits were read, of the digits about the point. -/
def ptJ (i k : Nat) : Nat := if k ≤ i then k else k - 1

set_option maxHeartbeats 8000000 in
theorem RRead_pt (s T : ByteArray) (M : Bool) (w : World) (i : Nat) (hs : s.size ≤ 140737488351232) (hT : T.size ≤ 140737488351232) (hn : noBits s) (hm : signed s T M) (ha : allB T dec = false) (hp : Lib.indexByte T.data.toList 46 = i) (hi : i < T.size) (h1 : allB (T.extract 0 i) dec = true) (h2 : allB (T.extract (i + 1) T.size) dec = true) (hz : ¬ (16 : Int) < (T.size : Int)) :
    Calls Tryz.prog 35 #[.string s] w fun e w' => e = .returned (.tuple #[AV 3 (ptM M (decV (ptL T i)) (T.size - (i + 1))), .int .i64 0]) ∧ Below w.heap.size w w' := by
  have AL : Hid (∀ w, Calls Tryz.prog 60 #[.string T] w fun e w' => e = .returned (.bool false) ∧ w' = w) := fun w => by
    have h := RAll_any T w hT; rw [ha] at h; exact h
  have PT : Hid (∀ w, Calls Tryz.prog 62 #[.string T] w fun e w' => e = .returned (.int .i64 (i : Int)) ∧ w' = w) := fun w => by
    have h := RPoint_any T w hT; rw [hp] at h; exact h
  have A1 : Hid (∀ w, Calls Tryz.prog 60 #[.string (T.extract 0 i)] w fun e w' => e = .returned (.bool true) ∧ w' = w) := fun w => by
    have h := RAll_any (T.extract 0 i) w (ex_size _ _ _ hT); rw [h1] at h; exact h
  have A2 : Hid (∀ w, Calls Tryz.prog 60 #[.string (T.extract (i + 1) T.size)] w fun e w' => e = .returned (.bool true) ∧ w' = w) := fun w => by
    have h := RAll_any (T.extract (i + 1) T.size) w (ex_size _ _ _ hT); rw [h2] at h; exact h
  have HD : Hid (∀ k (hk : k < T.size), k ≠ i → 48 ≤ (T[k]'hk).toNat ∧ (T[k]'hk).toNat ≤ 57) := fun k hk hne => pt_dig T i k h1 h2 hk hne
  have HA : Hid (∀ c ∈ ptL T i, c.toNat ≤ 57) := pt_all T i h1 h2
  have HLn : Hid ((ptL T i).length + 1 = T.size) := ptL_len T i hi
  clear ha hp h1 h2
  rcases hn with h18 | ⟨h18, hex⟩ <;> rcases hm with ⟨rfl, rfl, h0⟩ | ⟨rfl, rfl, h0, hx⟩ | ⟨rfl, HT, h0, hx⟩ <;> try (exfalso; omega)
  all_goals
   (go_enter Tryz.func35, Tryz.ntmps35
    go_wp2_with fail
    try rw [← HT.out]
    refine (AL.out _).mono ?_
    rintro e w' ⟨rfl, rfl⟩
    go_wp2_with fail
    try rw [← HT.out]
    refine (PT.out _).mono ?_
    rintro e w' ⟨rfl, rfl⟩
    go_wp2_with fail
    refine (A1.out _).mono ?_
    rintro e w' ⟨rfl, rfl⟩
    go_wp2_with fail
    refine (A2.out _).mono ?_
    rintro e w' ⟨rfl, rfl⟩
    go_wp2_with fail
    go_loop [10, 11] (fun n u => ∃ k V : Nat, k ≤ T.size ∧ u = .int .i64 k ∧ n = .int .i64 V ∧ V < 1000000000000000 ∧ Hid (V = decV ((ptL T i).take (ptJ i k)))) (fun _ u => T.size - (intOf u).toNat)
    case atStart => exact ⟨0, 0, Nat.zero_le _, rfl, rfl, by omega, by show _ = _; rw [show ptJ i 0 = 0 by simp [ptJ]]; rfl⟩
    case round =>
      obtain ⟨k, V, hk, rfl, rfl, hV, hh⟩ := hrel
      by_cases hlt : k < T.size
      · by_cases hki : k = i
        · have hki' : (k : Int) = (i : Int) := by omega
          have HJ : Hid (ptJ i (k + 1) = ptJ i k) := by show _ = _; unfold ptJ; rw [if_neg (by omega), if_pos (by omega)]; omega
          clear hki
          go_wp2
          go_round
          case rel => exact ⟨k + 1, V, by omega, by go_num, rfl, hV, by show _ = _; rw [HJ.out]; exact hh.out⟩
          case measure => simp [intOf]; omega
        · have hki' : ¬ (k : Int) = (i : Int) := by omega
          obtain ⟨d1, d2⟩ := HD.out k hlt hki
          obtain ⟨c, hc⟩ : ∃ c : Nat, c + 48 = (T[k]'hlt).toNat := ⟨(T[k]'hlt).toNat - 48, by omega⟩
          have hc9 : c ≤ 9 := by omega
          have hci : ((T[k]'hlt).toNat : Int) = (c : Int) + 48 := by omega
          have HS : Hid (V * 10 + c = decV ((ptL T i).take (ptJ i (k + 1)))) := by
            show _ = _
            have hc' : (T[k]'hlt).toNat - 48 = c := by omega
            rcases Nat.lt_or_ge k i with h | h
            · have e := ptL_lo T i k hi h
              have j1 : ptJ i (k + 1) = k + 1 := by unfold ptJ; rw [if_pos (by omega)]
              have j0 : ptJ i k = k := by unfold ptJ; rw [if_pos (by omega)]
              rw [j1, e, hc', hh.out, j0]
            · have e := ptL_hi T i k (by omega) hlt
              have j1 : ptJ i (k + 1) = k := by unfold ptJ; rw [if_neg (by omega)]; omega
              have j0 : ptJ i k = k - 1 := by unfold ptJ; rw [if_neg (by omega)]
              rw [j1, e, hc', hh.out, j0]
          have hb : V * 10 + c < 1000000000000000 := by
            rw [HS.out]
            refine decV_lt _ (fun x hx => HA.out x (List.mem_of_mem_take hx)) 15 ?_
            have := HLn.out
            rw [List.length_take]; omega
          clear d1 d2 hc hki
          go_wp2
          go_round
          case rel => exact ⟨k + 1, V * 10 + c, by omega, by go_num, by go_num, hb, HS.out⟩
          case measure => simp [intOf]; omega
      · have he : k = T.size := by omega
        subst he
        have HV : Hid (decV (ptL T i) = V) := by
          show _ = _
          have j0 : ptJ i T.size = T.size - 1 := by unfold ptJ; rw [if_neg (by omega)]
          rw [hh.out, j0, List.take_of_length_le (by have := HLn.out; omega)]
        clear hh hk hlt HD HA HLn
        go_wp2_with fail
        go_loop [12, 13] (fun n u => ∃ j : Nat, i + 1 + j ≤ T.size ∧ u = .int .i64 ((i : Int) + 1 + j) ∧ ∃ P : Nat, n = .int .i64 P ∧ P ≤ 1000000000000000 ∧ Hid (P = 10 ^ j)) (fun _ u => T.size - (intOf u).toNat)
        case atStart => exact ⟨0, by omega, by go_num, 1, rfl, by omega, rfl⟩
        case round =>
          obtain ⟨j, hj, rfl, P, rfl, hP, hh⟩ := hrel
          by_cases hlt : i + 1 + j < T.size
          · have hlt' : (i : Int) + 1 + j < (T.size : Int) := by omega
            have HP : Hid (P * 10 = 10 ^ (j + 1)) := by show _ = _; rw [hh.out, Nat.pow_succ]
            have hb : P * 10 ≤ 1000000000000000 := by
              rw [HP.out]; exact Nat.pow_le_pow_right (n := 10) (by decide) (show j + 1 ≤ 15 by omega)
            clear hlt
            go_wp2
            go_round
            case rel => exact ⟨j + 1, by omega, by go_num, P * 10, by go_num, hb, HP.out⟩
            case measure => simp [intOf]; omega
          · have hlt' : ¬ (i : Int) + 1 + j < (T.size : Int) := by omega
            have he : T.size - (i + 1) = j := by omega
            obtain ⟨r, w2, hr, hv, hrl, hb2⟩ := quo_any (Fm.ofInt (V : Int)) (Fm.ofInt (P : Int)) (w.alloc (.cells #[.int .i64 0, .int .i64 0] 23))
            have hr' : (binOp .quo 24 (.float .f64 (floatOfInt .f64 (V : Int))) (.float .f64 (floatOfInt .f64 (P : Int)))).run Tryz.prog (w.alloc (.cells #[.int .i64 0, .int .i64 0] 23)) = .ok (.float .f64 r) w2 := hr
            have HF : Hid (ptN (decV (ptL T i)) (T.size - (i + 1)) = flt r) := by
              show _ = _; unfold ptN pw; rw [HV.out, he, hv, hh.out]
            have HG : Hid (ngN 3 (flt r) = flt (Fm.neg r)) := ng_flt r hrl
            have hneg : ∀ w, (Op.unary .neg (.float .f64 r)).run Tryz.prog w = .ok (.float .f64 (Fm.neg r)) w := fun _ => rfl
            obtain ⟨k5, k6, l5, l6, z1, HB⟩ := rbox hb2
            clear hv hr hb2 hh hj he
            go_wp2_with fail
            refine (RFloat_any _ _).mono ?_
            rintro e w3 ⟨rfl, hb3⟩
            have k5 := cell_later hb3 k5
            have k6 := cell_later hb3 k6
            have l5 := fro_later hb3 l5 z1
            have l6 := fro_later hb3 l6 z1
            have HB := chainB HB hb3
            clear hb3 hneg hr'
            go_wp2
            first
            | (refine bodyPost_ret (v := .tuple #[AV 3 (flt (Fm.neg r)), .int .i64 0]) (by simp [results, Tryz.results35, go_sem, k5, k6]) rfl ⟨by rw [← HG.out, ← HF.out]; rfl, ?_⟩
               exact (HB.out.setCell (by simp) _).setCell (by simp) _)
            | (refine bodyPost_ret (v := .tuple #[AV 3 (flt r), .int .i64 0]) (by simp [results, Tryz.results35, go_sem, k5, k6]) rfl ⟨by rw [← HF.out]; rfl, ?_⟩
               exact (HB.out.setCell (by simp) _).setCell (by simp) _))
end Go.Proofs.YtdpdpgnpkmfooaaGreatDoor
