/- The document's Read, and that both are alike. Out of the numbers' own texts, renumbered. -/
import Derived.Test.YtidokamfppdnaaaGreatDoorN5
namespace Go.Proofs.YtidokamfppdnaaaGreatDoor
open Go.RowKit
set_option linter.unusedSimpArgs false
set_option linter.unusedVariables false
theorem B_lt (n : Int) : B n < 18446744073709551616 := by have := B_eq (n := n); omega
set_option maxHeartbeats 400000 in
theorem RInt_any (n : Int) (w : World) :
    Calls Tryz.prog 57 #[.int .i64 n] w fun e w' => e = .returned (AV 2 n) ∧ Below w.heap.size w w' := by
  go_enter Tryz.func57, Tryz.ntmps57
  go_wp2
  exact bodyPost_ret (v := AV 2 n) (by simp [results, Tryz.results57, go_sem]) rfl ⟨rfl, (Below.refl _ _).alloc (Nat.le_refl _) _⟩
set_option maxHeartbeats 400000 in
theorem Real_any (t n : Int) (w : World) :
    Calls Tryz.prog 56 #[AV t n] w fun e w' => e = .returned (.float .f64 (B n)) ∧ Below w.heap.size w w' := by
  have hc := call_frombits n
  go_enter Tryz.func56, Tryz.ntmps56
  go_wp2
  go_ret
  exact ⟨rfl, (Below.refl _ _).alloc (Nat.le_refl _) _⟩
theorem selfeq_eq (x : Nat) : (FloatKind.f64.format.order x x == some .eq) = !Fm.nanB x := by
  show (Ieee.double.order x x == some .eq) = _
  rw [Fm.order_self]; cases Fm.nanB x <;> rfl
set_option maxHeartbeats 400000 in
theorem RFloat_any (x : Nat) (w : World) :
    Calls Tryz.prog 44 #[.float .f64 x] w fun e w' => e = .returned (AV 3 (flt x)) ∧ Below w.heap.size w w' := by
  have hk := call_bits x
  have hq := isnan_eq x
  cases h : Fm.nanB x
  · rw [h] at hq
    go_enter Tryz.func44, Tryz.ntmps44
    go_wp2
    exact bodyPost_ret (v := AV 3 (wrap64 x)) (by simp [results, Tryz.results44, go_sem]) rfl ⟨by simp [flt, h, bi], (Below.refl _ _).alloc (Nat.le_refl _) _⟩
  · rw [h] at hq
    go_enter Tryz.func44, Tryz.ntmps44
    go_wp2
    exact bodyPost_ret (v := AV 3 9221120237041090561) (by simp [results, Tryz.results44, go_sem]) rfl ⟨by simp [flt, h], (Below.refl _ _).alloc (Nat.le_refl _) _⟩
set_option maxHeartbeats 400000 in
theorem RIs_any (t n : Int) (w : World) :
    Calls Tryz.prog 40 #[AV t n] w fun e w' => e = .returned (.bool (isNum t n)) ∧ Below w.heap.size w w' := by
  by_cases ht : t = 2
  · subst ht
    go_enter Tryz.func40, Tryz.ntmps40
    go_wp2
    go_ret
    exact ⟨by simp [isNum], (Below.refl _ _).alloc (Nat.le_refl _) _⟩
  · have ht2 : (t == 2) = false := by simp [ht]
    by_cases ht' : t = 3
    · subst ht'
      clear ht
      have hq := selfeq_eq (B n)
      cases hb : Fm.nanB (B n)
      · rw [hb] at hq
        go_enter Tryz.func40, Tryz.ntmps40
        go_wp2_with fail
        refine (Real_any _ _ _).mono ?_
        rintro e w1 ⟨rfl, hb1⟩
        obtain ⟨hc, hf⟩ := bcell hb1
        have hz : w.heap.size < w1.heap.size := by have := hb1.size; simp at this; omega
        go_wp2
        go_ret
        exact ⟨by simp [isNum, hb], ((Below.refl _ _).alloc (Nat.le_refl _) _).trans (hb1.mono (by simp))⟩
      · rw [hb] at hq
        go_enter Tryz.func40, Tryz.ntmps40
        go_wp2_with fail
        refine (Real_any _ _ _).mono ?_
        rintro e w1 ⟨rfl, hb1⟩
        obtain ⟨hc, hf⟩ := bcell hb1
        have hz : w.heap.size < w1.heap.size := by have := hb1.size; simp at this; omega
        go_wp2
        go_ret
        exact ⟨by simp [isNum, hb], ((Below.refl _ _).alloc (Nat.le_refl _) _).trans (hb1.mono (by simp))⟩
    · have ht3 : (t != 3) = true := by simp [ht']
      have ht3' : (t == 3) = false := by simp [ht']
      go_enter Tryz.func40, Tryz.ntmps40
      go_wp2
      go_ret
      exact ⟨by simp [isNum, ht2, ht3'], (Below.refl _ _).alloc (Nat.le_refl _) _⟩
/-- A cell stays when a block is laid. -/
theorem alC {w : World} {a : Addr} {v : Value} (o : Obj) (h : w.cell? a = some v) : (w.alloc o).cell? a = some v := cell_later ((Below.refl w.heap.size w).alloc (Nat.le_refl _) o) h
theorem new0 (w : World) (x y : Value) : (w.alloc (.cells #[x, y] 36)).cell? ⟨w.heap.size, 0, none⟩ = some x := by simp [go_sem]
theorem new1 (w : World) (x y : Value) : (w.alloc (.cells #[x, y] 36)).cell? ⟨w.heap.size, 1, none⟩ = some y := by simp [go_sem]
theorem allB_of_hex (s : ByteArray) (h0 : 0 < s.size) (h : ∀ c ∈ s.data.toList, isHex c = true) : allB s hexd = true := by
  unfold allB
  rw [Bool.and_eq_true, List.all_eq_true]
  refine ⟨fun c hc => by rw [inB_hex]; exact h c hc, ?_⟩
  rw [Lib.size_eq] at h0
  cases hl : s.data.toList with
  | nil => rw [hl] at h0; simp at h0
  | cons a l => rfl
theorem dgI (c : UInt8) : inB dec c = true ↔ (48 : Int) ≤ (c.toNat : Int) ∧ (c.toNat : Int) ≤ 57 := by
  rw [inD, Bool.and_eq_true, decide_eq_true_eq, decide_eq_true_eq]; omega
set_option maxHeartbeats 1000000 in
theorem RAll_any (s : ByteArray) (w : World) (hs : s.size ≤ 140737488351232) :
    Calls Tryz.prog 41 #[.string s] w fun e w' => e = .returned (.bool (allB s dec)) ∧ w' = w := by
  go_enter Tryz.func41, Tryz.ntmps41
  go_wp2_with fail
  go_loop [3] (fun i => ∃ k : Nat, k ≤ s.size ∧ i = .int .i64 k ∧ Hid ((s.data.toList.take k).all (inB dec) = true)) (fun i => s.size - (intOf i).toNat)
  case atStart => exact ⟨0, Nat.zero_le _, rfl, rfl⟩
  case round =>
    obtain ⟨k, hk, rfl, ha⟩ := hrel
    by_cases hlt : k < s.size
    · have HT : Hid (s.data.toList.take (k + 1) = s.data.toList.take k ++ [s[k]]) := take_snoc s k hlt
      by_cases hn : inB dec s[k] = true
      · have hd := (dgI s[k]).1 hn
        have h1 : ¬ ((s[k].toNat : Int) < 48) := by omega
        have h2 : ¬ ((57 : Int) < (s[k].toNat : Int)) := by omega
        have HN : Hid (inB dec s[k] = true) := hn
        clear hd hn
        go_wp2
        go_round
        case rel => exact ⟨k + 1, by omega, by go_num, by show List.all _ _ = true; rw [HT.out, List.all_append, ha.out]; simp [HN.out]⟩
        case measure => simp [intOf]; omega
      · have HA : Hid (allB s dec = false) := all_not hlt (by simpa using hn)
        have hd : (s[k].toNat : Int) < 48 ∨ (57 : Int) < (s[k].toNat : Int) := by
          have := mt (dgI s[k]).2 hn; omega
        clear hn
        by_cases h1 : (s[k].toNat : Int) < 48
        · clear hd
          go_wp2
          go_ret
          exact ⟨by rw [HA.out]; rfl, rfl⟩
        · have h2 : (57 : Int) < (s[k].toNat : Int) := by omega
          clear hd
          go_wp2
          go_ret
          exact ⟨by rw [HA.out]; rfl, rfl⟩
    · have he : k = s.size := by omega
      subst he
      have hA : (s.data.toList.take s.size).all (inB dec) = true := ha.out
      rw [List.take_of_length_le (by simp)] at hA
      have HA : Hid (allB s dec = decide (0 < s.size)) := by
        show allB s dec = _; unfold allB; rw [hA, Bool.true_and, Lib.size_eq]
        cases s.data.toList with
        | nil => rfl
        | cons a l =>
          have : 0 < (a :: l).length := by rw [List.length_cons]; omega
          rw [decide_eq_true this]; rfl
      clear ha hA
      go_wp2
      go_ret
      exact ⟨by rw [HA.out]; rfl, rfl⟩
theorem ixB_at : ∀ (l : List UInt8) (c : UInt8) (k : Nat) (h : k < l.length), (∀ x ∈ l.take k, x ≠ c) → l[k] = c → Lib.indexByte l c = k
  | [], _, _, h, _, _ => by simp at h
  | b :: l, c, 0, _, _, h2 => by
    have : b = c := h2
    unfold Lib.indexByte; simp [this]
  | b :: l, c, k + 1, h, h1, h2 => by
    have hb : b ≠ c := h1 b (by simp)
    have hr := ixB_at l c k (by simpa using h) (fun x hx => h1 x (by simp [hx])) (by simpa using h2)
    unfold Lib.indexByte
    rw [if_neg (by simpa using hb), hr, if_neg (by simp)]; simp
set_option maxHeartbeats 1000000 in
theorem RPoint_any (s : ByteArray) (w : World) (hs : s.size ≤ 140737488351232) :
    Calls Tryz.prog 43 #[.string s] w fun e w' => e = .returned (.int .i64 (Lib.indexByte s.data.toList 46)) ∧ w' = w := by
  go_enter Tryz.func43, Tryz.ntmps43
  go_wp2_with fail
  go_loop [3] (fun i => ∃ k : Nat, k ≤ s.size ∧ i = .int .i64 k ∧ Hid (∀ x ∈ s.data.toList.take k, x ≠ 46)) (fun i => s.size - (intOf i).toNat)
  case atStart => exact ⟨0, Nat.zero_le _, rfl, fun x hx => by simp at hx⟩
  case round =>
    obtain ⟨k, hk, rfl, ha⟩ := hrel
    by_cases hlt : k < s.size
    · have HT : Hid (s.data.toList.take (k + 1) = s.data.toList.take k ++ [s[k]]) := take_snoc s k hlt
      by_cases hn : s[k] = 46
      · have h1 : (s[k].toNat : Int) = 46 := by rw [hn]; rfl
        have HA : Hid (Lib.indexByte s.data.toList 46 = (k : Int)) := ixB_at _ _ k (by simpa using hlt) ha.out hn
        clear hn
        go_wp2
        go_ret
        exact ⟨by rw [HA.out]; rfl, rfl⟩
      · have h1 : ¬ (s[k].toNat : Int) = 46 := by
          intro h; apply hn; apply UInt8.toNat_inj.1; show s[k].toNat = 46; omega
        have HN : Hid (s[k] ≠ 46) := hn
        clear hn
        go_wp2
        go_round
        case rel =>
          refine ⟨k + 1, by omega, by go_num, fun x hx => ?_⟩
          rw [HT.out, List.mem_append, List.mem_singleton] at hx
          rcases hx with hx | hx
          · exact ha.out x hx
          · rw [hx]; exact HN.out
        case measure => simp [intOf]; omega
    · have he : k = s.size := by omega
      subst he
      have HA : Hid (Lib.indexByte s.data.toList 46 = -1) := by
        refine ixB_none _ _ fun x hx => ha.out x ?_
        rw [List.take_of_length_le (by simp)]; exact hx
      clear ha
      go_wp2
      go_ret
      exact ⟨by rw [HA.out]; rfl, rfl⟩
theorem hexV_take (s : ByteArray) (k : Nat) (h : k < s.size) : hexV (s.data.toList.take (k + 1)) = hexV (s.data.toList.take k) * 16 + hx s[k].toNat := by
  rw [take_snoc s k h, hexV_snoc]
/-- What the document's hex gives. -/
def hexR (s : ByteArray) : Value := if allB s hexd then .tuple #[.int .u64 (hexV s.data.toList), .bool true] else .tuple #[.int .u64 0, .bool false]
set_option maxHeartbeats 2000000 in
theorem RHex_any (s : ByteArray) (w : World) (hs : s.size = 16) :
    Calls Tryz.prog 39 #[.string s] w fun e w' => e = .returned (hexR s) ∧ w' = w := by
  have hs' : (s.size : Int) = 16 := by omega
  go_enter Tryz.func39, Tryz.ntmps39
  go_wp2_with fail
  go_loop [4, 5] (fun n i => ∃ k acc : Nat, k ≤ 16 ∧ n = .int .u64 acc ∧ i = .int .i64 k ∧ Hid (acc = hexV (s.data.toList.take k) ∧ (∀ c ∈ s.data.toList.take k, isHex c = true))) (fun _ i => 16 - (intOf i).toNat)
  case atStart => exact ⟨0, 0, Nat.zero_le _, rfl, rfl, rfl, fun x hx => by simp at hx⟩
  case round =>
    obtain ⟨k, acc, hk, rfl, rfl, ha⟩ := hrel
    by_cases hlt : k < 16
    · have hlt' : k < s.size := by omega
      have hacc : acc < 1152921504606846976 := by
        rw [ha.out.1]
        have h1 := hexV_lt _ ha.out.2
        have h2 : (s.data.toList.take k).length ≤ 15 := by rw [List.length_take]; omega
        have h3 : 16 ^ (s.data.toList.take k).length ≤ 16 ^ 15 := Nat.pow_le_pow_right (by decide) h2
        have h4 : 16 ^ 15 = 1152921504606846976 := by decide
        omega
      have hc := UInt8.toNat_lt s[k]
      have HV : Hid (hexV (s.data.toList.take (k + 1)) = hexV (s.data.toList.take k) * 16 + hx s[k].toNat) := hexV_take s k hlt'
      have HT : Hid (s.data.toList.take (k + 1) = s.data.toList.take k ++ [s[k]]) := take_snoc s k hlt'
      cases hn : isHex s[k]
      · have HA : Hid (hexR s = .tuple #[.int .u64 0, .bool false]) := by
          show hexR s = _; unfold hexR; rw [all_not hlt' (by rw [inB_hex]; exact hn)]; rfl
        have hd : s[k].toNat < 48 ∨ (57 < s[k].toNat ∧ s[k].toNat < 97) ∨ 102 < s[k].toNat := by
          unfold isHex at hn
          simp only [Bool.or_eq_false_iff, decide_eq_false_iff_not] at hn
          omega
        clear hn
        rcases hd with h | ⟨h, h'⟩ | h
        · have h1 : ¬ (48 : Int) ≤ (s[k].toNat : Int) := by omega
          have h2 : ¬ (97 : Int) ≤ (s[k].toNat : Int) := by omega
          clear h
          go_wp2
          go_ret2
          exact ⟨by rw [HA.out]; rfl, rfl⟩
        · have h1 : (48 : Int) ≤ (s[k].toNat : Int) := by omega
          have h2 : ¬ (97 : Int) ≤ (s[k].toNat : Int) := by omega
          have h3 : ¬ (s[k].toNat : Int) ≤ 57 := by omega
          clear h h'
          go_wp2
          go_ret2
          exact ⟨by rw [HA.out]; rfl, rfl⟩
        · have h1 : (48 : Int) ≤ (s[k].toNat : Int) := by omega
          have h2 : (97 : Int) ≤ (s[k].toNat : Int) := by omega
          have h3 : ¬ (s[k].toNat : Int) ≤ 57 := by omega
          have h4 : ¬ (s[k].toNat : Int) ≤ 102 := by omega
          clear h
          go_wp2
          go_ret2
          exact ⟨by rw [HA.out]; rfl, rfl⟩
      · have HN : Hid (isHex s[k] = true) := hn
        rcases isHex_cases hn with ⟨h1, h2, h3⟩ | ⟨h1, h2, h3⟩
        · have h1' : (48 : Int) ≤ (s[k].toNat : Int) := by omega
          have h2' : (s[k].toNat : Int) ≤ 57 := by omega
          have H3 : Hid (hx s[k].toNat = s[k].toNat - 48) := h3
          clear hn h3
          go_wp2
          go_round
          case rel =>
            refine ⟨k + 1, acc * 16 + (s[k].toNat - 48), by omega, by go_num, by go_num, ?_, ?_⟩
            · rw [HV.out, ← ha.out.1, H3.out]
            · rw [HT.out]; intro c hc'; rw [List.mem_append, List.mem_singleton] at hc'
              rcases hc' with hc' | hc'
              · exact ha.out.2 c hc'
              · rw [hc']; exact HN.out
          case measure => simp [intOf]; omega
        · have h1' : (97 : Int) ≤ (s[k].toNat : Int) := by omega
          have h2' : (s[k].toNat : Int) ≤ 102 := by omega
          have h4 : ¬ (s[k].toNat : Int) ≤ 57 := by omega
          have h5 : (48 : Int) ≤ (s[k].toNat : Int) := by omega
          have H3 : Hid (hx s[k].toNat = s[k].toNat - 87) := h3
          clear hn h3
          go_wp2
          go_round
          case rel =>
            refine ⟨k + 1, acc * 16 + (s[k].toNat - 87), by omega, by go_num, by go_num, ?_, ?_⟩
            · rw [HV.out, ← ha.out.1, H3.out]
            · rw [HT.out]; intro c hc'; rw [List.mem_append, List.mem_singleton] at hc'
              rcases hc' with hc' | hc'
              · exact ha.out.2 c hc'
              · rw [hc']; exact HN.out
          case measure => simp [intOf]; omega
    · have he : k = 16 := by omega
      subst he
      have hA : s.data.toList.take 16 = s.data.toList := List.take_of_length_le (by rw [← Lib.size_eq]; omega)
      have HA : Hid (hexR s = .tuple #[.int .u64 acc, .bool true]) := by
        show hexR s = _; unfold hexR; rw [allB_of_hex s (by omega) (by rw [← hA]; exact ha.out.2), ha.out.1, hA]; rfl
      clear ha hA
      go_wp2
      go_ret2
      exact ⟨by rw [HA.out]; rfl, rfl⟩
theorem decV_take (l : List UInt8) (k : Nat) : decV (l.take k) ≤ decV l := by
  have h : decV l = decF (decV (l.take k)) (l.drop k) := by
    unfold decV decF
    rw [← List.foldl_append, List.take_append_drop]
  rw [h]; exact decF_ge _ _
theorem decV_snoc (s : ByteArray) (k : Nat) (h : k < s.size) : decV (s.data.toList.take (k + 1)) = decV (s.data.toList.take k) * 10 + (s[k].toNat - 48) := by
  rw [take_snoc s k h]; unfold decV decF; rw [List.foldl_append]; rfl
/-- What the document's whole gives, at digits. -/
def wholeT (t : ByteArray) (m : Bool) : Value :=
  if decV t.data.toList < 9223372036854775808 then .tuple #[AV 2 (if m then -(decV t.data.toList : Int) else (decV t.data.toList : Int)), .int .i64 0]
  else if decV t.data.toList = 9223372036854775808 ∧ m = true then .tuple #[AV 2 (-9223372036854775808), .int .i64 0] else .tuple #[AV 0 0, .int .i64 7]
theorem whole_big {t : ByteArray} {m : Bool} (h : 9223372036854775808 < decV t.data.toList) : wholeT t m = .tuple #[AV 0 0, .int .i64 7] := by
  unfold wholeT; rw [if_neg (by omega), if_neg (by omega)]
set_option maxHeartbeats 2000000 in
theorem RWhole_any' (s : ByteArray) (m : Bool) (w : World) (hs : s.size ≤ 140737488351232) (ha : allB s dec = true) :
    Calls Tryz.prog 42 #[.string s, .bool m] w fun e w' => e = .returned (wholeT s m) ∧ Below w.heap.size w w' := by
  have hD : ∀ k (h : k < s.size), 48 ≤ s[k].toNat ∧ s[k].toNat ≤ 57 := fun k h => by
    unfold allB at ha
    rw [Bool.and_eq_true, List.all_eq_true] at ha
    have := ha.1 s[k] (List.getElem_mem (l := s.data.toList) (n := k) (by simpa using h))
    rw [inD, Bool.and_eq_true, decide_eq_true_eq, decide_eq_true_eq] at this
    exact this
  have HD : Hid (∀ k (h : k < s.size), 48 ≤ s[k].toNat ∧ s[k].toNat ≤ 57) := hD
  clear hD ha
  go_enter Tryz.func42, Tryz.ntmps42
  go_wp2_with fail
  go_loop [6, 7, 8] (fun n i _ => ∃ k V : Nat, k ≤ s.size ∧ n = .int .u64 V ∧ i = .int .i64 k ∧ V ≤ 9223372036854775808 ∧ Hid (V = decV (s.data.toList.take k))) (fun _ i _ => s.size - (intOf i).toNat)
  case atStart => exact ⟨0, 0, Nat.zero_le _, rfl, rfl, by omega, rfl⟩
  case round =>
    obtain ⟨k, V, hk, rfl, rfl, hV, hh⟩ := hrel
    by_cases hlt : k < s.size
    · obtain ⟨d1, d2⟩ := HD.out k hlt
      have HS : Hid (decV (s.data.toList.take (k + 1)) = V * 10 + (s[k].toNat - 48)) := by show _ = _; rw [decV_snoc s k hlt, ← hh.out]
      have HL : Hid (decV (s.data.toList.take (k + 1)) ≤ decV s.data.toList) := decV_take _ _
      obtain ⟨c, hc⟩ : ∃ c : Nat, c + 48 = s[k].toNat := ⟨s[k].toNat - 48, by omega⟩
      have hc9 : c ≤ 9 := by omega
      have HC : Hid (s[k].toNat - 48 = c) := by show _ = _; omega
      have hci : (s[k].toNat : Int) = (c : Int) + 48 := by omega
      clear d1 d2 hc
      by_cases hb : 922337203685477580 < V
      · have hb' : (922337203685477580 : Int) < (V : Int) := by omega
        have HW : Hid (wholeT s m = .tuple #[AV 0 0, .int .i64 7]) := whole_big (by have := HS.out; have := HL.out; omega)
        clear hb
        go_wp2
        refine bodyPost_ret (v := .tuple #[AV 0 0, .int .i64 7]) (by simp [results, Tryz.results42, go_sem]) rfl ⟨by rw [HW.out], ?_⟩
        exact (Below.refl _ _).alloc (Nat.le_refl _) _
      · have hb' : ¬ (922337203685477580 : Int) < (V : Int) := by omega
        by_cases he : V = 922337203685477580
        · subst he
          clear hb hb'
          by_cases h8 : 8 < c
          · have h8' : (8 : Int) < (c : Int) := by omega
            have HW : Hid (wholeT s m = .tuple #[AV 0 0, .int .i64 7]) := whole_big (by have := HS.out; have := HL.out; have := HC.out; omega)
            clear h8
            go_wp2
            refine bodyPost_ret (v := .tuple #[AV 0 0, .int .i64 7]) (by simp [results, Tryz.results42, go_sem]) rfl ⟨by rw [HW.out], ?_⟩
            exact (Below.refl _ _).alloc (Nat.le_refl _) _
          · have h8' : ¬ (8 : Int) < (c : Int) := by omega
            go_wp2
            go_round
            case rel => exact ⟨k + 1, 922337203685477580 * 10 + c, by omega, by go_num, by go_num, by omega, by show _ = _; rw [HS.out, HC.out]⟩
            case measure => simp [intOf]; omega
        · have he' : ¬ (V : Int) = 922337203685477580 := by omega
          go_wp2
          go_round
          case rel => exact ⟨k + 1, V * 10 + c, by omega, by go_num, by go_num, by omega, by show _ = _; rw [HS.out, HC.out]⟩
          case measure => simp [intOf]; omega
    · have he : k = s.size := by omega
      subst he
      have HV : Hid (decV s.data.toList = V) := by
        show _ = _; rw [hh.out, List.take_of_length_le (by simp)]
      clear hh hk hlt
      by_cases hx : V = 9223372036854775808
      · subst hx
        cases m
        · have HW : Hid (wholeT s false = .tuple #[AV 0 0, .int .i64 7]) := by
            show _ = _; unfold wholeT; rw [HV.out, if_neg (by omega), if_neg (by simp)]
          go_wp2
          refine bodyPost_ret (v := .tuple #[AV 0 0, .int .i64 7]) (by simp [results, Tryz.results42, go_sem]) rfl ⟨by rw [HW.out], ?_⟩
          exact (Below.refl _ _).alloc (Nat.le_refl _) _
        · have HW : Hid (wholeT s true = .tuple #[AV 2 (-9223372036854775808), .int .i64 0]) := by
            show _ = _; unfold wholeT; rw [HV.out, if_neg (by omega), if_pos (by simp)]
          go_wp2_with fail
          refine (RInt_any _ _).mono ?_
          rintro e w1 ⟨rfl, hb1⟩
          obtain ⟨k5, k6, l5, l6, z1, HB⟩ := rbox hb1
          clear hb1
          go_wp2
          refine bodyPost_ret (v := .tuple #[AV 2 (-9223372036854775808), .int .i64 0]) (by simp [results, Tryz.results42, go_sem, k5, k6]) rfl ⟨by rw [HW.out], ?_⟩
          exact (HB.out.setCell (by simp) _).setCell (by simp) _
      · have hx' : ¬ (V : Int) = 9223372036854775808 := by omega
        have hV' : V < 9223372036854775808 := by omega
        have hcv : wrap64 (V : Int) = (V : Int) := by unfold wrap64; omega
        cases m
        · have HW : Hid (wholeT s false = .tuple #[AV 2 (V : Int), .int .i64 0]) := by
            show _ = _; unfold wholeT; rw [HV.out, if_pos hV']; rfl
          go_wp2_with fail
          refine (RInt_any _ _).mono ?_
          rintro e w1 ⟨rfl, hb1⟩
          obtain ⟨k5, k6, l5, l6, z1, HB⟩ := rbox hb1
          clear hb1
          go_wp2
          refine bodyPost_ret (v := .tuple #[AV 2 (V : Int), .int .i64 0]) (by simp [results, Tryz.results42, go_sem, k5, k6]) rfl ⟨by rw [HW.out], ?_⟩
          exact (HB.out.setCell (by simp) _).setCell (by simp) _
        · have HW : Hid (wholeT s true = .tuple #[AV 2 (-(V : Int)), .int .i64 0]) := by
            show _ = _; unfold wholeT; rw [HV.out, if_pos hV']; rfl
          go_wp2_with fail
          refine (RInt_any _ _).mono ?_
          rintro e w1 ⟨rfl, hb1⟩
          obtain ⟨k5, k6, l5, l6, z1, HB⟩ := rbox hb1
          clear hb1
          go_wp2
          refine bodyPost_ret (v := .tuple #[AV 2 (-(V : Int)), .int .i64 0]) (by simp [results, Tryz.results42, go_sem, k5, k6]) rfl ⟨by rw [HW.out], ?_⟩
          exact (HB.out.setCell (by simp) _).setCell (by simp) _
end Go.Proofs.YtidokamfppdnaaaGreatDoor
