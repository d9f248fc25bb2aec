/- Read: bits and ints. Out of the numbers' own texts, renumbered. -/
import Derived.Test.YtidokamfppdnaaaGreatDoorN2
import Derived.Lib.ConvBytes
import Derived.Lib.AtoiAllMem
import Derived.Lib.Hide
import Derived.Laws.Strings3
import Derived.Laws.Closers25
import Derived.Laws.Closers25b
import Derived.BigCall
import Derived.BigGuard
namespace Go.Proofs.YtidokamfppdnaaaGreatDoor
open Go.RowKit
set_option linter.unusedSimpArgs false
set_option linter.unusedVariables false

/-- What a hexadecimal digit is worth. -/
def hx (c : Nat) : Nat := if c ≤ 57 then c - 48 else c - 87
/-- The number of hexadecimal digits. -/
def hexV (l : List UInt8) : Nat := l.foldl (fun n c => n * 16 + hx c.toNat) 0
/-- Is it a digit? -/
def isHex (c : UInt8) : Bool := decide (48 ≤ c.toNat ∧ c.toNat ≤ 57) || decide (97 ≤ c.toNat ∧ c.toNat ≤ 102)
theorem isHex_cases {c : UInt8} (h : isHex c = true) : (48 ≤ c.toNat ∧ c.toNat ≤ 57 ∧ hx c.toNat = c.toNat - 48) ∨ (97 ≤ c.toNat ∧ c.toNat ≤ 102 ∧ hx c.toNat = c.toNat - 87) := by
  unfold isHex at h
  simp only [Bool.or_eq_true, decide_eq_true_eq] at h
  rcases h with h | h
  · exact Or.inl ⟨h.1, h.2, by unfold hx; rw [if_pos h.2]⟩
  · exact Or.inr ⟨h.1, h.2, by unfold hx; rw [if_neg (by omega)]⟩
theorem hx_lt {c : UInt8} (h : isHex c = true) : hx c.toNat < 16 := by rcases isHex_cases h with h | h <;> omega
theorem hexV_snoc (l : List UInt8) (c : UInt8) : hexV (l ++ [c]) = hexV l * 16 + hx c.toNat := by simp [hexV]
theorem hexF_lt : ∀ (l : List UInt8) (n : Nat), (∀ c ∈ l, isHex c = true) → l.foldl (fun n c => n * 16 + hx c.toNat) n < (n + 1) * 16 ^ l.length
  | [], n, _ => by simp
  | c :: l, n, h => by
    have h1 := hexF_lt l (n * 16 + hx c.toNat) (fun x hx => h x (by simp [hx]))
    have h2 := hx_lt (h c (by simp))
    rw [List.foldl_cons, List.length_cons, Nat.pow_succ]
    refine Nat.lt_of_lt_of_le h1 ?_
    rw [Nat.mul_comm (16 ^ l.length) 16, ← Nat.mul_assoc]
    exact Nat.mul_le_mul_right _ (by omega)
theorem hexV_lt (l : List UInt8) (h : ∀ c ∈ l, isHex c = true) : hexV l < 16 ^ l.length := by
  have := hexF_lt l 0 h; simpa [hexV] using this
theorem low_or : ∀ n : Nat, 97 ≤ n → n ≤ 102 → bits .or .u8 (n : Int) 32 = (n : Int) := by
  intro n h1 h2
  have h : n = 97 ∨ n = 98 ∨ n = 99 ∨ n = 100 ∨ n = 101 ∨ n = 102 := by omega
  rcases h with rfl | rfl | rfl | rfl | rfl | rfl <;> decide +kernel
set_option maxHeartbeats 16000000 in
set_option maxRecDepth 100000 in
theorem ParseUint16 (t : ByteArray) (h16 : t.size = 16) (hd : ∀ c ∈ t.data.toList, isHex c = true) (w : World) :
    Calls Tryz.prog 72 #[.string t, .int .i64 16, .int .i64 64] w fun e w' => e = .returned (.tuple #[.int .u64 (hexV t.data.toList), .nilIface]) ∧ w' = Lib.bytesWorld w 5 t := by
  have hemp : t.toList.isEmpty = false := by
    rw [← decide_eq_emptyBytes]
    exact decide_eq_false (fun h => by rw [h] at h16; exact absurd h16 (by decide))
  have hcv := Lib.run_convert_string_bytes (P := Tryz.prog) w 9 73 5 t (u := .string) Tryz.underlying9 Tryz.underlying73 Tryz.underlying5
  have hB : ∀ j, j < t.size → (Lib.bytesWorld w 5 t).cell? ⟨w.heap.size, j, none⟩ = some (.int .u8 (t.data.toList.getD j 0).toNat) := fun j hj => Lib.bytesWorld_cell w 5 t j hj
  obtain ⟨W1, hW1⟩ : ∃ W1, W1 = Lib.bytesWorld w 5 t := ⟨_, rfl⟩
  rw [← hW1] at hcv hB ⊢
  clear hW1
  obtain ⟨bs, hL⟩ : ∃ bs, bs = t.data.toList := ⟨_, rfl⟩
  have hLn : bs.length = 16 := by rw [hL, ← Lib.size_eq, h16]
  rw [← hL] at hB hd ⊢
  clear hL
  rw [h16] at hB
  have HB : Hid (∀ j, j < 16 → W1.cell? ⟨w.heap.size, j, none⟩ = some (.int .u8 (bs.getD j 0).toNat)) := hB
  have HD : Hid (bs.length = 16 ∧ ∀ c ∈ bs, isHex c = true) := ⟨hLn, hd⟩
  clear hB hLn hd
  have hmv : IntKind.u64.wrap (IntKind.u64.wrap 18446744073709551616 - 1) = 18446744073709551615 := by
    rw [IntKind.wrap_u64, IntKind.wrap_u64]
    decide
  go_enter Tryz.func72, Tryz.ntmps72
  go_wp2
  go_loop [12, 13, 101] (fun vu vn vi => ∃ (k acc : Nat) (a : Int), vu = .bool false ∧ vn = .int .u64 a ∧ vi = .int .i64 k ∧ k ≤ 16 ∧ Hid (a = (acc : Int) ∧ acc = hexV (bs.take k)))
    (fun _ _ vi => 16 - (intOf vi).toNat)
  case atStart => exact ⟨0, 0, 0, rfl, rfl, rfl, by omega, rfl, rfl⟩
  case round =>
    obtain ⟨k, acc, a, rfl, rfl, rfl, hk, hh⟩ := hrel
    by_cases hkn : k < 16
    · have hkl : k < bs.length := by rw [HD.out.1]; exact hkn
      have hc := HB.out k hkn
      have hget : bs.getD k 0 = bs[k] := by simp [List.getD, List.getElem?_eq_getElem hkl]
      rw [hget] at hc
      have HS : Hid (hexV (bs.take (k + 1)) = acc * 16 + hx (bs[k]).toNat) := by
        show _ = _
        rw [List.take_succ_eq_append_getElem hkl, hexV_snoc, hh.out.2]
      have hhx := HD.out.2 bs[k] (List.getElem_mem hkl)
      generalize bs[k] = c at hc HS hhx
      have ha2 : acc < 1152921504606846976 := by
        rw [hh.out.2]
        have h1 := hexV_lt (bs.take k) (fun c hc => HD.out.2 c (List.mem_of_mem_take hc))
        have h2 : (16 : Nat) ^ (bs.take k).length ≤ 16 ^ 15 := Nat.pow_le_pow_right (by decide) (by rw [List.length_take]; omega)
        have h3 : (16 : Nat) ^ 15 = 1152921504606846976 := by decide
        omega
      have a0 : 0 ≤ a := by have := hh.out.1; omega
      have a1 : a < 1152921504606846976 := by have := hh.out.1; omega
      have HA : Hid (a = (acc : Int)) := hh.out.1
      clear hh hget ha2
      rcases isHex_cases hhx with ⟨d0, d1, d2⟩ | ⟨d0, d1, d2⟩
      · have HN : Hid (a * 16 + ((c.toNat : Int) - 48) = ((acc * 16 + (c.toNat - 48) : Nat) : Int) ∧ acc * 16 + (c.toNat - 48) = hexV (bs.take (k + 1))) := ⟨by have := HA.out; omega, by rw [HS.out, d2]⟩
        clear HS HA d2 hhx
        have i0 : (48 : Int) ≤ (c.toNat : Int) := by omega
        have i1 : (c.toNat : Int) ≤ 57 := by omega
        clear d0 d1
        go_wp2
        refine ⟨⟨k + 1, acc * 16 + (c.toNat - 48), a * 16 + ((c.toNat : Int) - 48), rfl, (by first | rfl | (congr 1; omega)), (by first | rfl | (congr 1; omega)), by omega, HN.out⟩, by simp [intOf]; omega⟩
      · have HN : Hid (a * 16 + ((c.toNat : Int) - 87) = ((acc * 16 + (c.toNat - 87) : Nat) : Int) ∧ acc * 16 + (c.toNat - 87) = hexV (bs.take (k + 1))) := ⟨by have := HA.out; omega, by rw [HS.out, d2]⟩
        have i0 : (97 : Int) ≤ (c.toNat : Int) := by omega
        have i1 : (c.toNat : Int) ≤ 102 := by omega
        have hor : bits .or .u8 (c.toNat : Int) 32 = (c.toNat : Int) := low_or c.toNat d0 d1
        clear HS HA d2 hhx d0 d1
        go_wp2_with (go_at_call 77; refine (Tryz.internal_strconv_lower _ _).mono ?_; rintro e w' ⟨rfl, rfl⟩)
        refine ⟨⟨k + 1, acc * 16 + (c.toNat - 87), a * 16 + ((c.toNat : Int) - 87), rfl, (by first | rfl | (congr 1; omega)), (by first | rfl | (congr 1; omega)), by omega, HN.out⟩, by simp [intOf]; omega⟩
    · have hkk : k = 16 := by omega
      subst hkk
      have HE : Hid (a = ((hexV bs : Nat) : Int)) := by
        show _ = _
        rw [hh.out.1, hh.out.2, List.take_of_length_le (by rw [HD.out.1]; exact Nat.le_refl _)]
      clear hh
      go_wp2
      go_ret2
      exact ⟨by rw [← HE.out]; rfl, rfl⟩
theorem bytesWorld_below (w : World) (t : ByteArray) : Below w.heap.size w (Lib.bytesWorld w 5 t) := Lib.bytesWorld_below _ _ _
set_option maxHeartbeats 1000000 in
theorem ParseUint16P (t : ByteArray) (h16 : t.size = 16) (hd : ∀ c ∈ t.data.toList, isHex c = true) (w : World) :
    Calls Tryz.prog 61 #[.string t, .int .i64 16, .int .i64 64] w fun e w' => e = .returned (.tuple #[.int .u64 (hexV t.data.toList), .nilIface]) ∧ Below w.heap.size w w' := by
  go_enter Tryz.func61, Tryz.ntmps61
  go_wp2_with fail
  refine (ParseUint16 t h16 hd _).mono ?_
  rintro e w1 ⟨rfl, hw⟩
  have hb : Below w.heap.size w w1 := by rw [hw]; exact bytesWorld_below w t
  clear hw
  go_wp2
  go_ret2
  exact ⟨rfl, hb⟩
def hexd : ByteArray := ⟨#[48, 49, 50, 51, 52, 53, 54, 55, 56, 57, 97, 98, 99, 100, 101, 102]⟩
theorem inB_nat : ∀ n, n < 256 → inB hexd (UInt8.ofNat n) = isHex (UInt8.ofNat n) := by decide +kernel
theorem inB_hex (c : UInt8) : inB hexd c = isHex c := by
  have h := inB_nat c.toNat (UInt8.toNat_lt c)
  have e : UInt8.ofNat c.toNat = c := UInt8.ofNat_toNat
  rwa [e] at h
theorem allB_hex (s : ByteArray) (h : allB s hexd = true) : ∀ c ∈ s.data.toList, isHex c = true := by
  intro c hc
  unfold allB at h
  rw [Bool.and_eq_true, List.all_eq_true] at h
  rw [← inB_hex]; exact h.1 c hc
/-- What readBits gives. -/
def bitsT (s : ByteArray) : Value :=
  if s.size = 16 ∧ allB s hexd = true ∧ isNum 3 (wrap64 (hexV s.data.toList)) = true then .tuple #[AV 3 (wrap64 (hexV s.data.toList)), .int .i64 0] else .tuple #[AV 0 0, .int .i64 6]
set_option maxHeartbeats 2000000 in
theorem readBits_any (s : ByteArray) (w : World) (hs : s.size ≤ maxLen) :
    Calls Tryz.prog 48 #[.string s] w fun e w' => e = .returned (bitsT s) ∧ Below w.heap.size w w' := by
  by_cases h16 : s.size = 16
  · have h16' : (s.size : Int) = 16 := by omega
    cases ha : allB s hexd
    · have HT : Hid (bitsT s = .tuple #[AV 0 0, .int .i64 6]) := by show _ = _; unfold bitsT; rw [if_neg]; rintro ⟨_, h, _⟩; rw [ha] at h; cases h
      go_enter Tryz.func48, Tryz.ntmps48
      go_wp2_with (first | (go_at_call 50; refine (allOf_any s hexd _ hs).mono ?_; rintro e w' ⟨rfl, rfl⟩))
      refine bodyPost_ret (v := .tuple #[AV 0 0, .int .i64 6]) (by simp [results, Tryz.results48, go_sem]) rfl ⟨by rw [HT.out], ?_⟩
      exact (Below.refl _ _).alloc (Nat.le_refl _) _
    · have HH := allB_hex s ha
      have P1 : Hid (∀ w, Calls Tryz.prog 61 #[.string s, .int .i64 16, .int .i64 64] w fun e w' => e = .returned (.tuple #[.int .u64 (hexV s.data.toList), .nilIface]) ∧ Below w.heap.size w w') := fun w => ParseUint16P s h16 HH w
      obtain ⟨V, hV⟩ : ∃ V : Nat, V = hexV s.data.toList := ⟨_, rfl⟩
      obtain ⟨M, hM⟩ : ∃ M : Int, M = wrap64 (V : Int) := ⟨_, rfl⟩
      have m1 : -9223372036854775808 ≤ M ∧ M ≤ 9223372036854775807 := by rw [hM]; unfold wrap64; omega
      rw [← hV] at P1
      cases hi : isNum 3 M
      · have HT : Hid (bitsT s = .tuple #[AV 0 0, .int .i64 6]) := by
          show _ = _; unfold bitsT; rw [if_neg]; rintro ⟨_, _, h⟩; rw [← hV, ← hM, hi] at h; cases h
        have IS : Hid (∀ w, Calls Tryz.prog 63 #[AV 3 M] w fun e w' => e = .returned (.bool false) ∧ Below w.heap.size w w') := fun w => by
          have h := Is_any 3 M w m1.1 m1.2; rw [hi] at h; exact h
        have OB : Hid (∀ w, Calls Tryz.prog 62 #[.int .u64 (V : Int)] w fun e w' => e = .returned (AV 3 M) ∧ Below w.heap.size w w') := fun w => by
          rw [hM]; exact ofBits_any _ w
        clear hM hV HH hi m1
        go_enter Tryz.func48, Tryz.ntmps48
        go_wp2_with (first | (go_at_call 50; refine (allOf_any s hexd _ hs).mono ?_; rintro e w' ⟨rfl, rfl⟩))
        refine (P1.out _).mono ?_
        rintro e w1 ⟨rfl, hb1⟩
        obtain ⟨k5, k6, l5, l6, z1, HB⟩ := rbox hb1
        clear hb1
        go_wp2_with fail
        refine (OB.out _).mono ?_
        rintro e w2 ⟨rfl, hb2⟩
        have k5 := cell_later hb2 k5
        have k6 := cell_later hb2 k6
        have l5 := fro_later hb2 l5 z1
        have l6 := fro_later hb2 l6 z1
        have HB := chainB HB hb2
        have z2 : w.heap.size < w2.heap.size := by have := hb2.size; omega
        clear hb2
        go_wp2_with fail
        refine (IS.out _).mono ?_
        rintro e w3 ⟨rfl, hb3⟩
        have a5 := cell_later hb3 (show (w2.alloc (.cells #[.int .i64 3, .int .i64 M] 36)).cell? ⟨w2.heap.size, 0, none⟩ = some (.int .i64 3) by simp [go_sem])
        have a6 := cell_later hb3 (show (w2.alloc (.cells #[.int .i64 3, .int .i64 M] 36)).cell? ⟨w2.heap.size, 1, none⟩ = some (.int .i64 M) by simp [go_sem])
        have k5 := cell_later hb3 (al k5 z2)
        have k6 := cell_later hb3 (al k6 z2)
        have hA : Below w2.heap.size w2 (w2.alloc (.cells #[.int .i64 3, .int .i64 M] 36)) := (Below.refl _ _).alloc (Nat.le_refl _) _
        have z3 : w.heap.size < (w2.alloc (.cells #[.int .i64 3, .int .i64 M] 36)).heap.size := Nat.lt_of_lt_of_le z2 hA.size
        have l5 := fro_later hb3 (fro_later hA l5 z2) z3
        have l6 := fro_later hb3 (fro_later hA l6 z2) z3
        have HB := chainB (chainB HB hA) hb3
        clear hA hb3 z3
        go_wp2
        refine bodyPost_ret (v := .tuple #[AV 0 0, .int .i64 6]) (by simp [results, Tryz.results48, go_sem, k5, k6]) rfl ⟨by rw [HT.out], ?_⟩
        exact (HB.out.setCell (by simp) _).setCell (by simp) _
      · have HT : Hid (bitsT s = .tuple #[AV 3 M, .int .i64 0]) := by
          show _ = _; unfold bitsT; rw [if_pos ⟨h16, ha, by rw [← hV, ← hM]; exact hi⟩, ← hV, ← hM]
        have IS : Hid (∀ w, Calls Tryz.prog 63 #[AV 3 M] w fun e w' => e = .returned (.bool true) ∧ Below w.heap.size w w') := fun w => by
          have h := Is_any 3 M w m1.1 m1.2; rw [hi] at h; exact h
        have OB : Hid (∀ w, Calls Tryz.prog 62 #[.int .u64 (V : Int)] w fun e w' => e = .returned (AV 3 M) ∧ Below w.heap.size w w') := fun w => by
          rw [hM]; exact ofBits_any _ w
        clear hM hV HH hi m1
        go_enter Tryz.func48, Tryz.ntmps48
        go_wp2_with (first | (go_at_call 50; refine (allOf_any s hexd _ hs).mono ?_; rintro e w' ⟨rfl, rfl⟩))
        refine (P1.out _).mono ?_
        rintro e w1 ⟨rfl, hb1⟩
        obtain ⟨k5, k6, l5, l6, z1, HB⟩ := rbox hb1
        clear hb1
        go_wp2_with fail
        refine (OB.out _).mono ?_
        rintro e w2 ⟨rfl, hb2⟩
        have k5 := cell_later hb2 k5
        have k6 := cell_later hb2 k6
        have l5 := fro_later hb2 l5 z1
        have l6 := fro_later hb2 l6 z1
        have HB := chainB HB hb2
        have z2 : w.heap.size < w2.heap.size := by have := hb2.size; omega
        clear hb2
        go_wp2_with fail
        refine (IS.out _).mono ?_
        rintro e w3 ⟨rfl, hb3⟩
        have a5 := cell_later hb3 (show (w2.alloc (.cells #[.int .i64 3, .int .i64 M] 36)).cell? ⟨w2.heap.size, 0, none⟩ = some (.int .i64 3) by simp [go_sem])
        have a6 := cell_later hb3 (show (w2.alloc (.cells #[.int .i64 3, .int .i64 M] 36)).cell? ⟨w2.heap.size, 1, none⟩ = some (.int .i64 M) by simp [go_sem])
        have k5 := cell_later hb3 (al k5 z2)
        have k6 := cell_later hb3 (al k6 z2)
        have hA : Below w2.heap.size w2 (w2.alloc (.cells #[.int .i64 3, .int .i64 M] 36)) := (Below.refl _ _).alloc (Nat.le_refl _) _
        have z3 : w.heap.size < (w2.alloc (.cells #[.int .i64 3, .int .i64 M] 36)).heap.size := Nat.lt_of_lt_of_le z2 hA.size
        have l5 := fro_later hb3 (fro_later hA l5 z2) z3
        have l6 := fro_later hb3 (fro_later hA l6 z2) z3
        have HB := chainB (chainB HB hA) hb3
        clear hA hb3 z3
        go_wp2
        refine bodyPost_ret (v := .tuple #[AV 3 M, .int .i64 0]) (by simp [results, Tryz.results48, go_sem, k5, k6]) rfl ⟨by rw [HT.out], ?_⟩
        exact (HB.out.setCell (by simp) _).setCell (by simp) _
  · have HT : Hid (bitsT s = .tuple #[AV 0 0, .int .i64 6]) := by show _ = _; unfold bitsT; rw [if_neg]; rintro ⟨h, _⟩; exact h16 h
    have hne : ((s.size : Int) != 16) = true := by simp; omega
    go_enter Tryz.func48, Tryz.ntmps48
    go_wp2
    refine bodyPost_ret (v := .tuple #[AV 0 0, .int .i64 6]) (by simp [results, Tryz.results48, go_sem]) rfl ⟨by rw [HT.out], ?_⟩
    exact (Below.refl _ _).alloc (Nat.le_refl _) _
/-- What stands behind the mark. -/
def offm (s : ByteArray) : ByteArray := ⟨(Lib.trimPrefix s.data.toList zf.data.toList).toArray⟩
theorem offm_size (s : ByteArray) : (offm s).size ≤ s.size := by
  rw [Lib.size_eq, Lib.size_eq s]
  unfold offm Lib.trimPrefix
  split <;> simp
set_option maxHeartbeats 1000000 in
theorem Read_bits (s : ByteArray) (t m x : Int) (w : World) (hs : s.size ≤ maxLen) (h0 : Lib.hasPrefix s.data.toList zf.data.toList = true) (hr : bitsT (offm s) = .tuple #[AV t m, .int .i64 x]) :
    Calls Tryz.prog 34 #[.string s] w fun e w' => e = .returned (.tuple #[AV t m, .int .i64 x]) ∧ Below w.heap.size w w' := by
  have b1 : (offm s).size ≤ maxLen := Nat.le_trans (offm_size s) hs
  have H0 : Hid (Lib.hasPrefix s.data.toList zf.data.toList = true) := h0
  have RB : Hid (∀ w, Calls Tryz.prog 48 #[.string (offm s)] w fun e w' => e = .returned (.tuple #[AV t m, .int .i64 x]) ∧ Below w.heap.size w w') := fun w => by
    rw [← hr]; exact readBits_any (offm s) w b1
  clear h0 hr
  go_enter Tryz.func34, Tryz.ntmps34
  go_wp2_with fail
  refine (Tryz.strings_CutPrefix s zf _).mono ?_
  rintro e w' ⟨rfl, rfl⟩
  rw [H0.out]
  go_wp2_with fail
  refine (RB.out _).mono ?_
  rintro e w1 ⟨rfl, hb1⟩
  obtain ⟨k5, k6, l5, l6, z1, HB⟩ := rbox hb1
  clear hb1
  go_wp2
  refine bodyPost_ret (v := .tuple #[AV t m, .int .i64 x]) (by simp [results, Tryz.results34, go_sem, k5, k6]) rfl ⟨rfl, ?_⟩
  exact (HB.out.setCell (by simp) _).setCell (by simp) _
set_option maxHeartbeats 1000000 in
theorem Read_int (s : ByteArray) (v : Int) (w : World) (hs : s.size ≤ maxLen) (hz : s.size ≤ 140737488355328) (h0 : Lib.hasPrefix s.data.toList zf.data.toList = false) (hb : bad s = false) (hp : pnt s = false)
    (hv : Lib.parseIntB 64 s.data.toList = .ok v) :
    Calls Tryz.prog 34 #[.string s] w fun e w' => e = .returned (.tuple #[AV 2 v, .int .i64 0]) ∧ Below w.heap.size w w' := by
  have b1 : (unsg s).size ≤ maxLen := Nat.le_trans (unsg_size s) hs
  have b2 : (ahd s).size ≤ maxLen := Nat.le_trans (cutA_size _ _) b1
  have H0 : Hid (Lib.hasPrefix s.data.toList zf.data.toList = false) := h0
  have RI : Hid (∀ w, Calls Tryz.prog 51 #[.string s] w fun e w' => e = .returned (.tuple #[AV 2 v, .int .i64 0]) ∧ Below w.heap.size w w') := fun w => readInt_ok s v w hz hv
  have a1 : allB (ahd s) dec = true := by unfold bad at hb; simp at hb; exact hb.1
  have hp' : cutB (unsg s) 46 = false := hp
  clear h0 hv hb hp
  go_enter Tryz.func34, Tryz.ntmps34
  go_wp2_with fail
  refine (Tryz.strings_CutPrefix s zf _).mono ?_
  rintro e w' ⟨rfl, rfl⟩
  rw [H0.out]
  go_wp2_with fail
  refine (Tryz.strings_CutPrefix s dash _).mono ?_
  rintro e w' ⟨rfl, rfl⟩
  go_wp2_with fail
  refine (Cut_any (unsg s) 46 _ b1).mono ?_
  rintro e w1 ⟨rfl, hb1⟩
  obtain ⟨k5, k6, l5, l6, z1, HB⟩ := rbox hb1
  clear hb1
  go_wp2_with fail
  refine (allOf_any (ahd s) dec _ b2).mono ?_
  rintro e w' ⟨rfl, rfl⟩
  go_wp2_with fail
  refine (RI.out _).mono ?_
  rintro e w2 ⟨rfl, hb2⟩
  have k5 := cell_later hb2 k5
  have k6 := cell_later hb2 k6
  have l5 := fro_later hb2 l5 z1
  have l6 := fro_later hb2 l6 z1
  have HB := chainB HB hb2
  clear hb2
  go_wp2
  refine bodyPost_ret (v := .tuple #[AV 2 v, .int .i64 0]) (by simp [results, Tryz.results34, go_sem, k5, k6]) rfl ⟨rfl, ?_⟩
  exact (HB.out.setCell (by simp) _).setCell (by simp) _
end Go.Proofs.YtidokamfppdnaaaGreatDoor
