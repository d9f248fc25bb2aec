/- A number without a sign as hexadecimal digits. -/
import Derived.Test.YtdpdpgnpkmfooaaGreatDoorX3
import Derived.Laws.BitsAllLaws
namespace Go.Proofs.YtdpdpgnpkmfooaaGreatDoor
open Go.RowKit

set_option maxHeartbeats 1000000 in
theorem tz16 (w : World) (ht : w.cell? ⟨6, 15, none⟩ = some (.int .u8 4)) :
    Calls Tryz.prog 128 #[.int .u64 16] w fun e w' => e = .returned (.int .i64 4) ∧ w' = w := by
  have e : (IntKind.u64.wrap (bits .and .u64 16 (IntKind.u64.wrap (-16)) * 285870213051353865) / 288230376151711744).toNat = 15 := by decide +kernel
  have ht' : w.cell? ⟨6, (IntKind.u64.wrap (bits .and .u64 16 (IntKind.u64.wrap (-16)) * 285870213051353865) / 288230376151711744).toNat, none⟩ = some (.int .u8 4) := by rw [e]; exact ht
  clear e ht
  go_enter Tryz.func128, Tryz.ntmps128
  go_wp2
  go_ret
  exact ⟨rfl, rfl⟩

set_option maxHeartbeats 1000000 in
theorem pow2_16 (w : World) : Calls Tryz.prog 127 #[.int .i64 16] w fun e w' => e = .returned (.bool true) ∧ w' = w := by
  go_enter Tryz.func127, Tryz.ntmps127
  go_wp2
  go_ret
  exact ⟨rfl, rfl⟩

theorem and15 (V : Nat) (h : V < 18446744073709551616) : bits .and .u64 (V : Int) 15 = ((V % 16 : Nat) : Int) := by
  have := u64_and_nat V 15 h (by omega)
  rw [show ((15 : Nat) : Int) = 15 from rfl] at this
  rw [this, show 15 = 2 ^ 4 - 1 from rfl, Nat.and_two_pow_sub_one_eq_mod]

/-- A hexadecimal digit's byte, and the last k digits of a number. -/
def hexD (n : Nat) : UInt8 := if n < 10 then (48 + n).toUInt8 else (87 + n).toUInt8
def hexLow (U : Nat) : Nat → List UInt8
  | 0 => []
  | k + 1 => hexD (U / 16 ^ k % 16) :: hexLow U k

/-- The cells of the digits' array when k digits stand. -/
def hexIs (U k : Nat) (C : Array Value) : Prop := C.size = 65 ∧ ∀ j : Nat, j < k → C[64 - j]? = some (.int .u8 (hexD (U / 16 ^ j % 16)).toNat)

theorem arr65 : Tryz.prog.arrayLen 135 = 65 := by kernel_rfl
theorem slice65 (b J : Nat) (w : World) (h : J ≤ 64) : (Instr.sliceAt 135 (.pointer (some ⟨b, 0, none⟩)) (some (.int .i64 (J : Int))) none none).run Tryz.prog w = .ok (.slice (some ⟨b, J, none⟩) (65 - J) (65 - J)) w := by
  have ht : Tryz.prog.underlying 135 = some (.array (Tryz.prog.arrayLen 135) (Tryz.prog.elem 135)) := by kernel_rfl
  have hs : ∀ w, (sizeOf (Tryz.prog.elem 135)).run Tryz.prog w = .ok 1 w := fun _ => by kernel_rfl
  rw [run_sliceAt_array_l w 135 ⟨b, 0, none⟩ ht .i64 (J : Int) (by omega) (by rw [arr65]; omega), hs]
  show Result.ok (slicedAt _ _ _ _ _) w = _
  unfold slicedAt
  rw [arr65, Int.toNat_natCast, if_neg (by omega), Nat.mul_one]
  unfold Addr.add
  simp
  intro h0; exact h0.symm

theorem dig_eq : ∀ (D : Nat) (_ : D < 16) (h : D < (⟨#[48, 49, 50, 51, 52, 53, 54, 55, 56, 57, 97, 98, 99, 100, 101, 102, 103, 104, 105, 106, 107, 108, 109, 110, 111, 112, 113, 114, 115, 116, 117, 118, 119, 120, 121, 122]⟩ : ByteArray).size),
    (⟨#[48, 49, 50, 51, 52, 53, 54, 55, 56, 57, 97, 98, 99, 100, 101, 102, 103, 104, 105, 106, 107, 108, 109, 110, 111, 112, 113, 114, 115, 116, 117, 118, 119, 120, 121, 122]⟩ : ByteArray)[D] = hexD D := by
  intro D h h'
  have : D = 0 ∨ D = 1 ∨ D = 2 ∨ D = 3 ∨ D = 4 ∨ D = 5 ∨ D = 6 ∨ D = 7 ∨ D = 8 ∨ D = 9 ∨ D = 10 ∨ D = 11 ∨ D = 12 ∨ D = 13 ∨ D = 14 ∨ D = 15 := by omega
  rcases this with rfl | rfl | rfl | rfl | rfl | rfl | rfl | rfl | rfl | rfl | rfl | rfl | rfl | rfl | rfl | rfl <;> rfl

theorem hexIs_step {U k J : Nat} {C : Array Value} {d : UInt8} (h : hexIs U k C) (hJ : J + k = 64) (hd : d = hexD (U / 16 ^ k % 16)) : hexIs U (k + 1) (C.setIfInBounds J (.int .u8 d.toNat)) := by
  refine ⟨by rw [Array.size_setIfInBounds]; exact h.1, fun j hj => ?_⟩
  rw [Array.getElem?_setIfInBounds]
  by_cases e : j = k
  · subst e
    rw [if_pos (by omega), if_pos (by rw [h.1]; omega), hd]
  · rw [if_neg (by omega)]
    exact h.2 j (by omega)

theorem hexLow_length (U : Nat) : ∀ n, (hexLow U n).length = n
  | 0 => rfl
  | n + 1 => by simp [hexLow, hexLow_length U n]
theorem hexLow_get (U : Nat) : ∀ (n j : Nat) (h : j < (hexLow U n).length), (hexLow U n)[j] = hexD (U / 16 ^ (n - 1 - j) % 16)
  | 0, j, h => by simp [hexLow] at h
  | n + 1, 0, h => by simp [hexLow]
  | n + 1, j + 1, h => by
    have h' : j < (hexLow U n).length := by simpa [hexLow] using h
    have e : (hexLow U (n + 1))[j + 1] = (hexLow U n)[j] := by simp [hexLow]
    rw [e, hexLow_get U n j h']
    rw [hexLow_length] at h'
    rw [show n - 1 - j = n + 1 - 1 - (j + 1) from by omega]

theorem conv65 {U n J : Nat} {C : Array Value} (w : World) (h : hexIs U n C) (hJ : J + n = 65) :
    (convert 102 9 (.slice (some ⟨w.heap.size, J, none⟩) (65 - J) (65 - J))).run Tryz.prog (w.alloc (.cells C 135)) = .ok (.string ⟨(hexLow U n).toArray⟩) (w.alloc (.cells C 135)) := by
  have hl := hexLow_length U n
  have e : 65 - J = (hexLow U n).length := by rw [hl]; omega
  rw [e]
  refine run_convert_bytes_back _ 102 9 5 _ _ _ Tryz.underlying102 Tryz.underlying5 Tryz.underlying9 fun j hj => ?_
  have hj' : j < n := by rw [hl] at hj; exact hj
  have ha : (⟨w.heap.size, J, none⟩ : Addr).add j = ⟨w.heap.size, J + j, none⟩ := by unfold Addr.add; simp
  rw [ha, hexLow_get U n j hj]
  have := h.2 (n - 1 - j) (by omega)
  rw [show 64 - (n - 1 - j) = J + j from by omega] at this
  simp [go_sem, this]

set_option maxRecDepth 100000 in
set_option maxHeartbeats 1000000 in
theorem fmtBits (U : Nat) (w : World) (hU : U < 18446744073709551616) (ht : w.cell? ⟨6, 15, none⟩ = some (.int .u8 4)) :
    Calls Tryz.prog 106 #[.slice none 0 0, .int .u64 U, .int .i64 16, .bool false, .bool false] w fun e w' => ∃ k : Nat, e = .returned (.tuple #[.slice none 0 0, .string ⟨(hexLow U (k + 1)).toArray⟩]) ∧ U < 16 ^ (k + 1) ∧ k < 16 ∧ Below w.heap.size w w' := by
  have hcon : Tryz.zeroCells135.size = 65 := by decide +kernel
  go_enter Tryz.func106, Tryz.ntmps106
  go_wp2_with (first | (go_at_call 127; refine (pow2_16 _).mono ?_; rintro e w' ⟨rfl, rfl⟩))
  go_wp2_with fail
  refine (tz16 _ (al ht (World.block_lt_of_cell? _ _ ht))).mono ?_
  rintro e w' ⟨rfl, rfl⟩
  generalize Tryz.zeroCells135 = Z0 at hcon
  go_wp2_with fail
  go_loopw [1, 13] (fun u i wr => ∃ (k V J : Nat) (C : Array Value), wr = w.alloc (.cells C 135) ∧ u = .int .u64 (V : Int) ∧ i = .int .i64 ((J : Int) + 1) ∧ Hid (hexIs U k C ∧ V = U / 16 ^ k ∧ J + k = 64) ∧ 49 ≤ J ∧ J ≤ 64 ∧ V ≤ U) (fun u _ _ => (intOf u).toNat)
  case atStart => exact ⟨0, U, 64, Z0, rfl, rfl, rfl, ⟨⟨hcon, fun j h => by omega⟩, by simp, rfl⟩, by omega, by omega, Nat.le_refl _⟩
  case round =>
    obtain ⟨k, V, J, C, rfl, rfl, rfl, hC, hI1, hI2, hV⟩ := hrel
    have hJ : J < C.size := by rw [hC.out.1.1]; omega
    have hcell : (w.alloc (.cells C 135)).cell? ⟨w.heap.size, J, none⟩ = some C[J] := by simp [go_sem, hJ]
    have hD : V % 16 < 16 := Nat.mod_lt _ (by decide)
    have hand : bits .and .u64 (V : Int) 15 = ((V % 16 : Nat) : Int) := and15 V (by omega)
    have HDG : Hid (hexD (V % 16) = hexD (U / 16 ^ k % 16)) := by show _ = _; rw [hC.out.2.1]
    by_cases hlt : 16 ≤ V
    · have hlt' : (16 : Int) ≤ (V : Int) := by omega
      generalize hDD : V % 16 = D at hD hand HDG
      have HP : Hid (U / 16 ^ k = V ∧ V % 16 = D) := ⟨hC.out.2.1.symm, hDD⟩
      clear hDD
      go_wp2_with fail
      have hk : k ≤ 14 := by
        rcases Nat.lt_or_ge k 15 with h | h
        · omega
        · exfalso
          have h1 : 16 ^ 15 ≤ 16 ^ k := Nat.pow_le_pow_right (by decide) h
          have h2 : U / 16 ^ k ≤ U / 16 ^ 15 := Nat.div_le_div_left h1 (by decide)
          have h3 : U / 16 ^ 15 < 16 := Nat.div_lt_of_lt_mul (by omega)
          have := HP.out.1
          omega
      have hj := hC.out.2.2
      refine ⟨⟨k + 1, V / 16, J - 1, _, rfl, by rw [Int.natCast_ediv]; rfl, ?_, ⟨hexIs_step hC.out.1 (by omega) (by rw [dig_eq D hD _, HDG.out]), ?_, by omega⟩, by omega, by omega, by omega⟩, ?_⟩
      · have : (J : Int) = ((J - 1 : Nat) : Int) + 1 := by omega
        rw [← this]
      · rw [← HP.out.1, Nat.div_div_eq_div_mul, Nat.pow_succ]
      · simp [intOf]; omega
    · have hV16 : V < 16 := by omega
      have hmod : V % 16 = V := Nat.mod_eq_of_lt hV16
      clear hand hD
      have hlt' : ¬ (16 : Int) ≤ (V : Int) := by omega
      rw [hmod] at HDG
      clear hmod
      have hsl : ∀ (b : Nat) (w : World), (Instr.sliceAt 135 (.pointer (some ⟨b, 0, none⟩)) (some (.int .i64 (J : Int))) none none).run Tryz.prog w = .ok (.slice (some ⟨b, J, none⟩) (65 - J) (65 - J)) w := fun b w => slice65 b J w hI2
      have hC2 := hexIs_step (d := (⟨#[48, 49, 50, 51, 52, 53, 54, 55, 56, 57, 97, 98, 99, 100, 101, 102, 103, 104, 105, 106, 107, 108, 109, 110, 111, 112, 113, 114, 115, 116, 117, 118, 119, 120, 121, 122]⟩ : ByteArray)[V]'(by show V < 36; omega)) hC.out.1 hC.out.2.2 (by rw [dig_eq V hV16 _, HDG.out])
      have hconv := conv65 w hC2 (show J + (k + 1) = 65 by have := hC.out.2.2; omega)
      have HF : Hid (U < 16 ^ (k + 1) ∧ k < 16) := by
        refine ⟨?_, by have := hC.out.2.2; omega⟩
        have h1 := hC.out.2.1
        have h2 : U / 16 ^ k < 16 := by omega
        rw [Nat.pow_succ, Nat.mul_comm]
        exact (Nat.div_lt_iff_lt_mul (Nat.pow_pos (by decide))).1 h2
      clear hC2
      go_wp2
      go_ret2
      exact ⟨k, rfl, HF.out.1, HF.out.2, (Below.refl _ _).alloc (Nat.le_refl _) _⟩

set_option maxHeartbeats 1000000 in
theorem fmtUint (U : Nat) (w : World) (hU : U < 18446744073709551616) (ht : w.cell? ⟨6, 15, none⟩ = some (.int .u8 4)) :
    Calls Tryz.prog 87 #[.int .u64 U, .int .i64 16] w fun e w' => ∃ k : Nat, e = .returned (.string ⟨(hexLow U (k + 1)).toArray⟩) ∧ U < 16 ^ (k + 1) ∧ k < 16 ∧ Below w.heap.size w w' := by
  go_enter Tryz.func87, Tryz.ntmps87
  go_wp2_with fail
  refine (fmtBits U _ hU ht).mono ?_
  rintro e w1 ⟨k, rfl, f1, f2, hb⟩
  have HF : Hid (U < 16 ^ (k + 1) ∧ k < 16) := ⟨f1, f2⟩
  clear f1 f2
  go_wp2
  go_ret
  exact ⟨k, rfl, HF.out.1, HF.out.2, hb⟩

set_option maxHeartbeats 1000000 in
theorem FormatUint (U : Nat) (w : World) (hU : U < 18446744073709551616) (ht : w.cell? ⟨6, 15, none⟩ = some (.int .u8 4)) :
    Calls Tryz.prog 64 #[.int .u64 U, .int .i64 16] w fun e w' => ∃ k : Nat, e = .returned (.string ⟨(hexLow U (k + 1)).toArray⟩) ∧ U < 16 ^ (k + 1) ∧ k < 16 ∧ Below w.heap.size w w' := by
  go_enter Tryz.func64, Tryz.ntmps64
  go_wp2_with fail
  refine (fmtUint U _ hU ht).mono ?_
  rintro e w1 ⟨k, rfl, f1, f2, hb⟩
  have HF : Hid (U < 16 ^ (k + 1) ∧ k < 16) := ⟨f1, f2⟩
  clear f1 f2
  go_wp2
  go_ret
  exact ⟨k, rfl, HF.out.1, HF.out.2, hb⟩

theorem hexLow_pad (U k : Nat) (h : U < 16 ^ k) : ∀ m, hexLow U (k + m) = List.replicate m 48 ++ hexLow U k
  | 0 => rfl
  | m + 1 => by
    have e : hexLow U (k + (m + 1)) = hexD (U / 16 ^ (k + m) % 16) :: hexLow U (k + m) := rfl
    have h2 : U < 16 ^ (k + m) := Nat.lt_of_lt_of_le h (Nat.pow_le_pow_right (by decide) (by omega))
    rw [e, Nat.div_eq_of_lt h2, hexLow_pad U k h m, List.replicate_succ]
    rfl

theorem repeat0 : ∀ m, Lib.repeatL [48] m = List.replicate m (48 : UInt8)
  | 0 => rfl
  | m + 1 => by
    show [48] ++ Lib.repeatL [48] m = _
    rw [repeat0 m, List.replicate_succ]; rfl

/-- The text of a float. -/
def txtF (U : Nat) : ByteArray := ⟨(48 :: 102 :: hexLow U 16).toArray⟩

set_option maxHeartbeats 1000000 in
theorem Text_float (n : Int) (w : World) (h1 : -9223372036854775808 ≤ n) (h2 : n ≤ 9223372036854775807) (hi : isNum 3 n = true) (ht : w.cell? ⟨6, 15, none⟩ = some (.int .u8 4)) :
    Calls Tryz.prog 36 #[AV 3 n] w fun e w' => e = .returned (.string (txtF (B n))) ∧ Below w.heap.size w w' := by
  have hu : IntKind.u64.wrap n = ((B n : Nat) : Int) := by rw [B_eq, IntKind.wrap_u64]
  have hU := B_lt n
  go_enter Tryz.func36, Tryz.ntmps36
  go_wp2_with fail
  refine (Is_any _ _ _ h1 h2).mono ?_
  rintro e w1 ⟨rfl, hb⟩
  have c0 := cell_later hb (show (w.alloc (.cells #[.int .i64 3, .int .i64 n] 23)).cell? ⟨w.heap.size, 0, none⟩ = some (.int .i64 3) by simp [go_sem])
  have c1 := cell_later hb (show (w.alloc (.cells #[.int .i64 3, .int .i64 n] 23)).cell? ⟨w.heap.size, 1, none⟩ = some (.int .i64 n) by simp [go_sem])
  have t1 := cell_later hb (al ht (World.block_lt_of_cell? _ _ ht))
  have HB : Hid (Below w.heap.size w w1) := end1 hb
  clear hb
  go_wp2_with fail
  refine (FormatUint (B n) _ hU t1).mono ?_
  rintro e w2 ⟨k, rfl, f1, f2, hb2⟩
  have HB := chainB HB hb2
  have HF : Hid (B n < 16 ^ (k + 1) ∧ k < 16) := ⟨f1, f2⟩
  have hsz : (⟨(hexLow (B n) (k + 1)).toArray⟩ : ByteArray).size = k + 1 := by rw [Lib.size_eq]; simp [hexLow_length]
  have hk : (k : Int) < 16 := by omega
  clear f1 hb2
  go_wp2_with fail
  rw [show (16 - ((k : Int) + 1)) = ((15 - k : Nat) : Int) from by omega]
  refine (Tryz.strings_Repeat ⟨#[48]⟩ (15 - k) _ (by omega) (by show 1 * (15 - k) ≤ _; omega)).mono ?_
  rintro e w3 ⟨rfl, hb3⟩
  have HB := chainB HB hb3
  have HT : Hid (⟨#[48, 102]⟩ ++ ⟨(Lib.repeatL [48] (15 - k)).toArray⟩ ++ ⟨(hexLow (B n) (k + 1)).toArray⟩ = txtF (B n)) := by
    show _ = _
    apply Go.WideShapes.bytes_inj
    rw [ByteArray.data_append, ByteArray.data_append]
    have := hexLow_pad (B n) (k + 1) HF.out.1 (15 - k)
    rw [show k + 1 + (15 - k) = 16 from by have := HF.out.2; omega] at this
    simp [txtF, this, repeat0]
  have hR : (⟨(Lib.repeatL [48] (15 - k)).toArray⟩ : ByteArray).size = 15 - k := by rw [Lib.size_eq]; simp [repeat0]
  have hS : ((⟨#[48, 102]⟩ : ByteArray) ++ ⟨(Lib.repeatL [48] (15 - k)).toArray⟩).size = 17 - k := by rw [ByteArray.size_append, hR]; show 2 + (15 - k) = _; omega
  clear hb3
  go_wp2
  go_ret
  exact ⟨by rw [← HT.out]; rfl, HB.out⟩
end Go.Proofs.YtdpdpgnpkmfooaaGreatDoor
