import Derived.Test.YtmoiikpjegbokaaGreatDoorGB
import Derived.Laws.BitsAllLaws
import Derived.Lib.ItoaLen
import Derived.Shelf.Strings.Repeat
import Derived.Shelf.Strings.Builder2
import Derived.Deep.RegionHeld3
set_option linter.unusedSimpArgs false
set_option linter.unusedVariables false
set_option maxHeartbeats 1000000
/- Out of ../num, for this seat. -/
namespace Go.Proofs.YtmoiikpjegbokaaGreatDoor
open Go.Proofs.Tryz renaming prog → tpg
open Go.RowKit
theorem B_lt (n : Int) : B n < 18446744073709551616 := by have := B_eq (n := n); omega
theorem bi_B {n : Int} (h1 : -9223372036854775808 ≤ n) (h2 : n ≤ 9223372036854775807) : bi (B n) = n := by
  unfold bi wrap64; rw [B_eq]; omega
theorem tz16 (w : World) (ht : w.cell? ⟨7, 15, none⟩ = some (.int .u8 4)) :
    Calls tpg 207 #[.int .u64 16] w fun e w' => e = .returned (.int .i64 4) ∧ w' = w := by
  have e : (IntKind.u64.wrap (bits .and .u64 16 (IntKind.u64.wrap (-16)) * 285870213051353865) / 288230376151711744).toNat = 15 := by decide +kernel
  have ht' : w.cell? ⟨7, (IntKind.u64.wrap (bits .and .u64 16 (IntKind.u64.wrap (-16)) * 285870213051353865) / 288230376151711744).toNat, none⟩ = some (.int .u8 4) := by rw [e]; exact ht
  clear e ht;go_enter Tryz.func207, Tryz.ntmps207
  go_wp2
  go_ret
  exact ⟨rfl, rfl⟩
theorem pow2_16 (w : World) : Calls tpg 206 #[.int .i64 16] w fun e w' => e = .returned (.bool true) ∧ w' = w := by
  go_enter Tryz.func206, Tryz.ntmps206
  go_wp2
  go_ret
  exact ⟨rfl, rfl⟩
theorem and15 (V : Nat) (h : V < 18446744073709551616) : bits .and .u64 (V : Int) 15 = ((V % 16 : Nat) : Int) := by
  have := u64_and_nat V 15 h (by omega);rw [show ((15 : Nat) : Int) = 15 from rfl] at this;rw [this, show 15 = 2 ^ 4 - 1 from rfl, Nat.and_two_pow_sub_one_eq_mod]
def hexD (n : Nat) : UInt8 := if n < 10 then (48 + n).toUInt8 else (87 + n).toUInt8
def hexLow (U : Nat) : Nat → List UInt8
  | 0 => []
  | k + 1 => hexD (U / 16 ^ k % 16) :: hexLow U k
def hexIs (U k : Nat) (C : Array Value) : Prop := C.size = 65 ∧ ∀ j : Nat, j < k → C[64 - j]? = some (.int .u8 (hexD (U / 16 ^ j % 16)).toNat)
theorem arr65 : tpg.arrayLen 189 = 65 := by kernel_rfl
theorem slice65 (b J : Nat) (w : World) (h : J ≤ 64) : (Instr.sliceAt 189 (.pointer (some ⟨b, 0, none⟩)) (some (.int .i64 (J : Int))) none none).run tpg w = .ok (.slice (some ⟨b, J, none⟩) (65 - J) (65 - J)) w := by
  have ht : tpg.underlying 189 = some (.array (tpg.arrayLen 189) (tpg.elem 189)) := by kernel_rfl
  have hs : ∀ w, (sizeOf (tpg.elem 189)).run tpg w = .ok 1 w := fun _ => by kernel_rfl
  rw [run_sliceAt_array_l w 189 ⟨b, 0, none⟩ ht .i64 (J : Int) (by omega) (by rw [arr65]; omega), hs];show Result.ok (slicedAt _ _ _ _ _) w = _;unfold slicedAt;rw [arr65, Int.toNat_natCast, if_neg (by omega), Nat.mul_one];unfold Addr.add;simp
  intro h0; exact h0.symm
theorem dig_eq : ∀ (D : Nat) (_ : D < 16) (h : D < (⟨#[48, 49, 50, 51, 52, 53, 54, 55, 56, 57, 97, 98, 99, 100, 101, 102, 103, 104, 105, 106, 107, 108, 109, 110, 111, 112, 113, 114, 115, 116, 117, 118, 119, 120, 121, 122]⟩ : ByteArray).size),
    (⟨#[48, 49, 50, 51, 52, 53, 54, 55, 56, 57, 97, 98, 99, 100, 101, 102, 103, 104, 105, 106, 107, 108, 109, 110, 111, 112, 113, 114, 115, 116, 117, 118, 119, 120, 121, 122]⟩ : ByteArray)[D] = hexD D := by
  intro D h h';have : D = 0 ∨ D = 1 ∨ D = 2 ∨ D = 3 ∨ D = 4 ∨ D = 5 ∨ D = 6 ∨ D = 7 ∨ D = 8 ∨ D = 9 ∨ D = 10 ∨ D = 11 ∨ D = 12 ∨ D = 13 ∨ D = 14 ∨ D = 15 := by omega
  rcases this with rfl | rfl | rfl | rfl | rfl | rfl | rfl | rfl | rfl | rfl | rfl | rfl | rfl | rfl | rfl | rfl <;> rfl
theorem hexIs_step {U k J : Nat} {C : Array Value} {d : UInt8} (h : hexIs U k C) (hJ : J + k = 64) (hd : d = hexD (U / 16 ^ k % 16)) : hexIs U (k + 1) (C.setIfInBounds J (.int .u8 d.toNat)) := by
  refine ⟨by rw [Array.size_setIfInBounds]; exact h.1, fun j hj => ?_⟩;rw [Array.getElem?_setIfInBounds];by_cases e : j = k
  · subst e;rw [if_pos (by omega), if_pos (by rw [h.1]; omega), hd]
  · rw [if_neg (by omega)];exact h.2 j (by omega)
theorem hexLow_length (U : Nat) : ∀ n, (hexLow U n).length = n
  | 0 => rfl
  | n + 1 => by simp [hexLow, hexLow_length U n]
theorem hexLow_get (U : Nat) : ∀ (n j : Nat) (h : j < (hexLow U n).length), (hexLow U n)[j] = hexD (U / 16 ^ (n - 1 - j) % 16)
  | 0, j, h => by simp [hexLow] at h
  | n + 1, 0, h => by simp [hexLow]
  | n + 1, j + 1, h => by
    have h' : j < (hexLow U n).length := by simpa [hexLow] using h
    have e : (hexLow U (n + 1))[j + 1] = (hexLow U n)[j] := by simp [hexLow]
    rw [e, hexLow_get U n j h'];rw [hexLow_length] at h';rw [show n - 1 - j = n + 1 - 1 - (j + 1) from by omega]
theorem conv65 {U n J : Nat} {C : Array Value} (w : World) (h : hexIs U n C) (hJ : J + n = 65) :
    (convert 73 9 (.slice (some ⟨w.heap.size, J, none⟩) (65 - J) (65 - J))).run tpg (w.alloc (.cells C 189)) = .ok (.string ⟨(hexLow U n).toArray⟩) (w.alloc (.cells C 189)) := by
  have hl := hexLow_length U n;have e : 65 - J = (hexLow U n).length := by rw [hl]; omega
  rw [e];refine run_convert_bytes_back _ 73 9 5 _ _ _ Tryz.underlying73 Tryz.underlying5 Tryz.underlying9 fun j hj => ?_
  have hj' : j < n := by rw [hl] at hj; exact hj
  have ha : (⟨w.heap.size, J, none⟩ : Addr).add j = ⟨w.heap.size, J + j, none⟩ := by unfold Addr.add; simp
  rw [ha, hexLow_get U n j hj];have := h.2 (n - 1 - j) (by omega);rw [show 64 - (n - 1 - j) = J + j from by omega] at this;simp [go_sem, this]
set_option maxRecDepth 100000 in
theorem fmtBits (U : Nat) (w : World) (hU : U < 18446744073709551616) (ht : w.cell? ⟨7, 15, none⟩ = some (.int .u8 4)) :
    Calls tpg 191 #[.slice none 0 0, .int .u64 U, .int .i64 16, .bool false, .bool false] w fun e w' => ∃ k : Nat, e = .returned (.tuple #[.slice none 0 0, .string ⟨(hexLow U (k + 1)).toArray⟩]) ∧ U < 16 ^ (k + 1) ∧ k < 16 ∧ Below w.heap.size w w' := by
  have hcon : Tryz.zeroCells189.size = 65 := by decide +kernel
  go_enter Tryz.func191, Tryz.ntmps191
  go_wp2_with (first | (go_at_call 206; refine (pow2_16 _).mono ?_; rintro e w' ⟨rfl, rfl⟩))
  go_wp2_with fail
  refine (tz16 _ (al ht (World.block_lt_of_cell? _ _ ht))).mono ?_;rintro e w' ⟨rfl, rfl⟩;generalize Tryz.zeroCells189 = Z0 at hcon;go_wp2_with fail
  go_loopw [1, 13] (fun u i wr => ∃ (k V J : Nat) (C : Array Value), wr = w.alloc (.cells C 189) ∧ u = .int .u64 (V : Int) ∧ i = .int .i64 ((J : Int) + 1) ∧ Hid (hexIs U k C ∧ V = U / 16 ^ k ∧ J + k = 64) ∧ 49 ≤ J ∧ J ≤ 64 ∧ V ≤ U) (fun u _ _ => (intOf u).toNat)
  case atStart => exact ⟨0, U, 64, Z0, rfl, rfl, rfl, ⟨⟨hcon, fun j h => by omega⟩, by simp, rfl⟩, by omega, by omega, Nat.le_refl _⟩
  case round =>
    obtain ⟨k, V, J, C, rfl, rfl, rfl, hC, hI1, hI2, hV⟩ := hrel;have hJ : J < C.size := by rw [hC.out.1.1]; omega
    have hcell : (w.alloc (.cells C 189)).cell? ⟨w.heap.size, J, none⟩ = some C[J] := by simp [go_sem, hJ]
    have hD : V % 16 < 16 := Nat.mod_lt _ (by decide);have hand : bits .and .u64 (V : Int) 15 = ((V % 16 : Nat) : Int) := and15 V (by omega);have HDG : Hid (hexD (V % 16) = hexD (U / 16 ^ k % 16)) := by show _ = _; rw [hC.out.2.1]
    by_cases hlt : 16 ≤ V
    · have hlt' : (16 : Int) ≤ (V : Int) := by omega
      generalize hDD : V % 16 = D at hD hand HDG;have HP : Hid (U / 16 ^ k = V ∧ V % 16 = D) := ⟨hC.out.2.1.symm, hDD⟩;clear hDD;go_wp2_with fail
      have hk : k ≤ 14 := by
        rcases Nat.lt_or_ge k 15 with h | h
        · omega
        · exfalso
          have h1 : 16 ^ 15 ≤ 16 ^ k := Nat.pow_le_pow_right (by decide) h;have h2 : U / 16 ^ k ≤ U / 16 ^ 15 := Nat.div_le_div_left h1 (by decide);have h3 : U / 16 ^ 15 < 16 := Nat.div_lt_of_lt_mul (by omega);have := HP.out.1;omega
      have hj := hC.out.2.2;refine ⟨⟨k + 1, V / 16, J - 1, _, rfl, by rw [Int.natCast_ediv]; rfl, ?_, ⟨hexIs_step hC.out.1 (by omega) (by rw [dig_eq D hD _, HDG.out]), ?_, by omega⟩, by omega, by omega, by omega⟩, ?_⟩
      · have : (J : Int) = ((J - 1 : Nat) : Int) + 1 := by omega
        rw [← this]
      · rw [← HP.out.1, Nat.div_div_eq_div_mul, Nat.pow_succ]
      · simp [intOf]; omega
    · have hV16 : V < 16 := by omega
      have hmod : V % 16 = V := Nat.mod_eq_of_lt hV16;clear hand hD;have hlt' : ¬ (16 : Int) ≤ (V : Int) := by omega
      rw [hmod] at HDG;clear hmod;have hsl : ∀ (b : Nat) (w : World), (Instr.sliceAt 189 (.pointer (some ⟨b, 0, none⟩)) (some (.int .i64 (J : Int))) none none).run tpg w = .ok (.slice (some ⟨b, J, none⟩) (65 - J) (65 - J)) w := fun b w => slice65 b J w hI2
      have hC2 := hexIs_step (d := (⟨#[48, 49, 50, 51, 52, 53, 54, 55, 56, 57, 97, 98, 99, 100, 101, 102, 103, 104, 105, 106, 107, 108, 109, 110, 111, 112, 113, 114, 115, 116, 117, 118, 119, 120, 121, 122]⟩ : ByteArray)[V]'(by show V < 36; omega)) hC.out.1 hC.out.2.2 (by rw [dig_eq V hV16 _, HDG.out]);have hconv := conv65 w hC2 (show J + (k + 1) = 65 by have := hC.out.2.2; omega)
      have HF : Hid (U < 16 ^ (k + 1) ∧ k < 16) := by
        refine ⟨?_, by have := hC.out.2.2; omega⟩;have h1 := hC.out.2.1;have h2 : U / 16 ^ k < 16 := by omega
        rw [Nat.pow_succ, Nat.mul_comm];exact (Nat.div_lt_iff_lt_mul (Nat.pow_pos (by decide))).1 h2
      clear hC2;go_wp2
      go_ret2
      exact ⟨k, rfl, HF.out.1, HF.out.2, (Below.refl _ _).alloc (Nat.le_refl _) _⟩
theorem fmtUint (U : Nat) (w : World) (hU : U < 18446744073709551616) (ht : w.cell? ⟨7, 15, none⟩ = some (.int .u8 4)) :
    Calls tpg 165 #[.int .u64 U, .int .i64 16] w fun e w' => ∃ k : Nat, e = .returned (.string ⟨(hexLow U (k + 1)).toArray⟩) ∧ U < 16 ^ (k + 1) ∧ k < 16 ∧ Below w.heap.size w w' := by
  go_enter Tryz.func165, Tryz.ntmps165
  go_wp2_with fail
  refine (fmtBits U _ hU ht).mono ?_;rintro e w1 ⟨k, rfl, f1, f2, hb⟩;have HF : Hid (U < 16 ^ (k + 1) ∧ k < 16) := ⟨f1, f2⟩;clear f1 f2;go_wp2
  go_ret
  exact ⟨k, rfl, HF.out.1, HF.out.2, hb⟩
theorem FormatUint (U : Nat) (w : World) (hU : U < 18446744073709551616) (ht : w.cell? ⟨7, 15, none⟩ = some (.int .u8 4)) :
    Calls tpg 131 #[.int .u64 U, .int .i64 16] w fun e w' => ∃ k : Nat, e = .returned (.string ⟨(hexLow U (k + 1)).toArray⟩) ∧ U < 16 ^ (k + 1) ∧ k < 16 ∧ Below w.heap.size w w' := by
  go_enter Tryz.func131, Tryz.ntmps131
  go_wp2_with fail
  refine (fmtUint U _ hU ht).mono ?_;rintro e w1 ⟨k, rfl, f1, f2, hb⟩;have HF : Hid (U < 16 ^ (k + 1) ∧ k < 16) := ⟨f1, f2⟩;clear f1 f2;go_wp2
  go_ret
  exact ⟨k, rfl, HF.out.1, HF.out.2, hb⟩
theorem hexLow_pad (U k : Nat) (h : U < 16 ^ k) : ∀ m, hexLow U (k + m) = List.replicate m 48 ++ hexLow U k
  | 0 => rfl
  | m + 1 => by
    have e : hexLow U (k + (m + 1)) = hexD (U / 16 ^ (k + m) % 16) :: hexLow U (k + m) := rfl;have h2 : U < 16 ^ (k + m) := Nat.lt_of_lt_of_le h (Nat.pow_le_pow_right (by decide) (by omega));rw [e, Nat.div_eq_of_lt h2, hexLow_pad U k h m, List.replicate_succ];rfl
theorem repeat0 : ∀ m, Lib.repeatL [48] m = List.replicate m (48 : UInt8)
  | 0 => rfl
  | m + 1 => by
    show [48] ++ Lib.repeatL [48] m = _;rw [repeat0 m, List.replicate_succ]; rfl
def Tryz.lays105_ren : Go.Shelf.Ren := ⟨fun | 105 => 132 | 212 => 166 | 99 => 62 | 165 => 42 | 166 => 43 | 170 => 167 | 169 => 44 | 263 => 192 | 264 => 193 | 206 => 116 | 240 => 95 | 241 => 96 | 276 => 134 | 277 => 135 | n => n, fun | 9 => 9 | 3 => 3 | 4 => 4 | 20 => 20 | 0 => 0 | 46 => 157 | 109 => 158 | 5 => 5 | 72 => 75 | 76 => 78 | 51 => 180 | 146 => 181 | 53 => 113 | 148 => 183 | 70 => 72 | 37 => 73 | 75 => 77 | 127 => 110 | 164 => 140 | 80 => 80 | n => n, fun | n => n⟩
theorem Tryz.lays105 : Go.Proofs.Lays.n105 tpg Tryz.lays105_ren := {
  mixed := by kernel_rfl
  f99 := Tryz.func62.trans (congrArg some (by kernel_rfl))
  f105 := Tryz.func132.trans (congrArg some (by kernel_rfl))
  f165 := Tryz.func42.trans (congrArg some (by kernel_rfl))
  f166 := Tryz.func43.trans (congrArg some (by kernel_rfl))
  f169 := Tryz.func44.trans (congrArg some (by kernel_rfl))
  f170 := Tryz.func167.trans (congrArg some (by kernel_rfl))
  f206 := Tryz.func116.trans (congrArg some (by kernel_rfl))
  f212 := Tryz.func166.trans (congrArg some (by kernel_rfl))
  f240 := Tryz.func95.trans (congrArg some (by kernel_rfl))
  f241 := Tryz.func96.trans (congrArg some (by kernel_rfl))
  f263 := Tryz.func192.trans (congrArg some (by kernel_rfl))
  f264 := Tryz.func193.trans (congrArg some (by kernel_rfl))
  f276 := Tryz.func134.trans (congrArg some (by kernel_rfl))
  f277 := Tryz.func135.trans (congrArg some (by kernel_rfl))
  t0 := Tryz.underlying0
  a0 := Tryz.isAgg0
  z0 := Tryz.sizeOf0
  v0 := Tryz.zeroValue0
  t3 := Tryz.underlying3
  a3 := Tryz.isAgg3
  z3 := Tryz.sizeOf3
  v3 := Tryz.zeroValue3
  t4 := Tryz.underlying4
  a4 := Tryz.isAgg4
  z4 := Tryz.sizeOf4
  v4 := Tryz.zeroValue4
  t5 := Tryz.underlying5
  a5 := Tryz.isAgg5
  z5 := Tryz.sizeOf5
  v5 := Tryz.zeroValue5
  t9 := Tryz.underlying9
  a9 := Tryz.isAgg9
  z9 := Tryz.sizeOf9
  v9 := Tryz.zeroValue9
  t20 := Tryz.underlying20
  a20 := Tryz.isAgg20
  z20 := Tryz.sizeOf20
  v20 := Tryz.zeroValue20
  t37 := Tryz.underlying73
  a37 := Tryz.isAgg73
  z37 := Tryz.sizeOf73
  v37 := Tryz.zeroValue73
  t46 := Tryz.underlying157
  a46 := Tryz.isAgg157
  z46 := Tryz.sizeOf157
  v46 := Tryz.zeroValue157
  t51 := Tryz.underlying180
  a51 := Tryz.isAgg180
  z51 := Tryz.sizeOf180
  v51 := Tryz.zeroValue180
  t53 := Tryz.underlying113
  a53 := Tryz.isAgg113
  z53 := Tryz.sizeOf113
  v53 := Tryz.zeroValue113
  t70 := Tryz.underlying72
  a70 := Tryz.isAgg72
  z70 := Tryz.sizeOf72
  v70 := Tryz.zeroValue72
  t72 := Tryz.underlying75
  a72 := Tryz.isAgg75
  z72 := Tryz.sizeOf75
  v72 := Tryz.zeroValue75
  t75 := Tryz.underlying77
  a75 := Tryz.isAgg77
  z75 := Tryz.sizeOf77
  v75 := Tryz.zeroValue77
  t76 := Tryz.underlying78
  a76 := Tryz.isAgg78
  z76 := Tryz.sizeOf78
  v76 := Tryz.zeroValue78
  t109 := Tryz.underlying158
  a109 := Tryz.isAgg158
  z109 := Tryz.sizeOf158
  v109 := Tryz.zeroValue158
  t127 := Tryz.underlying110
  a127 := Tryz.isAgg110
  z127 := Tryz.sizeOf110
  v127 := Tryz.zeroValue110
  t146 := Tryz.underlying181
  a146 := Tryz.isAgg181
  z146 := Tryz.sizeOf181
  v146 := Tryz.zeroValue181
  t148 := Tryz.underlying183
  a148 := Tryz.isAgg183
  z148 := Tryz.sizeOf183
  v148 := Tryz.zeroValue183
  t164 := Tryz.underlying140
  a164 := Tryz.isAgg140
  z164 := Tryz.sizeOf140
  v164 := Tryz.zeroValue140 }
theorem Tryz.Builder_Extra_105 : Builder.Extra tpg Tryz.lays105_ren := {
  sizeBuilder := by kernel_rfl
  liesBuilder := by kernel_rfl
  t5 := Tryz.underlying5
  a5 := Tryz.isAgg5
  z5 := Tryz.sizeOf5
  v5 := Tryz.zeroValue5
  infoByte := by kernel_rfl
  cellsByte := by kernel_rfl
  sizeByte := by kernel_rfl
  neB5 := by decide }
theorem Tryz.strings_Repeat (s : ByteArray) (c : Nat) (w : World) (hc : c ≤ 9223372036854775807) (hlen : s.size * c ≤ 140737488355328) :
    Calls tpg 132 #[.string s, .int .i64 c] w fun e w' => e = .returned (.string ⟨(Lib.repeatL s.data.toList c).toArray⟩) ∧ Below w.heap.size w w' := Any.strings_Repeat Tryz.lays105 Tryz.Builder_Extra_105 s c w hc hlen
def txtF (U : Nat) : ByteArray := ⟨(48 :: 102 :: hexLow U 16).toArray⟩
theorem Text_float (n : Int) (w : World) (h1 : -9223372036854775808 ≤ n) (h2 : n ≤ 9223372036854775807) (hi : isNum 3 n = true) (ht : w.cell? ⟨7, 15, none⟩ = some (.int .u8 4)) :
    Calls tpg 86 #[AV 3 n] w fun e w' => e = .returned (.string (txtF (B n))) ∧ Below w.heap.size w w' := by
  have hu : IntKind.u64.wrap n = ((B n : Nat) : Int) := by rw [B_eq, IntKind.wrap_u64]
  have hU := B_lt n;go_enter Tryz.func86, Tryz.ntmps86
  go_wp2_with fail
  refine (Is_any _ _ _ h1 h2).mono ?_;rintro e w1 ⟨rfl, hb⟩;have c0 := cell_later hb (show (w.alloc (.cells #[.int .i64 3, .int .i64 n] 23)).cell? ⟨w.heap.size, 0, none⟩ = some (.int .i64 3) by simp [go_sem]);have c1 := cell_later hb (show (w.alloc (.cells #[.int .i64 3, .int .i64 n] 23)).cell? ⟨w.heap.size, 1, none⟩ = some (.int .i64 n) by simp [go_sem]);have t1 := cell_later hb (al ht (World.block_lt_of_cell? _ _ ht));have HB : Hid (Below w.heap.size w w1) := end1 hb;clear hb;go_wp2_with fail
  refine (FormatUint (B n) _ hU t1).mono ?_;rintro e w2 ⟨k, rfl, f1, f2, hb2⟩;have HB := chainB HB hb2;have HF : Hid (B n < 16 ^ (k + 1) ∧ k < 16) := ⟨f1, f2⟩;have hsz : (⟨(hexLow (B n) (k + 1)).toArray⟩ : ByteArray).size = k + 1 := by rw [Lib.size_eq]; simp [hexLow_length]
  have hk : (k : Int) < 16 := by omega
  clear f1 hb2;go_wp2_with fail
  rw [show (16 - ((k : Int) + 1)) = ((15 - k : Nat) : Int) from by omega];refine (Tryz.strings_Repeat ⟨#[48]⟩ (15 - k) _ (by omega) (by show 1 * (15 - k) ≤ _; omega)).mono ?_;rintro e w3 ⟨rfl, hb3⟩;have HB := chainB HB hb3
  have HT : Hid (⟨#[48, 102]⟩ ++ ⟨(Lib.repeatL [48] (15 - k)).toArray⟩ ++ ⟨(hexLow (B n) (k + 1)).toArray⟩ = txtF (B n)) := by
    show _ = _;apply Go.WideShapes.bytes_inj
    rw [ByteArray.data_append, ByteArray.data_append];have := hexLow_pad (B n) (k + 1) HF.out.1 (15 - k);rw [show k + 1 + (15 - k) = 16 from by have := HF.out.2; omega] at this;simp [txtF, this, repeat0]
  have hR : (⟨(Lib.repeatL [48] (15 - k)).toArray⟩ : ByteArray).size = 15 - k := by rw [Lib.size_eq]; simp [repeat0]
  have hS : ((⟨#[48, 102]⟩ : ByteArray) ++ ⟨(Lib.repeatL [48] (15 - k)).toArray⟩).size = 17 - k := by rw [ByteArray.size_append, hR]; show 2 + (15 - k) = _; omega
  clear hb3;go_wp2
  go_ret
  exact ⟨by rw [← HT.out]; rfl, HB.out⟩
theorem dgt (d : Nat) (h : d < 10) : (UInt8.ofNat (48 + d)).toNat = 48 + d := by
  rw [UInt8.toNat_ofNat']; omega
theorem pU_append (M : Nat) : ∀ (l : List UInt8) (acc a : Nat) (r : List UInt8), Lib.parseUintM M acc l = .ok a → Lib.parseUintM M acc (l ++ r) = Lib.parseUintM M a r
  | [], acc, a, r, h => by simp only [Lib.parseUintM, Lib.NumEnd.ok.injEq] at h; rw [h]; rfl
  | c :: l, acc, a, r, h => by
    rw [List.cons_append];unfold Lib.parseUintM at h
    conv => lhs; unfold Lib.parseUintM
    split at h
    · rename_i h1;rw [if_pos h1];split at h
      · cases h
      · rename_i h2;rw [if_neg h2];split at h
        · cases h
        · rename_i h3;rw [if_neg h3];exact pU_append M l _ a r h
    · cases h
theorem pU_dec (u : Nat) (h : u < 18446744073709551616) : Lib.parseUintM 18446744073709551615 0 (Lib.decDigits u) = .ok u := by
  induction u using Nat.strongRecOn with
  | _ u ih =>
    by_cases h10 : u < 10
    · rw [Lib.decDigits, dif_pos h10];unfold Lib.parseUintM;rw [dgt u h10, if_pos (by omega), if_neg (by omega), if_neg (by omega)];show Lib.NumEnd.ok _ = _
      congr 1; omega
    · rw [Lib.decDigits, dif_neg h10, pU_append _ _ _ (u / 10) _ (ih (u / 10) (by omega) (by omega))];unfold Lib.parseUintM;rw [dgt (u % 10) (by omega), if_pos (by omega), if_neg (by omega), if_neg (by omega)];show Lib.NumEnd.ok _ = _
      congr 1; omega
theorem dec_mem (u : Nat) : ∀ c ∈ Lib.decDigits u, 48 ≤ c.toNat ∧ c.toNat ≤ 57 := by
  induction u using Nat.strongRecOn with
  | _ u ih =>
    intro c hc;by_cases h10 : u < 10
    · rw [Lib.decDigits, dif_pos h10, List.mem_singleton] at hc;rw [hc, dgt u h10]; omega
    · rw [Lib.decDigits, dif_neg h10, List.mem_append, List.mem_singleton] at hc;rcases hc with hc | hc
      · exact ih (u / 10) (by omega) c hc
      · rw [hc, dgt (u % 10) (by omega)]; omega
theorem dec_ne (u : Nat) : Lib.decDigits u ≠ [] := by
  rw [Lib.decDigits]; split <;> simp
theorem pI_itoa (n : Int) (h1 : -9223372036854775808 ≤ n) (h2 : n ≤ 9223372036854775807) : Lib.parseIntB 64 (Lib.itoa n) = .ok n := by
  have hU : ∀ u : Nat, u < 18446744073709551616 → Lib.parseUintB 64 (Lib.decDigits u) = .ok u := fun u hu => by
    unfold Lib.parseUintB;rw [if_neg (dec_ne u)];exact pU_dec u hu
  unfold Lib.itoa;by_cases hn : n < 0
  · rw [if_pos hn];unfold Lib.parseIntB;have e45 : (45 : UInt8).toNat = 45 := rfl;simp only [e45, or_true, if_true, hU n.natAbs (by omega), not_true, false_and, if_false, true_and];rw [if_neg (by omega)]
    congr 1; omega
  · rw [if_neg hn];have hm := dec_mem n.toNat;have hu := hU n.toNat (by omega);cases hl : Lib.decDigits n.toNat with
    | nil => exact absurd hl (dec_ne _)
    | cons c r =>
      rw [hl] at hu hm;have hc := hm c (List.mem_cons_self ..);have c1 : ¬ c.toNat = 43 := by omega
      have c2 : ¬ c.toNat = 45 := by omega
      unfold Lib.parseIntB;simp only [c1, c2, or_self, if_false, hu, not_false_eq_true, true_and, false_and];rw [if_neg (by omega)]
      congr 1; omega
def txtI (n : Int) : ByteArray := ⟨(Lib.itoa n).toArray⟩
theorem txtI_list (n : Int) : (txtI n).data.toList = Lib.itoa n := by simp [txtI]
theorem txtI_unsg (n : Int) : unsg (txtI n) = ⟨(Lib.decDigits n.natAbs).toArray⟩ := by
  unfold unsg;rw [txtI_list];unfold Lib.itoa Lib.trimPrefix Lib.hasPrefix;by_cases hn : n < 0
  · rw [if_pos hn];rfl
  · rw [if_neg hn];have e : n.toNat = n.natAbs := by omega
    rw [e];have hm := dec_mem n.natAbs;cases hl : Lib.decDigits n.natAbs with
    | nil => exact absurd hl (dec_ne _)
    | cons c r =>
      rw [hl] at hm;have hc := hm c (List.mem_cons_self ..)
      have hne : ((45 : UInt8) == c) = false := by
        rw [beq_eq_false_iff_ne]; intro h; rw [← h] at hc; exact absurd hc.1 (by decide)
      have : dash.data.toList.isPrefixOf (c :: r) = false := by
        show ((45 : UInt8) == c && _) = false;rw [hne]; rfl
      rw [this]; rfl
theorem digs_cut (u : Nat) : cutA ⟨(Lib.decDigits u).toArray⟩ 46 = ⟨(Lib.decDigits u).toArray⟩ ∧ cutB ⟨(Lib.decDigits u).toArray⟩ 46 = false := by
  have h : Lib.indexByte ((⟨(Lib.decDigits u).toArray⟩ : ByteArray).data.toList) 46 = -1 := by
    refine ixB_none _ _ fun x hx => ?_
    have hx' : x ∈ Lib.decDigits u := by simpa using hx
    intro he;have := dec_mem u x hx';rw [he] at this;exact absurd this.1 (by decide)
  unfold cutA cutB;rw [h];exact ⟨rfl, rfl⟩
theorem digs_all (u : Nat) : allB ⟨(Lib.decDigits u).toArray⟩ dec = true := by
  unfold allB;rw [Bool.and_eq_true, List.all_eq_true]
  constructor
  · intro c hc;have := dec_mem u c (by simpa using hc);rw [inD, decide_eq_true this.1, decide_eq_true this.2]; rfl
  · have := dec_ne u;cases hl : Lib.decDigits u with
    | nil => exact absurd hl this
    | cons a l => rfl
theorem txtI_pnt (n : Int) : pnt (txtI n) = false := by unfold pnt; rw [txtI_unsg]; exact (digs_cut _).2
theorem txtI_bad (n : Int) : bad (txtI n) = false := by
  unfold bad;rw [txtI_pnt];unfold ahd;rw [txtI_unsg, (digs_cut _).1, digs_all]; rfl
theorem txtI_pre (n : Int) : Lib.hasPrefix (txtI n).data.toList zf.data.toList = false := by
  rw [txtI_list];cases h : Lib.hasPrefix (Lib.itoa n) zf.data.toList with
  | false => rfl
  | true =>
    exfalso
    unfold Lib.hasPrefix at h;have hp := (List.isPrefixOf_iff_prefix.1 h).subset;have h102 : (102 : UInt8) ∈ Lib.itoa n := hp (by decide);unfold Lib.itoa at h102;split at h102
    · rw [List.mem_cons] at h102;rcases h102 with h | h
      · exact absurd h (by decide)
      · exact absurd (dec_mem _ _ h).2 (by decide)
    · exact absurd (dec_mem _ _ h102).2 (by decide)
theorem txtI_size (n : Int) (h1 : -9223372036854775808 ≤ n) (h2 : n ≤ 9223372036854775807) : (txtI n).size ≤ 21 := by
  rw [Lib.size_eq, txtI_list];unfold Lib.itoa;split
  · rw [List.length_cons, Lib.decDigits_length];have := Lib.nDigits_le20 n.natAbs (by omega); omega
  · rw [Lib.decDigits_length];have := Lib.nDigits_le20 n.toNat (by omega); omega
theorem hexD_lot : ∀ d, d < 16 → hx (hexD d).toNat = d ∧ isHex (hexD d) = true := by decide +kernel
theorem hexF_low (U : Nat) : ∀ (k acc : Nat), (hexLow U k).foldl (fun n c => n * 16 + hx c.toNat) acc = acc * 16 ^ k + U % 16 ^ k
  | 0, acc => by simp [hexLow, Nat.mod_one]
  | k + 1, acc => by
    have hd := (hexD_lot (U / 16 ^ k % 16) (Nat.mod_lt _ (by decide))).1;show (hexLow U k).foldl _ (acc * 16 + hx (hexD (U / 16 ^ k % 16)).toNat) = _;rw [hexF_low U k, hd, Nat.mod_pow_succ, Nat.pow_succ, Nat.add_mul, Nat.mul_assoc acc 16, Nat.mul_comm 16 (16 ^ k), Nat.mul_comm (U / 16 ^ k % 16)];omega
theorem hexV_low (U : Nat) (h : U < 18446744073709551616) : hexV (hexLow U 16) = U := by
  unfold hexV;rw [hexF_low, Nat.mod_eq_of_lt (by simpa using h)];simp
theorem hexLow_hex (U : Nat) : ∀ k, ∀ c ∈ hexLow U k, isHex c = true
  | 0, c, h => by simp [hexLow] at h
  | k + 1, c, h => by
    have h' : c ∈ hexD (U / 16 ^ k % 16) :: hexLow U k := h;rw [List.mem_cons] at h';rcases h' with h' | h'
    · rw [h']; exact (hexD_lot _ (Nat.mod_lt _ (by decide))).2
    · exact hexLow_hex U k c h'
theorem allB_of_hex (s : ByteArray) (h0 : 0 < s.size) (h : ∀ c ∈ s.data.toList, isHex c = true) : allB s hexd = true := by
  unfold allB;rw [Bool.and_eq_true, List.all_eq_true];refine ⟨fun c hc => by rw [inB_hex]; exact h c hc, ?_⟩;rw [Lib.size_eq] at h0;cases hl : s.data.toList with
  | nil => rw [hl] at h0; simp at h0
  | cons a l => rfl
theorem txtF_pre (U : Nat) : Lib.hasPrefix (txtF U).data.toList zf.data.toList = true := by
  unfold txtF; rfl
theorem txtF_off (U : Nat) : offm (txtF U) = ⟨(hexLow U 16).toArray⟩ := by
  unfold offm Lib.trimPrefix;rw [txtF_pre];rfl
theorem txtF_size (U : Nat) : (txtF U).size = 18 := by
  rw [Lib.size_eq]; unfold txtF; simp [hexLow_length]
theorem txtF_bits (n : Int) (h1 : -9223372036854775808 ≤ n) (h2 : n ≤ 9223372036854775807) (hi : isNum 3 n = true) : bitsT (offm (txtF (B n))) = .tuple #[AV 3 n, .int .i64 0] := by
  have hV : hexV (hexLow (B n) 16) = B n := hexV_low _ (B_lt n);have hb := bi_B h1 h2;unfold bi at hb;have hL : (⟨(hexLow (B n) 16).toArray⟩ : ByteArray).data.toList = hexLow (B n) 16 := by simp
  have hz : (⟨(hexLow (B n) 16).toArray⟩ : ByteArray).size = 16 := by rw [Lib.size_eq, hL, hexLow_length]
  rw [txtF_off];unfold bitsT;rw [hL, hV, hb, if_pos ⟨hz, allB_of_hex _ (by omega) (by rw [hL]; exact hexLow_hex _ _), hi⟩]
end Go.Proofs.YtmoiikpjegbokaaGreatDoor
