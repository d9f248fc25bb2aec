/- The document's texts of numbers. -/
import Derived.Test.YtdpdpgnpkmfooaaGreatDoorD3
import Derived.Test.YtdpdpgnpkmfooaaGreatDoorA1
namespace Go.Proofs.YtdpdpgnpkmfooaaGreatDoor
open Go.RowKit

/-- The digits of a number, none for 0. -/
def dd (V : Nat) : List UInt8 := if V = 0 then [] else Lib.decDigits V
theorem dec_dd (U : Nat) : Lib.decDigits U = dd (U / 10) ++ [UInt8.ofNat (48 + U % 10)] := by
  unfold dd
  by_cases h : U < 10
  · rw [Lib.decDigits, dif_pos h, if_pos (by omega), Nat.mod_eq_of_lt h]; rfl
  · rw [Lib.decDigits, dif_neg h, if_neg (by omega)]
theorem dd_step (V : Nat) (h : 0 < V) : dd V = dd (V / 10) ++ [UInt8.ofNat (48 + V % 10)] := by
  rw [← dec_dd]; unfold dd; rw [if_neg (by omega)]
theorem dec_len (U : Nat) (h : U < 18446744073709551616) : (Lib.decDigits U).length ≤ 20 := by
  rw [Lib.decDigits_length]; exact Lib.nDigits_le20 U h
theorem hexS : ∀ d, d < 16 → hexd.extract d (d + 1) = ⟨#[hexD d]⟩ := by decide +kernel
theorem digS : ∀ d, d < 10 → dec.extract d (d + 1) = ⟨#[UInt8.ofNat (48 + d)]⟩ := by decide +kernel

set_option maxHeartbeats 2000000 in
theorem RDigits_any (U : Nat) (w : World) (hU : U < 18446744073709551616) :
    Calls Tryz.prog 66 #[.int .u64 U] w fun e w' => e = .returned (.string ⟨(Lib.decDigits U).toArray⟩) ∧ Below w.heap.size w w' := by
  go_enter Tryz.func66, Tryz.ntmps66
  go_wp2
  go_loop [0, 3] (fun n s => ∃ (V : Nat) (S : ByteArray), n = .int .u64 V ∧ s = .string S ∧ V < 18446744073709551616 ∧ S.size ≤ 20 ∧ Hid (Lib.decDigits U = dd V ++ S.data.toList)) (fun n _ => (intOf n).toNat)
  case atStart =>
    refine ⟨U / 10, _, by go_num, rfl, by omega, ?_, ?_⟩
    · rw [show (⟨#[48, 49, 50, 51, 52, 53, 54, 55, 56, 57]⟩ : ByteArray) = dec from rfl, digS _ (Nat.mod_lt _ (by decide))]
      show 1 ≤ 20; omega
    · show Lib.decDigits U = _
      rw [show (⟨#[48, 49, 50, 51, 52, 53, 54, 55, 56, 57]⟩ : ByteArray) = dec from rfl, digS _ (Nat.mod_lt _ (by decide)), dec_dd U]
  case round =>
    obtain ⟨V, S, rfl, rfl, hV, hS, hh⟩ := hrel
    by_cases h0 : 0 < V
    · have h0' : (0 : Int) < (V : Int) := by omega
      have HE : Hid ((⟨#[48, 49, 50, 51, 52, 53, 54, 55, 56, 57]⟩ : ByteArray).extract (V % 10) (V % 10 + 1) = ⟨#[UInt8.ofNat (48 + V % 10)]⟩) := digS _ (Nat.mod_lt _ (by decide))
      have HN : Hid (Lib.decDigits U = dd (V / 10) ++ ([UInt8.ofNat (48 + V % 10)] ++ S.data.toList)) := by
        show _ = _; rw [hh.out, dd_step V h0, List.append_assoc]
      have HL : Hid ((Lib.decDigits U).length ≤ 20) := dec_len U hU
      clear h0
      go_wp2
      go_round
      case rel =>
        refine ⟨V / 10, _, by go_num, rfl, by omega, ?_, ?_⟩
        · have h1 := HL.out
          rw [HN.out] at h1
          rw [HE.out, ByteArray.size_append, Lib.size_eq, Lib.size_eq S]
          simp only [List.length_append] at h1
          show 1 + _ ≤ 20
          simp only [List.length_cons, List.length_nil] at h1
          omega
        · show Lib.decDigits U = _
          rw [HE.out, ByteArray.data_append, Array.toList_append, HN.out]
      case measure => simp [intOf]; omega
    · have h0' : ¬ (0 : Int) < (V : Int) := by omega
      have HN : Hid (Lib.decDigits U = S.data.toList) := by
        show _ = _; rw [hh.out, show V = 0 from by omega]; rfl
      clear h0 hh
      go_wp2
      go_ret
      exact ⟨by rw [HN.out]; rfl, Below.refl _ _⟩

set_option maxHeartbeats 2000000 in
theorem RText_none (t n : Int) (w : World) (hi : isNum t n = false) :
    Calls Tryz.prog 37 #[AV t n] w fun e w' => e = .returned (.string ⟨#[]⟩) ∧ Below w.heap.size w w' := by
  go_enter Tryz.func37, Tryz.ntmps37
  go_wp2_with fail
  refine (RIs_any _ _ _).mono ?_
  rintro e w1 ⟨rfl, hb⟩
  have HB : Hid (Below w.heap.size w w1) := end1 hb
  clear hb
  go_wp2
  go_ret
  exact ⟨rfl, HB.out⟩

set_option maxHeartbeats 2000000 in
theorem RText_int (n : Int) (w : World) (h1 : -9223372036854775808 ≤ n) (h2 : n ≤ 9223372036854775807) :
    Calls Tryz.prog 37 #[AV 2 n] w fun e w' => e = .returned (.string ⟨(Lib.itoa n).toArray⟩) ∧ Below w.heap.size w w' := by
  have hi : isNum 2 n = true := by simp [isNum]
  by_cases hn : n < 0
  · have DG : Hid (∀ w, Calls Tryz.prog 66 #[.int .u64 (-(n + 1) + 1)] w fun e w' => e = .returned (.string ⟨(Lib.decDigits n.natAbs).toArray⟩) ∧ Below w.heap.size w w') := fun w => by
      have h := RDigits_any n.natAbs w (by omega)
      rw [show (n.natAbs : Int) = -(n + 1) + 1 from by omega] at h
      exact h
    have HI : Hid ((⟨#[45]⟩ : ByteArray) ++ ⟨(Lib.decDigits n.natAbs).toArray⟩ = ⟨(Lib.itoa n).toArray⟩) := by
      show _ = _
      apply Go.WideShapes.bytes_inj
      rw [ByteArray.data_append]
      unfold Lib.itoa
      rw [if_pos hn]
      simp
    have hsz : (⟨(Lib.decDigits n.natAbs).toArray⟩ : ByteArray).size ≤ 20 := by
      rw [Lib.size_eq]; simpa using dec_len n.natAbs (by omega)
    generalize (⟨(Lib.decDigits n.natAbs).toArray⟩ : ByteArray) = D at DG HI hsz
    go_enter Tryz.func37, Tryz.ntmps37
    go_wp2_with fail
    refine (RIs_any _ _ _).mono ?_
    rintro e w1 ⟨rfl, hb⟩
    have c0 := cell_later hb (new0 w (.int .i64 2) (.int .i64 n))
    have c1 := cell_later hb (new1 w (.int .i64 2) (.int .i64 n))
    have HB : Hid (Below w.heap.size w w1) := end1 hb
    clear hb
    go_wp2_with fail
    refine (DG.out _).mono ?_
    rintro e w2 ⟨rfl, hb2⟩
    have HB := chainB HB hb2
    clear hb2
    go_wp2
    go_ret
    exact ⟨by rw [← HI.out]; rfl, HB.out⟩
  · have DG : Hid (∀ w, Calls Tryz.prog 66 #[.int .u64 n] w fun e w' => e = .returned (.string ⟨(Lib.itoa n).toArray⟩) ∧ Below w.heap.size w w') := fun w => by
      have h := RDigits_any n.toNat w (by omega)
      rw [show (n.toNat : Int) = n from by omega] at h
      unfold Lib.itoa
      rw [if_neg hn]
      exact h
    go_enter Tryz.func37, Tryz.ntmps37
    go_wp2_with fail
    refine (RIs_any _ _ _).mono ?_
    rintro e w1 ⟨rfl, hb⟩
    have c0 := cell_later hb (new0 w (.int .i64 2) (.int .i64 n))
    have c1 := cell_later hb (new1 w (.int .i64 2) (.int .i64 n))
    have HB : Hid (Below w.heap.size w w1) := end1 hb
    clear hb
    go_wp2_with fail
    refine (DG.out _).mono ?_
    rintro e w2 ⟨rfl, hb2⟩
    have HB := chainB HB hb2
    clear hb2
    go_wp2
    go_ret
    exact ⟨rfl, HB.out⟩

set_option maxHeartbeats 2000000 in
theorem RText_float (n : Int) (w : World) (hi : isNum 3 n = true) :
    Calls Tryz.prog 37 #[AV 3 n] w fun e w' => e = .returned (.string (txtF (B n))) ∧ Below w.heap.size w w' := by
  have hu : IntKind.u64.wrap n = ((B n : Nat) : Int) := by rw [B_eq, IntKind.wrap_u64]
  have hU := B_lt n
  obtain ⟨U, hUe⟩ : ∃ U, U = B n := ⟨_, rfl⟩
  rw [← hUe] at hu hU ⊢
  clear hUe
  go_enter Tryz.func37, Tryz.ntmps37
  go_wp2_with fail
  refine (RIs_any _ _ _).mono ?_
  rintro e w1 ⟨rfl, hb⟩
  have c0 := cell_later hb (new0 w (.int .i64 3) (.int .i64 n))
  have c1 := cell_later hb (new1 w (.int .i64 3) (.int .i64 n))
  have HB : Hid (Below w.heap.size w w1) := end1 hb
  clear hb
  go_wp2
  go_loop [3, 4, 5] (fun s n i => ∃ (k V : Nat) (S : ByteArray), k ≤ 16 ∧ s = .string S ∧ n = .int .u64 V ∧ i = .int .i64 k ∧ V < 18446744073709551616 ∧ S.size = k ∧ Hid (V = U / 16 ^ k ∧ S.data.toList = hexLow U k)) (fun _ _ i => 16 - (intOf i).toNat)
  case atStart => exact ⟨0, U, ⟨#[]⟩, by omega, rfl, rfl, rfl, hU, rfl, by simp, rfl⟩
  case round =>
    obtain ⟨k, V, S, hk, rfl, rfl, rfl, hV, hS, hh⟩ := hrel
    by_cases h0 : k < 16
    · have HE : Hid ((⟨#[48, 49, 50, 51, 52, 53, 54, 55, 56, 57, 97, 98, 99, 100, 101, 102]⟩ : ByteArray).extract (V % 16) (V % 16 + 1) = ⟨#[hexD (V % 16)]⟩) := hexS _ (Nat.mod_lt _ (by decide))
      go_wp2
      go_round
      case rel =>
        refine ⟨k + 1, V / 16, _, by omega, rfl, by go_num, by go_num, by omega, ?_, ?_, ?_⟩
        · rw [HE.out, ByteArray.size_append, hS]; show 1 + k = _; omega
        · rw [hh.out.1, Nat.div_div_eq_div_mul, Nat.pow_succ]
        · rw [HE.out, ByteArray.data_append, Array.toList_append, hh.out.2, hh.out.1]; rfl
      case measure => simp [intOf]; omega
    · have he : k = 16 := by omega
      subst he
      have HT : Hid ((⟨#[48, 102]⟩ : ByteArray) ++ S = txtF U) := by
        show _ = _
        apply Go.WideShapes.bytes_inj
        rw [ByteArray.data_append]
        simp [txtF, hh.out.2]
      clear hh
      go_wp2
      go_ret
      exact ⟨by rw [← HT.out]; rfl, HB.out⟩
end Go.Proofs.YtdpdpgnpkmfooaaGreatDoor
