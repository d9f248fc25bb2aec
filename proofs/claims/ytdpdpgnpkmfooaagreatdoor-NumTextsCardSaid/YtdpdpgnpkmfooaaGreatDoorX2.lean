/- Texts with a point, and ints, read. -/
import Derived.Test.YtdpdpgnpkmfooaaGreatDoorW11
import Derived.Test.YtdpdpgnpkmfooaaGreatDoorX1
namespace Go.Proofs.YtdpdpgnpkmfooaaGreatDoor
open Go.RowKit

set_option maxHeartbeats 1000000 in
theorem Cut_any (s : ByteArray) (c : UInt8) (w : World) (hs : s.size ≤ maxLen) :
    Calls Tryz.prog 55 #[.string s, .string ⟨#[c]⟩] w fun e w' => e = .returned (.tuple #[.string (cutA s c), .string (cutZ s c), .bool (cutB s c)]) ∧ Below w.heap.size w w' := by
  go_enter Tryz.func55, Tryz.ntmps55
  go_wp2_with fail
  refine (cutS_any _ _ _ hs).mono ?_
  rintro e w1 ⟨rfl, hb⟩
  go_wp2
  go_ret3
  exact ⟨rfl, hb⟩

/-- The words of the powers of ten. -/
def pw (k : Nat) : Nat := Fm.ofInt ((10 ^ k : Nat) : Int)

theorem pw_step : ∀ k : Nat, k < 15 → Ieee.double.mul (pw k) 4621819117588971520 = some (pw (k + 1)) := by decide +kernel
theorem pw_zero : pw 0 = 4607182418800017408 := by decide +kernel

set_option maxHeartbeats 1000000 in
theorem readPointed_range (a b : ByteArray) (w : World) (ha : a.size ≤ 140737488351232) (hb : b.size ≤ 140737488351232) (hl : 15 < a.size + b.size) :
    Calls Tryz.prog 58 #[.string a, .string b] w fun e w' => e = .returned (.tuple #[AV 0 0, .int .i64 7]) ∧ Below w.heap.size w w' := by
  have hl' : (15 : Int) < (a.size : Int) + (b.size : Int) := by omega
  go_enter Tryz.func58, Tryz.ntmps58
  go_wp2
  refine bodyPost_ret (v := .tuple #[AV 0 0, .int .i64 7]) (by simp [results, Tryz.results58, go_sem]) rfl ⟨rfl, ?_⟩
  exact (Below.refl _ _).alloc (Nat.le_refl _) _

theorem ParseInt_ok (s : ByteArray) (v : Int) (w : World) (hs : s.size ≤ 140737488355328) (hp : Lib.parseIntB 64 s.data.toList = .ok v) :
    Calls Tryz.prog 85 #[.string s, .int .i64 10, .int .i64 64] w fun e w' => e = .returned (.tuple #[.int .i64 v, .nilIface]) ∧ Below w.heap.size w w' := by
  refine (Tryz.strconv_ParseInt_10_at64_ok s (by omega) v hp w).mono ?_
  rintro e w' ⟨rfl, h | ⟨t, h⟩⟩
  · exact ⟨rfl, by rw [h]; exact Below.refl _ _⟩
  · exact ⟨rfl, by rw [h]; exact Lib.bytesWorld_below _ _ _⟩

set_option maxHeartbeats 1000000 in
theorem readPointed_ok (a b : ByteArray) (v : Int) (w : World) (hl : a.size + b.size ≤ 15) (hp : Lib.parseIntB 64 (a ++ b).data.toList = .ok v) :
    Calls Tryz.prog 58 #[.string a, .string b] w fun e w' => e = .returned (.tuple #[AV 3 (fltO (floatBits .quo .f64 (Fm.ofInt v) (pw b.size))), .int .i64 0]) ∧ Below w.heap.size w w' := by
  have hl' : ¬ (15 : Int) < (a.size : Int) + (b.size : Int) := by omega
  have hz : (a ++ b).size ≤ 140737488355328 := by rw [ByteArray.size_append]; omega
  have HP : Hid (Lib.parseIntB 64 (a ++ b).data.toList = .ok v) := hp
  clear hp
  go_enter Tryz.func58, Tryz.ntmps58
  go_wp2_with fail
  refine (ParseInt_ok _ v _ hz HP.out).mono ?_
  rintro e w1 ⟨rfl, hb1⟩
  have k5 := cell_later hb1 (show (w.alloc (.cells #[.int .i64 0, .int .i64 0] 23)).cell? ⟨w.heap.size, 0, none⟩ = some (.int .i64 0) by simp [go_sem])
  have k6 := cell_later hb1 (show (w.alloc (.cells #[.int .i64 0, .int .i64 0] 23)).cell? ⟨w.heap.size, 1, none⟩ = some (.int .i64 0) by simp [go_sem])
  have z1 : w.heap.size < w1.heap.size := size1 hb1
  have l5 := fro_later hb1 (show (w.alloc (.cells #[.int .i64 0, .int .i64 0] 23)).frozen? ⟨w.heap.size, 0, none⟩ = false by simp [go_sem]) (by simp)
  have l6 := fro_later hb1 (show (w.alloc (.cells #[.int .i64 0, .int .i64 0] 23)).frozen? ⟨w.heap.size, 1, none⟩ = false by simp [go_sem]) (by simp)
  have HB : Hid (Below w.heap.size w w1) := end1 hb1
  clear hb1
  go_wp2_with fail
  go_loop [8, 25] (fun p i => ∃ k : Nat, k ≤ b.size ∧ i = .int .i64 k ∧ p = .float .f64 (pw k)) (fun _ i => b.size - (intOf i).toNat)
  case atStart => exact ⟨0, Nat.zero_le _, rfl, by rw [pw_zero]⟩
  case round =>
    obtain ⟨k, hk, rfl, rfl⟩ := hrel
    by_cases hlt : k < b.size
    · have hm : ∀ w, (binOp .mul 24 (.float .f64 (pw k)) (.float .f64 4621819117588971520)).run Tryz.prog w = .ok (.float .f64 (pw (k + 1))) w := fun w => run_float_arith w .mul 24 .f64 _ _ _ (pw_step k (by omega))
      go_wp2
      go_round
      case rel => exact ⟨k + 1, by omega, by go_num, rfl⟩
      case measure => simp [intOf]; omega
    · have he : k = b.size := by omega
      subst he
      clear hk hlt
      obtain ⟨r, w2, hr, hv, hb2⟩ := run_float_any .quo (by simp) (Fm.ofInt v) (pw b.size) w1
      have hr' : (binOp .quo 24 (.float .f64 (floatOfInt .f64 v)) (.float .f64 (pw b.size))).run Tryz.prog w1 = .ok (.float .f64 r) w2 := hr
      have HV : Hid (flt r = fltO (floatBits .quo .f64 (Fm.ofInt v) (pw b.size))) := hv
      have HB := chainB HB hb2
      have k5 := cell_later hb2 k5
      have k6 := cell_later hb2 k6
      have l5 := fro_later hb2 l5 z1
      have l6 := fro_later hb2 l6 z1
      have z2 : w.heap.size < w2.heap.size := by have := hb2.size; omega
      clear hv hr hb2
      go_wp2_with fail
      refine (Float_any _ _).mono ?_
      rintro e w3 ⟨rfl, hb3⟩
      have HB := chainB HB hb3
      have k5 := cell_later hb3 k5
      have k6 := cell_later hb3 k6
      have l5 := fro_later hb3 l5 z2
      have l6 := fro_later hb3 l6 z2
      clear hb3
      go_wp2
      refine bodyPost_ret (v := .tuple #[AV 3 (flt r), .int .i64 0]) (by simp [results, Tryz.results58, go_sem, k5, k6]) rfl ⟨by rw [HV.out], ?_⟩
      exact (HB.out.setCell (by simp) _).setCell (by simp) _

set_option maxHeartbeats 1000000 in
theorem readInt_ok (s : ByteArray) (v : Int) (w : World) (hs : s.size ≤ 140737488355328) (hp : Lib.parseIntB 64 s.data.toList = .ok v) :
    Calls Tryz.prog 57 #[.string s] w fun e w' => e = .returned (.tuple #[AV 2 v, .int .i64 0]) ∧ Below w.heap.size w w' := by
  have HP : Hid (Lib.parseIntB 64 s.data.toList = .ok v) := hp
  clear hp
  go_enter Tryz.func57, Tryz.ntmps57
  go_wp2_with fail
  refine (ParseInt_ok _ v _ hs HP.out).mono ?_
  rintro e w1 ⟨rfl, hb1⟩
  have k5 := cell_later hb1 (show (w.alloc (.cells #[.int .i64 0, .int .i64 0] 23)).cell? ⟨w.heap.size, 0, none⟩ = some (.int .i64 0) by simp [go_sem])
  have k6 := cell_later hb1 (show (w.alloc (.cells #[.int .i64 0, .int .i64 0] 23)).cell? ⟨w.heap.size, 1, none⟩ = some (.int .i64 0) by simp [go_sem])
  have z1 : w.heap.size < w1.heap.size := size1 hb1
  have l5 := fro_later hb1 (show (w.alloc (.cells #[.int .i64 0, .int .i64 0] 23)).frozen? ⟨w.heap.size, 0, none⟩ = false by simp [go_sem]) (by simp)
  have l6 := fro_later hb1 (show (w.alloc (.cells #[.int .i64 0, .int .i64 0] 23)).frozen? ⟨w.heap.size, 1, none⟩ = false by simp [go_sem]) (by simp)
  have HB : Hid (Below w.heap.size w w1) := end1 hb1
  clear hb1
  go_wp2_with fail
  refine (Int_any _ _).mono ?_
  rintro e w3 ⟨rfl, hb3⟩
  have HB := chainB HB hb3
  have k5 := cell_later hb3 k5
  have k6 := cell_later hb3 k6
  have l5 := fro_later hb3 l5 z1
  have l6 := fro_later hb3 l6 z1
  clear hb3
  go_wp2
  refine bodyPost_ret (v := .tuple #[AV 2 v, .int .i64 0]) (by simp [results, Tryz.results57, go_sem, k5, k6]) rfl ⟨rfl, ?_⟩
  exact (HB.out.setCell (by simp) _).setCell (by simp) _
end Go.Proofs.YtdpdpgnpkmfooaaGreatDoor
