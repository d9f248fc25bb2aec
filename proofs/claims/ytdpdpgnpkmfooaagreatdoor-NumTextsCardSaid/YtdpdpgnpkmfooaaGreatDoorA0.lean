/- The chapter's examples, one by one. -/
import Derived.Test.YtdpdpgnpkmfooaaGreatDoorX4
import Derived.Test.YtdpdpgnpkmfooaaGreatDoorW7
namespace Go.Proofs.YtdpdpgnpkmfooaaGreatDoor
open Go.RowKit

theorem ex1 (w : World) : Calls Tryz.prog 26 #[.int .i64 1, AV 2 9223372036854775807, AV 2 1] w fun e w' => e = .returned (.tuple #[AV 2 (-9223372036854775808), .int .i64 0]) ∧ Below w.heap.size w w' := by
  have h := Op_ints_1 9223372036854775807 1 w (by omega) (by omega) (by omega) (by omega)
  rw [show wrap64 (9223372036854775807 + 1) = -9223372036854775808 from by decide +kernel] at h
  exact h
theorem ex2 (w : World) : Calls Tryz.prog 26 #[.int .i64 5, AV 2 (-7), AV 2 2] w fun e w' => e = .returned (.tuple #[AV 2 (-4), .int .i64 0]) ∧ Below w.heap.size w w' := by
  have h := Op_div_5 2 (-7) 2 2 w (by omega) (by omega) (by omega) (by omega) rfl rfl
  rw [show dvT 2 (-7) 2 2 = 2 from by decide +kernel, show dvQ 2 (-7) 2 2 = -4 from by decide +kernel, show dvE 2 (-7) 2 2 = 0 from by decide +kernel] at h
  exact h
theorem ex3 (w : World) : Calls Tryz.prog 26 #[.int .i64 6, AV 2 (-7), AV 2 2] w fun e w' => e = .returned (.tuple #[AV 2 1, .int .i64 0]) ∧ Below w.heap.size w w' := by
  have h := Op_div_6 2 (-7) 2 2 w (by omega) (by omega) (by omega) (by omega) rfl rfl
  rw [show dvT 2 (-7) 2 2 = 2 from by decide +kernel, show dvR 2 (-7) 2 2 = 1 from by decide +kernel, show dvE 2 (-7) 2 2 = 0 from by decide +kernel] at h
  exact h
theorem ex4 (w : World) : Calls Tryz.prog 26 #[.int .i64 6, AV 2 7, AV 2 0] w fun e w' => e = .returned (.tuple #[AV 0 0, .int .i64 11]) ∧ Below w.heap.size w w' := by
  have h := Op_div_6 2 7 2 0 w (by omega) (by omega) (by omega) (by omega) rfl rfl
  rw [show dvT 2 7 2 0 = 0 from by decide +kernel, show dvR 2 7 2 0 = 0 from by decide +kernel, show dvE 2 7 2 0 = 11 from by decide +kernel] at h
  exact h

def s15 : ByteArray := ⟨#[49, 46, 53]⟩
def s1p : ByteArray := ⟨#[49, 46]⟩
theorem ex5 (w : World) : Calls Tryz.prog 34 #[.string s15] w fun e w' => e = .returned (.tuple #[AV 3 4609434218613702656, .int .i64 0]) ∧ Below w.heap.size w w' := by
  have h := Read_pt s15 15 w (by decide +kernel) (by decide +kernel) (by decide +kernel) (by decide +kernel) (by decide +kernel) (by rfl) (by decide +kernel)
  rw [show fltO (floatBits .quo .f64 (Fm.ofInt 15) (pw (bhd s15).size)) = 4609434218613702656 from by decide +kernel] at h
  exact h
theorem ex6 (w : World) : Calls Tryz.prog 34 #[.string s1p] w fun e w' => e = .returned (.tuple #[AV 0 0, .int .i64 6]) ∧ Below w.heap.size w w' :=
  Read_bad s1p w (by decide +kernel) (by decide +kernel) (by decide +kernel)
theorem ex7 (w : World) : Calls Tryz.prog 32 #[AV 2 9007199254740993, AV 3 4845873199050653696] w fun e w' => e = .returned (.tuple #[.int .i64 1, .bool true]) ∧ Below w.heap.size w w' := by
  have h := Cmp_any 2 9007199254740993 3 4845873199050653696 w (by omega) (by omega) (by omega) (by omega)
  rw [show cpN 2 9007199254740993 3 4845873199050653696 = 1 from by decide +kernel, show cpB 2 9007199254740993 3 4845873199050653696 = true from by decide +kernel] at h
  exact h
theorem ex7f (w : World) : Calls Tryz.prog 18 #[.float .f64 4845873199050653696] w fun e w' => e = .returned (AV 3 4845873199050653696) ∧ Below w.heap.size w w' := by
  have h := Float_any 4845873199050653696 w
  rw [show flt 4845873199050653696 = 4845873199050653696 from by decide +kernel] at h
  exact h
theorem ex5f (w : World) : Calls Tryz.prog 18 #[.float .f64 4609434218613702656] w fun e w' => e = .returned (AV 3 4609434218613702656) ∧ Below w.heap.size w w' := by
  have h := Float_any 4609434218613702656 w
  rw [show flt 4609434218613702656 = 4609434218613702656 from by decide +kernel] at h
  exact h
theorem ex8f (w : World) : Calls Tryz.prog 18 #[.float .f64 4607182418800017408] w fun e w' => e = .returned (AV 3 4607182418800017408) ∧ Below w.heap.size w w' := by
  have h := Float_any 4607182418800017408 w
  rw [show flt 4607182418800017408 = 4607182418800017408 from by decide +kernel] at h
  exact h
theorem ex8 (w : World) (ht : w.cell? ⟨6, 15, none⟩ = some (.int .u8 4)) : Calls Tryz.prog 36 #[AV 3 4607182418800017408] w fun e w' => e = .returned (.string ⟨#[48, 102, 51, 102, 102, 48, 48, 48, 48, 48, 48, 48, 48, 48, 48, 48, 48, 48]⟩) ∧ Below w.heap.size w w' := by
  have h := Text_float 4607182418800017408 w (by omega) (by omega) (by decide +kernel) ht
  rw [show txtF (B 4607182418800017408) = ⟨#[48, 102, 51, 102, 102, 48, 48, 48, 48, 48, 48, 48, 48, 48, 48, 48, 48, 48]⟩ from by rfl] at h
  exact h
end Go.Proofs.YtdpdpgnpkmfooaaGreatDoor
