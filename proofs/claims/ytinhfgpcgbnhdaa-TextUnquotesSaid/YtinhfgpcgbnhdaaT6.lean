/- The chapter's examples, as the law calls them. -/
import Derived.Test.YtinhfgpcgbnhdaaT5
namespace Go.Proofs.Ytinhfgpcgbnhdaa
open Go.RowKit

theorem hash_empty : hashL [] = 2166136261 := rfl
theorem hash_a : hashL [97] = 3826002220 := by decide +kernel
theorem quote_ex : str (quoteL (bl ⟨#[97, 34]⟩)) = ⟨#[34, 97, 92, 120, 50, 50, 34]⟩ := by decide +kernel
theorem pack_ex : packL (bl ⟨#[97, 98]⟩) = [25185] := by decide +kernel

theorem Pack_ab (w : World) : Calls Try.prog 17 #[.string ⟨#[97, 98]⟩] w fun e w' => e = .returned (.slice (some ⟨w.heap.size, 0, none⟩) 1 1) ∧ w'.cell? ⟨w.heap.size, 0, none⟩ = some (.int .i64 25185) ∧ Below w.heap.size w w' := by
  refine (Pack_any ⟨#[97, 98]⟩ w (by decide)).mono ?_
  rintro e w' ⟨rfl, ho, hb⟩
  refine ⟨rfl, ?_, hb⟩
  rw [pack_ex] at ho
  exact (ho.cellAt 0 (by decide)).trans rfl
theorem Hash_empty (w : World) : Calls Try.prog 12 #[.string ⟨#[]⟩] w fun e w' => e = .returned (.int .u32 2166136261) ∧ w = w' := Hash_any ⟨#[]⟩ w (by decide)
theorem Hash_a (w : World) : Calls Try.prog 12 #[.string ⟨#[97]⟩] w fun e w' => e = .returned (.int .u32 3826002220) ∧ w = w' := by
  have h := Hash_any ⟨#[97]⟩ w (by decide)
  rw [show hashL (ByteArray.data ⟨#[97]⟩).toList = 3826002220 from hash_a] at h; exact h
theorem Quote_ex (w : World) : Calls Try.prog 24 #[.string ⟨#[97, 34]⟩] w fun e w' => e = .returned (.string ⟨#[34, 97, 92, 120, 50, 50, 34]⟩) ∧ Below w.heap.size w w' := by
  have h := Quote_any ⟨#[97, 34]⟩ w (by decide)
  rw [quote_ex] at h; exact h

set_option maxHeartbeats 1000000 in
theorem alive_any (w : World) :
    Calls Try.prog 11 #[] w fun e w' => e = .returned (.bool true) ∧ Below w.heap.size w w' := by
  go_enter Try.func11, Try.ntmps11
  go_wp2_with fail
  refine (Pack_ab _).mono ?_
  rintro e w1 ⟨rfl, hc1, hb1⟩
  go_wp2_with fail
  refine (Hash_empty _).mono ?_
  rintro e w' ⟨rfl, rfl⟩
  go_wp2_with fail
  refine (Hash_a _).mono ?_
  rintro e w' ⟨rfl, rfl⟩
  go_wp2_with fail
  refine (Quote_ex _).mono ?_
  rintro e w2 ⟨rfl, hb2⟩
  go_wp2
  go_ret
  exact ⟨rfl, hb1.trans (hb2.mono hb1.size)⟩
end Go.Proofs.Ytinhfgpcgbnhdaa
