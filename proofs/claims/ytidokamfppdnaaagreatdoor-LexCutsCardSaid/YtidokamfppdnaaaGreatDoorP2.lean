/- The document's Word. -/
import Derived.Test.YtidokamfppdnaaaGreatDoorR0
namespace Go.Proofs.YtidokamfppdnaaaGreatDoor
open Go.RowKit
set_option linter.unusedSimpArgs false
set_option linter.unusedVariables false

/-- The word of this number. -/
def wB (j : Nat) : ByteArray := ⟨(wordsL.reverse.getD j []).toArray⟩
set_option maxRecDepth 20000 in
theorem wB_cell (W : World) (j : Nat) (hj : j < 18) : (W.alloc (.cells #[.string ⟨#[97, 110, 100]⟩, .string ⟨#[98, 114, 101, 97, 107]⟩, .string ⟨#[100, 111]⟩, .string ⟨#[101, 108, 115, 101]⟩, .string ⟨#[101, 108, 115, 101, 105, 102]⟩, .string ⟨#[101, 110, 100]⟩, .string ⟨#[102, 97, 108, 115, 101]⟩, .string ⟨#[102, 111, 114]⟩, .string ⟨#[102, 117, 110, 99, 116, 105, 111, 110]⟩, .string ⟨#[105, 102]⟩, .string ⟨#[108, 111, 99, 97, 108]⟩, .string ⟨#[110, 105, 108]⟩, .string ⟨#[110, 111, 116]⟩, .string ⟨#[111, 114]⟩, .string ⟨#[114, 101, 116, 117, 114, 110]⟩, .string ⟨#[116, 104, 101, 110]⟩, .string ⟨#[116, 114, 117, 101]⟩, .string ⟨#[119, 104, 105, 108, 101]⟩] 9)).cell? ⟨W.heap.size, j, none⟩ = some (.string (wB j)) := by
  rw [Lib.cell_of_heap (World.alloc_heap_new W _)]
  rcases (by omega : j = 0 ∨ j = 1 ∨ j = 2 ∨ j = 3 ∨ j = 4 ∨ j = 5 ∨ j = 6 ∨ j = 7 ∨ j = 8 ∨ j = 9 ∨ j = 10 ∨ j = 11 ∨ j = 12 ∨ j = 13 ∨ j = 14 ∨ j = 15 ∨ j = 16 ∨ j = 17) with rfl | rfl | rfl | rfl | rfl | rfl | rfl | rfl | rfl | rfl | rfl | rfl | rfl | rfl | rfl | rfl | rfl | rfl <;> rfl
theorem wB_bl (j : Nat) : bl (wB j) = wordsL.reverse.getD j [] := bl_mk _
theorem isWd_iff (s : ByteArray) : isWd s = true ↔ ∃ j, j < 18 ∧ wB j = s := by
  have hl : wordsL.reverse.length = 18 := rfl
  unfold isWd
  rw [List.contains_iff_mem, ← List.mem_reverse]
  constructor
  · intro h
    obtain ⟨j, hj, e⟩ := List.getElem_of_mem h
    refine ⟨j, by omega, bl_inj ?_⟩
    rw [wB_bl, List.getD_eq_getElem?_getD, List.getElem?_eq_getElem hj, e]; rfl
  · rintro ⟨j, hj, rfl⟩
    have : (wB j).data.toList = wordsL.reverse[j] := by
      have := wB_bl j
      rw [List.getD_eq_getElem?_getD, List.getElem?_eq_getElem (by omega)] at this
      exact this
    rw [this]; exact List.getElem_mem _

set_option maxRecDepth 20000 in
set_option maxHeartbeats 4000000 in
theorem RWords_any (w : World) : Calls Tryz.prog 38 #[] w fun r w' => r = .returned (.slice (some ⟨w.heap.size, 0, none⟩) 18 18) ∧ w' = w.alloc (.cells #[.string ⟨#[97, 110, 100]⟩, .string ⟨#[98, 114, 101, 97, 107]⟩, .string ⟨#[100, 111]⟩, .string ⟨#[101, 108, 115, 101]⟩, .string ⟨#[101, 108, 115, 101, 105, 102]⟩, .string ⟨#[101, 110, 100]⟩, .string ⟨#[102, 97, 108, 115, 101]⟩, .string ⟨#[102, 111, 114]⟩, .string ⟨#[102, 117, 110, 99, 116, 105, 111, 110]⟩, .string ⟨#[105, 102]⟩, .string ⟨#[108, 111, 99, 97, 108]⟩, .string ⟨#[110, 105, 108]⟩, .string ⟨#[110, 111, 116]⟩, .string ⟨#[111, 114]⟩, .string ⟨#[114, 101, 116, 117, 114, 110]⟩, .string ⟨#[116, 104, 101, 110]⟩, .string ⟨#[116, 114, 117, 101]⟩, .string ⟨#[119, 104, 105, 108, 101]⟩] 9) := by
  go_enter Tryz.func38, Tryz.ntmps38
  go_wp2_with fail
  go_ret
  exact ⟨rfl, rfl⟩

set_option maxRecDepth 20000 in
set_option maxHeartbeats 4000000 in
theorem RWord_any (s : ByteArray) (w : World) : Calls Tryz.prog 25 #[.string s] w fun r w' => r = .returned (.bool (isWd s)) ∧ Kept No w w' := by
  go_enter Tryz.func25, Tryz.ntmps25
  go_wp2_with fail
  refine Calls.mono (RWords_any w) ?_
  rintro _ W1 ⟨rfl, hW⟩
  have HB : Hid (∀ i, i < 18 → W1.cell? ⟨w.heap.size, i, none⟩ = some (.string (wB i))) := fun i hi => by rw [hW]; exact wB_cell w i hi
  have HK : Hid (Kept No w W1) := by show Kept _ _ _; rw [hW]; exact (Kept.refl No w).alloc _
  clear hW
  generalize w.heap.size = bk at HB ⊢
  go_wp2_with fail
  go_loopw [4] (fun i wr => ∃ j : Nat, j ≤ 18 ∧ i = .int .i64 j ∧ Hid (∀ m, m < j → wB m ≠ s) ∧ Hid (wr = W1)) (fun i _ => 18 - (intOf i).toNat)
  case atStart => exact ⟨0, by omega, rfl, fun m hm => by omega, rfl⟩
  case round =>
    obtain ⟨j, hj, rfl, HM, HW⟩ := hrel
    obtain rfl := HW.out
    by_cases hlt : j < 18
    · have dlt : decide ((j : Int) < 18) = true := decide_eq_true (by omega)
      have lt : (j : Int) < 18 := by omega
      have c := HB.out j hlt
      by_cases he : wB j = s
      · have hw : isWd s = true := (isWd_iff s).2 ⟨j, hlt, he⟩
        rw [he] at c
        go_wp2_with fail
        exact bodyPost_ret (v := .bool true) (by simp [results, Tryz.results25, go_sem]) rfl ⟨rfl, HK.out⟩
      · have he1 : ((wB j).toList == s.toList) = false := by
          rw [beq_eq_false_iff_ne]
          intro e
          exact he (bl_inj (by rwa [ByteArray.toList_eq, ByteArray.toList_eq] at e))
        have HM2 : Hid (∀ m, m < j + 1 → wB m ≠ s) := fun m hm e => by
          rcases Nat.lt_or_ge m j with h | h
          · exact HM.out m h e
          · exact he (by rw [show j = m by omega]; exact e)
        go_wp2_with fail
        exact ⟨⟨j + 1, by omega, by go_num, HM2.out, trivial⟩, by simp [intOf]; omega⟩
    · have dlt : decide ((j : Int) < 18) = false := decide_eq_false (by omega)
      have hw : isWd s = false := by
        rw [Bool.eq_false_iff]
        intro h
        obtain ⟨m, hm, e⟩ := (isWd_iff s).1 h
        exact HM.out m (by omega) e
      go_wp2_with fail
      exact bodyPost_ret (v := .bool false) (by simp [results, Tryz.results25, go_sem]) rfl ⟨rfl, HK.out⟩
end Go.Proofs.YtidokamfppdnaaaGreatDoor
