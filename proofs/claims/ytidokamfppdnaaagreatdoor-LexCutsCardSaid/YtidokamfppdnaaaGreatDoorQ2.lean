/- The document's signs. -/
import Derived.Test.YtidokamfppdnaaaGreatDoorP2
namespace Go.Proofs.YtidokamfppdnaaaGreatDoor
open Go.RowKit
set_option linter.unusedSimpArgs false
set_option linter.unusedVariables false

/-- The sign of this number. -/
def sG (j : Nat) : ByteArray := ⟨(sgs.getD j []).toArray⟩
set_option maxRecDepth 20000 in
theorem sG_cell (W : World) (j : Nat) (hj : j < 24) : (W.alloc (.cells #[.string ⟨#[47, 47]⟩, .string ⟨#[46, 46]⟩, .string ⟨#[61, 61]⟩, .string ⟨#[126, 61]⟩, .string ⟨#[60, 61]⟩, .string ⟨#[62, 61]⟩, .string ⟨#[43]⟩, .string ⟨#[45]⟩, .string ⟨#[42]⟩, .string ⟨#[47]⟩, .string ⟨#[37]⟩, .string ⟨#[60]⟩, .string ⟨#[62]⟩, .string ⟨#[61]⟩, .string ⟨#[40]⟩, .string ⟨#[41]⟩, .string ⟨#[123]⟩, .string ⟨#[125]⟩, .string ⟨#[91]⟩, .string ⟨#[93]⟩, .string ⟨#[44]⟩, .string ⟨#[59]⟩, .string ⟨#[46]⟩, .string ⟨#[35]⟩] 9)).cell? ⟨W.heap.size, j, none⟩ = some (.string (sG j)) := by
  rw [Lib.cell_of_heap (World.alloc_heap_new W _)]
  rcases (by omega : j = 0 ∨ j = 1 ∨ j = 2 ∨ j = 3 ∨ j = 4 ∨ j = 5 ∨ j = 6 ∨ j = 7 ∨ j = 8 ∨ j = 9 ∨ j = 10 ∨ j = 11 ∨ j = 12 ∨ j = 13 ∨ j = 14 ∨ j = 15 ∨ j = 16 ∨ j = 17 ∨ j = 18 ∨ j = 19 ∨ j = 20 ∨ j = 21 ∨ j = 22 ∨ j = 23) with rfl | rfl | rfl | rfl | rfl | rfl | rfl | rfl | rfl | rfl | rfl | rfl | rfl | rfl | rfl | rfl | rfl | rfl | rfl | rfl | rfl | rfl | rfl | rfl <;> rfl
theorem sG_bl (j : Nat) : bl (sG j) = sgs.getD j [] := bl_mk _
theorem sgs_len : sgs.length = 24 := rfl
theorem sG_at (j : Nat) (hj : j < 24) : bl (sG j) = sgs[j]'(by rw [sgs_len]; exact hj) := by
  rw [sG_bl, List.getD_eq_getElem?_getD, List.getElem?_eq_getElem (by rw [sgs_len]; exact hj)]; rfl
theorem sgF_drop (D : List UInt8) (j : Nat) (hj : j < 24) : sgF D (sgs.drop j) = if Lib.hasPrefix D (bl (sG j)) then some (bl (sG j)) else sgF D (sgs.drop (j + 1)) := by
  rw [List.drop_eq_getElem_cons (by rw [sgs_len]; exact hj), ← sG_at j hj]
  unfold sgF
  rw [List.find?_cons]
  cases Lib.hasPrefix D (bl (sG j)) <;> rfl
theorem sG_size (j : Nat) (hj : j < 24) : (sG j).size ≤ 2 ∧ 1 ≤ (sG j).size := by
  rw [← bl_len, sG_at j hj]; exact sgs_le _ (List.getElem_mem _)

set_option maxRecDepth 20000 in
set_option maxHeartbeats 4000000 in
theorem RSigns_any (w : World) : Calls Tryz.prog 46 #[] w fun r w' => r = .returned (.slice (some ⟨w.heap.size, 0, none⟩) 24 24) ∧ w' = w.alloc (.cells #[.string ⟨#[47, 47]⟩, .string ⟨#[46, 46]⟩, .string ⟨#[61, 61]⟩, .string ⟨#[126, 61]⟩, .string ⟨#[60, 61]⟩, .string ⟨#[62, 61]⟩, .string ⟨#[43]⟩, .string ⟨#[45]⟩, .string ⟨#[42]⟩, .string ⟨#[47]⟩, .string ⟨#[37]⟩, .string ⟨#[60]⟩, .string ⟨#[62]⟩, .string ⟨#[61]⟩, .string ⟨#[40]⟩, .string ⟨#[41]⟩, .string ⟨#[123]⟩, .string ⟨#[125]⟩, .string ⟨#[91]⟩, .string ⟨#[93]⟩, .string ⟨#[44]⟩, .string ⟨#[59]⟩, .string ⟨#[46]⟩, .string ⟨#[35]⟩] 9) := by
  go_enter Tryz.func46, Tryz.ntmps46
  go_wp2_with fail
  go_ret
  exact ⟨rfl, rfl⟩

/-- How long the sign is. -/
def sgN (D : List UInt8) (G : List (List UInt8)) : Int := match sgF D G with | some g => (g.length : Int) | none => 0

set_option maxRecDepth 20000 in
set_option maxHeartbeats 8000000 in
theorem signAt_any (s : ByteArray) (k : Nat) (hk : k < s.size) (hs : s.size ≤ 8192) (w : World) : Calls Tryz.prog 28 #[.string s, .int .i64 (k : Int)] w fun r w' => r = .returned (.int .i64 (sgN ((bl s).drop k) sgs)) ∧ Kept No w w' := by
  obtain ⟨V, HV⟩ : ∃ V, Hid (sgN ((bl s).drop k) (sgs.drop 0) = V) := ⟨_, show _ = _ from rfl⟩
  rw [show sgN ((bl s).drop k) sgs = V from HV.out]
  go_enter Tryz.func28, Tryz.ntmps28
  go_wp2_with fail
  refine Calls.mono (RSigns_any w) ?_
  rintro _ W1 ⟨rfl, hW⟩
  have HB : Hid (∀ i, i < 24 → W1.cell? ⟨w.heap.size, i, none⟩ = some (.string (sG i))) := fun i hi => by rw [hW]; exact sG_cell w i hi
  have HK : Hid (Kept No w W1) := by show Kept _ _ _; rw [hW]; exact (Kept.refl No w).alloc _
  clear hW
  generalize w.heap.size = bk at HB ⊢
  go_wp2_with fail
  go_loopw [6] (fun i wr => ∃ j : Nat, j ≤ 24 ∧ i = .int .i64 j ∧ Hid (sgN ((bl s).drop k) (sgs.drop j) = V) ∧ Hid (Kept No W1 wr)) (fun i _ => 24 - (intOf i).toNat)
  case atStart => exact ⟨0, by omega, rfl, HV.out, Kept.refl _ _⟩
  case round =>
    clear HV
    obtain ⟨j, hj, rfl, HM, HR⟩ := hrel
    by_cases hlt : j < 24
    · have dlt : decide ((j : Int) < 24) = true := decide_eq_true (by omega)
      have lt : (j : Int) < 24 := by omega
      have c := cell_kept (HB.out j hlt) HR.out
      have hsz := sG_size j hlt
      have hM := HM.out
      unfold sgN at hM
      rw [sgF_drop _ j hlt] at hM
      obtain ⟨G, hG⟩ : ∃ G, sG j = G := ⟨_, rfl⟩
      rw [hG] at c hsz hM
      have u1 : IntKind.i64.wrap ((k : Int) + (G.size : Int)) = (k : Int) + (G.size : Int) := by rw [IntKind.wrap_i64]; omega
      by_cases hle : k + G.size ≤ s.size
      · have dle : decide ((k : Int) + (G.size : Int) ≤ (s.size : Int)) = true := decide_eq_true (by omega)
        have l1 : (k : Int) + (G.size : Int) ≤ (s.size : Int) := by omega
        have l2 : (k : Int) ≤ (k : Int) + (G.size : Int) := by omega
        have l3 : ((k : Int) + (G.size : Int)).toNat = k + G.size := by omega
        have hcut : bl (s.extract k (k + G.size)) = ((bl s).drop k).take G.size := bl_cut _ _ _
        by_cases hp : Lib.hasPrefix ((bl s).drop k) (bl G) = true
        · have heq : s.extract k (k + G.size) = G := by
            apply bl_inj
            rw [hcut]
            rw [← Lib.hasPrefix_of_take] at hp
            simp at hp
            rw [← bl_len]; exact hp.2
          rw [if_pos hp] at hM
          have HVn : Hid (V = (G.size : Int)) := by show _ = _; rw [← hM, ← bl_len]
          clear hM hp hcut HM
          go_wp2_with fail
          refine wp_region_held_drew (S := fun w' => w'.cell? ⟨bk, j, none⟩ = some (.string G)) (by kernel_rfl) (by simpa using c) (fun hSS => ?_)
          refine wpAnyH_take (i := 0) (v := ?vA0) rfl (by kernel_rfl) (by kernel_rfl) (by kernel_rfl) (fun _ _ _ h => h) (Or.inl ⟨by rfl, ?yA0⟩) hSS ?rA0
          case yA0 => (intro w' f0; go_simp; try with_reducible rfl)
          case rA0 =>
          try simp only [Act.put, List.setIfInBounds_toArray, List.set_cons_zero, List.set_cons_succ, List.getElem_toArray, List.getElem_cons_zero, List.getElem_cons_succ]
          refine wpAnyH_take (i := 1) (v := ?vA1) rfl (by kernel_rfl) (by kernel_rfl) (by kernel_rfl) (fun _ _ _ h => h) (Or.inl ⟨by rfl, ?yA1⟩) hSS ?rA1
          case yA1 => (intro w' f0; go_simp; try with_reducible rfl)
          case rA1 =>
          try simp only [Act.put, List.setIfInBounds_toArray, List.set_cons_zero, List.set_cons_succ, List.getElem_toArray, List.getElem_cons_zero, List.getElem_cons_succ]
          refine wpAnyH_take (i := 2) (v := ?vA2) rfl (by kernel_rfl) (by kernel_rfl) (by kernel_rfl) (fun _ _ _ h => h) (Or.inl ⟨by rfl, ?yA2⟩) hSS ?rA2
          case yA2 => (intro w' f0; go_simp; try with_reducible rfl)
          case rA2 =>
          try simp only [Act.put, List.setIfInBounds_toArray, List.set_cons_zero, List.set_cons_succ, List.getElem_toArray, List.getElem_cons_zero, List.getElem_cons_succ]
          refine wpAnyH_take (i := 3) (v := ?vA3) rfl (by kernel_rfl) (by kernel_rfl) (by kernel_rfl) (fun _ _ _ h => h) (Or.inl ⟨by rfl, ?yA3⟩) hSS ?rA3
          case yA3 => (intro w' f0; go_simp; try with_reducible rfl)
          case rA3 =>
          try simp only [Act.put, List.setIfInBounds_toArray, List.set_cons_zero, List.set_cons_succ, List.getElem_toArray, List.getElem_cons_zero, List.getElem_cons_succ]
          refine wpAnyH_take (i := 4) (v := ?vA4) rfl (by kernel_rfl) (by kernel_rfl) (by kernel_rfl) (fun _ _ _ h => h) (Or.inl ⟨by rfl, ?yA4⟩) hSS ?rA4
          case yA4 => (intro w' f0; go_simp; try with_reducible rfl)
          case rA4 =>
          try simp only [Act.put, List.setIfInBounds_toArray, List.set_cons_zero, List.set_cons_succ, List.getElem_toArray, List.getElem_cons_zero, List.getElem_cons_succ]
          refine wpAnyH_take (i := 5) (v := .bool true) rfl (by kernel_rfl) (by kernel_rfl) (by kernel_rfl) (fun _ _ _ h => h) (Or.inl ⟨by rfl, ?yA5⟩) hSS ?rA5
          case yA5 => (intro w' f0; go_simp; try simp [dle, heq])
          case rA5 =>
          try simp only [Act.put, List.setIfInBounds_toArray, List.set_cons_zero, List.set_cons_succ, List.getElem_toArray, List.getElem_cons_zero, List.getElem_cons_succ]
          refine wpAnyH_take (i := 6) (v := .bool true) rfl (by kernel_rfl) (by kernel_rfl) (by kernel_rfl) (fun _ _ _ h => h) (Or.inl ⟨by rfl, ?yA6⟩) hSS ?rA6
          case yA6 => (intro w' f0; go_simp; try simp [dle, heq])
          case rA6 =>
          try simp only [Act.put, List.setIfInBounds_toArray, List.set_cons_zero, List.set_cons_succ, List.getElem_toArray, List.getElem_cons_zero, List.getElem_cons_succ]
          refine wpAnyH_take (i := 7) (v := ?vA7) rfl (by kernel_rfl) (by kernel_rfl) (by kernel_rfl) (fun _ _ _ h => h) (Or.inl ⟨by rfl, ?yA7⟩) hSS ?rA7
          case yA7 => (intro w' f0; go_simp; try with_reducible rfl)
          case rA7 =>
          try simp only [Act.put, List.setIfInBounds_toArray, List.set_cons_zero, List.set_cons_succ, List.getElem_toArray, List.getElem_cons_zero, List.getElem_cons_succ]
          refine wpAnyH_take (i := 8) (v := ?vA8) rfl (by kernel_rfl) (by kernel_rfl) (by kernel_rfl) (fun _ _ _ h => h) (Or.inl ⟨by rfl, ?yA8⟩) hSS ?rA8
          case yA8 => (intro w' f0; go_simp; try with_reducible rfl)
          case rA8 =>
          try simp only [Act.put, List.setIfInBounds_toArray, List.set_cons_zero, List.set_cons_succ, List.getElem_toArray, List.getElem_cons_zero, List.getElem_cons_succ]
          refine wpAnyH_take (i := 9) (v := ?vA9) rfl (by kernel_rfl) (by kernel_rfl) (by kernel_rfl) (fun _ _ _ h => h) (Or.inl ⟨by rfl, ?yA9⟩) hSS ?rA9
          case yA9 => (intro w' f0; go_simp; try with_reducible rfl)
          case rA9 =>
          try simp only [Act.put, List.setIfInBounds_toArray, List.set_cons_zero, List.set_cons_succ, List.getElem_toArray, List.getElem_cons_zero, List.getElem_cons_succ]
          refine wpAnyH_take (i := 10) (v := ?vA10) rfl (by kernel_rfl) (by kernel_rfl) (by kernel_rfl) (fun _ _ _ h => h) (Or.inl ⟨by rfl, ?yA10⟩) hSS ?rA10
          case yA10 => (intro w' f0; go_simp; try with_reducible rfl)
          case rA10 =>
          try simp only [Act.put, List.setIfInBounds_toArray, List.set_cons_zero, List.set_cons_succ, List.getElem_toArray, List.getElem_cons_zero, List.getElem_cons_succ]
          refine wpAnyH_take (i := 11) (v := ?vA11) rfl (by kernel_rfl) (by kernel_rfl) (by kernel_rfl) (fun _ _ _ h => h) (Or.inl ⟨by rfl, ?yA11⟩) hSS ?rA11
          case yA11 => (intro w' f0; go_simp; try with_reducible rfl)
          case rA11 =>
          try simp only [Act.put, List.setIfInBounds_toArray, List.set_cons_zero, List.set_cons_succ, List.getElem_toArray, List.getElem_cons_zero, List.getElem_cons_succ]
          refine wpAnyH_take (i := 12) (v := ?vA12) rfl (by kernel_rfl) (by kernel_rfl) (by kernel_rfl) (fun _ _ _ h => h) (Or.inl ⟨by rfl, ?yA12⟩) hSS ?rA12
          case yA12 => (intro w' f0; go_simp; try with_reducible rfl)
          case rA12 =>
          try simp only [Act.put, List.setIfInBounds_toArray, List.set_cons_zero, List.set_cons_succ, List.getElem_toArray, List.getElem_cons_zero, List.getElem_cons_succ]
          refine wpAnyH_take (i := 13) (v := ?vA13) rfl (by kernel_rfl) (by kernel_rfl) (by kernel_rfl) (fun _ _ _ h => h) (Or.inl ⟨by rfl, ?yA13⟩) hSS ?rA13
          case yA13 => (intro w' f0; go_simp; try with_reducible rfl)
          case rA13 =>
          try simp only [Act.put, List.setIfInBounds_toArray, List.set_cons_zero, List.set_cons_succ, List.getElem_toArray, List.getElem_cons_zero, List.getElem_cons_succ]
          refine wpAnyH_take (i := 14) (v := ?vA14) rfl (by kernel_rfl) (by kernel_rfl) (by kernel_rfl) (fun _ _ _ h => h) (Or.inl ⟨by rfl, ?yA14⟩) hSS ?rA14
          case yA14 => (intro w' f0; go_simp; try with_reducible rfl)
          case rA14 =>
          try simp only [Act.put, List.setIfInBounds_toArray, List.set_cons_zero, List.set_cons_succ, List.getElem_toArray, List.getElem_cons_zero, List.getElem_cons_succ]
          refine wpAnyH_take (i := 15) (v := ?vA15) rfl (by kernel_rfl) (by kernel_rfl) (by kernel_rfl) (fun _ _ _ h => h) (Or.inl ⟨by rfl, ?yA15⟩) hSS ?rA15
          case yA15 => (intro w' f0; go_simp; try with_reducible rfl)
          case rA15 =>
          try simp only [Act.put, List.setIfInBounds_toArray, List.set_cons_zero, List.set_cons_succ, List.getElem_toArray, List.getElem_cons_zero, List.getElem_cons_succ]
          refine wpAnyH_take (i := 16) (v := ?vA16) rfl (by kernel_rfl) (by kernel_rfl) (by kernel_rfl) (fun _ _ _ h => h) (Or.inl ⟨by rfl, ?yA16⟩) hSS ?rA16
          case yA16 => (intro w' f0; go_simp; try with_reducible rfl)
          case rA16 =>
          try simp only [Act.put, List.setIfInBounds_toArray, List.set_cons_zero, List.set_cons_succ, List.getElem_toArray, List.getElem_cons_zero, List.getElem_cons_succ]
          refine wpAnyH_take (i := 17) (v := .bool true) rfl (by kernel_rfl) (by kernel_rfl) (by kernel_rfl) (fun _ _ _ h => h) (Or.inl ⟨by rfl, ?yA17⟩) hSS ?rA17
          case yA17 => (intro w' f0; go_simp; try simp [dle, heq])
          case rA17 =>
          try simp only [Act.put, List.setIfInBounds_toArray, List.set_cons_zero, List.set_cons_succ, List.getElem_toArray, List.getElem_cons_zero, List.getElem_cons_succ]
          refine wpAnyH_take (i := 18) (v := .bool true) rfl (by kernel_rfl) (by kernel_rfl) (by kernel_rfl) (fun _ _ _ h => h) (Or.inl ⟨by rfl, ?yA18⟩) hSS ?rA18
          case yA18 => (intro w' f0; go_simp; try simp [dle, heq])
          case rA18 =>
          try simp only [Act.put, List.setIfInBounds_toArray, List.set_cons_zero, List.set_cons_succ, List.getElem_toArray, List.getElem_cons_zero, List.getElem_cons_succ]
          refine wpAnyH_done (by kernel_rfl) ?_ _
          go_wp2_with fail
          exact bodyPost_ret (v := .int .i64 (G.size : Int)) (by simp [results, Tryz.results28, go_sem]) rfl ⟨by rw [HVn.out], HK.out.trans HR.out.drew⟩
        · have hne : ((s.extract k (k + G.size)).toList == G.toList) = false := by
            rw [beq_eq_false_iff_ne]
            intro e
            apply hp
            have e2 : s.extract k (k + G.size) = G := bl_inj (by rwa [ByteArray.toList_eq, ByteArray.toList_eq] at e)
            rw [e2] at hcut
            rw [← Lib.hasPrefix_of_take]
            simp [bl_len]
            exact ⟨by omega, hcut.symm⟩
          rw [if_neg hp] at hM
          have HM2 : Hid (sgN ((bl s).drop k) (sgs.drop (j + 1)) = V) := hM
          clear hM hp hcut HM
          go_wp2_with fail
          refine wp_region_held_drew (S := fun w' => w'.cell? ⟨bk, j, none⟩ = some (.string G)) (by kernel_rfl) (by simpa using c) (fun hSS => ?_)
          refine wpAnyH_take (i := 0) (v := ?vB0) rfl (by kernel_rfl) (by kernel_rfl) (by kernel_rfl) (fun _ _ _ h => h) (Or.inl ⟨by rfl, ?yB0⟩) hSS ?rB0
          case yB0 => (intro w' f0; go_simp; try with_reducible rfl)
          case rB0 =>
          try simp only [Act.put, List.setIfInBounds_toArray, List.set_cons_zero, List.set_cons_succ, List.getElem_toArray, List.getElem_cons_zero, List.getElem_cons_succ]
          refine wpAnyH_take (i := 1) (v := ?vB1) rfl (by kernel_rfl) (by kernel_rfl) (by kernel_rfl) (fun _ _ _ h => h) (Or.inl ⟨by rfl, ?yB1⟩) hSS ?rB1
          case yB1 => (intro w' f0; go_simp; try with_reducible rfl)
          case rB1 =>
          try simp only [Act.put, List.setIfInBounds_toArray, List.set_cons_zero, List.set_cons_succ, List.getElem_toArray, List.getElem_cons_zero, List.getElem_cons_succ]
          refine wpAnyH_take (i := 2) (v := ?vB2) rfl (by kernel_rfl) (by kernel_rfl) (by kernel_rfl) (fun _ _ _ h => h) (Or.inl ⟨by rfl, ?yB2⟩) hSS ?rB2
          case yB2 => (intro w' f0; go_simp; try with_reducible rfl)
          case rB2 =>
          try simp only [Act.put, List.setIfInBounds_toArray, List.set_cons_zero, List.set_cons_succ, List.getElem_toArray, List.getElem_cons_zero, List.getElem_cons_succ]
          refine wpAnyH_take (i := 3) (v := ?vB3) rfl (by kernel_rfl) (by kernel_rfl) (by kernel_rfl) (fun _ _ _ h => h) (Or.inl ⟨by rfl, ?yB3⟩) hSS ?rB3
          case yB3 => (intro w' f0; go_simp; try with_reducible rfl)
          case rB3 =>
          try simp only [Act.put, List.setIfInBounds_toArray, List.set_cons_zero, List.set_cons_succ, List.getElem_toArray, List.getElem_cons_zero, List.getElem_cons_succ]
          refine wpAnyH_take (i := 4) (v := ?vB4) rfl (by kernel_rfl) (by kernel_rfl) (by kernel_rfl) (fun _ _ _ h => h) (Or.inl ⟨by rfl, ?yB4⟩) hSS ?rB4
          case yB4 => (intro w' f0; go_simp; try with_reducible rfl)
          case rB4 =>
          try simp only [Act.put, List.setIfInBounds_toArray, List.set_cons_zero, List.set_cons_succ, List.getElem_toArray, List.getElem_cons_zero, List.getElem_cons_succ]
          refine wpAnyH_take (i := 5) (v := .bool true) rfl (by kernel_rfl) (by kernel_rfl) (by kernel_rfl) (fun _ _ _ h => h) (Or.inl ⟨by rfl, ?yB5⟩) hSS ?rB5
          case yB5 => (intro w' f0; go_simp; try simp [dle, hne])
          case rB5 =>
          try simp only [Act.put, List.setIfInBounds_toArray, List.set_cons_zero, List.set_cons_succ, List.getElem_toArray, List.getElem_cons_zero, List.getElem_cons_succ]
          refine wpAnyH_take (i := 6) (v := .bool true) rfl (by kernel_rfl) (by kernel_rfl) (by kernel_rfl) (fun _ _ _ h => h) (Or.inl ⟨by rfl, ?yB6⟩) hSS ?rB6
          case yB6 => (intro w' f0; go_simp; try simp [dle, hne])
          case rB6 =>
          try simp only [Act.put, List.setIfInBounds_toArray, List.set_cons_zero, List.set_cons_succ, List.getElem_toArray, List.getElem_cons_zero, List.getElem_cons_succ]
          refine wpAnyH_take (i := 7) (v := ?vB7) rfl (by kernel_rfl) (by kernel_rfl) (by kernel_rfl) (fun _ _ _ h => h) (Or.inl ⟨by rfl, ?yB7⟩) hSS ?rB7
          case yB7 => (intro w' f0; go_simp; try with_reducible rfl)
          case rB7 =>
          try simp only [Act.put, List.setIfInBounds_toArray, List.set_cons_zero, List.set_cons_succ, List.getElem_toArray, List.getElem_cons_zero, List.getElem_cons_succ]
          refine wpAnyH_take (i := 8) (v := ?vB8) rfl (by kernel_rfl) (by kernel_rfl) (by kernel_rfl) (fun _ _ _ h => h) (Or.inl ⟨by rfl, ?yB8⟩) hSS ?rB8
          case yB8 => (intro w' f0; go_simp; try with_reducible rfl)
          case rB8 =>
          try simp only [Act.put, List.setIfInBounds_toArray, List.set_cons_zero, List.set_cons_succ, List.getElem_toArray, List.getElem_cons_zero, List.getElem_cons_succ]
          refine wpAnyH_take (i := 9) (v := ?vB9) rfl (by kernel_rfl) (by kernel_rfl) (by kernel_rfl) (fun _ _ _ h => h) (Or.inl ⟨by rfl, ?yB9⟩) hSS ?rB9
          case yB9 => (intro w' f0; go_simp; try with_reducible rfl)
          case rB9 =>
          try simp only [Act.put, List.setIfInBounds_toArray, List.set_cons_zero, List.set_cons_succ, List.getElem_toArray, List.getElem_cons_zero, List.getElem_cons_succ]
          refine wpAnyH_take (i := 10) (v := ?vB10) rfl (by kernel_rfl) (by kernel_rfl) (by kernel_rfl) (fun _ _ _ h => h) (Or.inl ⟨by rfl, ?yB10⟩) hSS ?rB10
          case yB10 => (intro w' f0; go_simp; try with_reducible rfl)
          case rB10 =>
          try simp only [Act.put, List.setIfInBounds_toArray, List.set_cons_zero, List.set_cons_succ, List.getElem_toArray, List.getElem_cons_zero, List.getElem_cons_succ]
          refine wpAnyH_take (i := 11) (v := ?vB11) rfl (by kernel_rfl) (by kernel_rfl) (by kernel_rfl) (fun _ _ _ h => h) (Or.inl ⟨by rfl, ?yB11⟩) hSS ?rB11
          case yB11 => (intro w' f0; go_simp; try with_reducible rfl)
          case rB11 =>
          try simp only [Act.put, List.setIfInBounds_toArray, List.set_cons_zero, List.set_cons_succ, List.getElem_toArray, List.getElem_cons_zero, List.getElem_cons_succ]
          refine wpAnyH_take (i := 12) (v := ?vB12) rfl (by kernel_rfl) (by kernel_rfl) (by kernel_rfl) (fun _ _ _ h => h) (Or.inl ⟨by rfl, ?yB12⟩) hSS ?rB12
          case yB12 => (intro w' f0; go_simp; try with_reducible rfl)
          case rB12 =>
          try simp only [Act.put, List.setIfInBounds_toArray, List.set_cons_zero, List.set_cons_succ, List.getElem_toArray, List.getElem_cons_zero, List.getElem_cons_succ]
          refine wpAnyH_take (i := 13) (v := ?vB13) rfl (by kernel_rfl) (by kernel_rfl) (by kernel_rfl) (fun _ _ _ h => h) (Or.inl ⟨by rfl, ?yB13⟩) hSS ?rB13
          case yB13 => (intro w' f0; go_simp; try with_reducible rfl)
          case rB13 =>
          try simp only [Act.put, List.setIfInBounds_toArray, List.set_cons_zero, List.set_cons_succ, List.getElem_toArray, List.getElem_cons_zero, List.getElem_cons_succ]
          refine wpAnyH_take (i := 14) (v := ?vB14) rfl (by kernel_rfl) (by kernel_rfl) (by kernel_rfl) (fun _ _ _ h => h) (Or.inl ⟨by rfl, ?yB14⟩) hSS ?rB14
          case yB14 => (intro w' f0; go_simp; try with_reducible rfl)
          case rB14 =>
          try simp only [Act.put, List.setIfInBounds_toArray, List.set_cons_zero, List.set_cons_succ, List.getElem_toArray, List.getElem_cons_zero, List.getElem_cons_succ]
          refine wpAnyH_take (i := 15) (v := ?vB15) rfl (by kernel_rfl) (by kernel_rfl) (by kernel_rfl) (fun _ _ _ h => h) (Or.inl ⟨by rfl, ?yB15⟩) hSS ?rB15
          case yB15 => (intro w' f0; go_simp; try with_reducible rfl)
          case rB15 =>
          try simp only [Act.put, List.setIfInBounds_toArray, List.set_cons_zero, List.set_cons_succ, List.getElem_toArray, List.getElem_cons_zero, List.getElem_cons_succ]
          refine wpAnyH_take (i := 16) (v := ?vB16) rfl (by kernel_rfl) (by kernel_rfl) (by kernel_rfl) (fun _ _ _ h => h) (Or.inl ⟨by rfl, ?yB16⟩) hSS ?rB16
          case yB16 => (intro w' f0; go_simp; try with_reducible rfl)
          case rB16 =>
          try simp only [Act.put, List.setIfInBounds_toArray, List.set_cons_zero, List.set_cons_succ, List.getElem_toArray, List.getElem_cons_zero, List.getElem_cons_succ]
          refine wpAnyH_take (i := 17) (v := .bool false) rfl (by kernel_rfl) (by kernel_rfl) (by kernel_rfl) (fun _ _ _ h => h) (Or.inl ⟨by rfl, ?yB17⟩) hSS ?rB17
          case yB17 => (intro w' f0; go_simp; try simp [dle, hne])
          case rB17 =>
          try simp only [Act.put, List.setIfInBounds_toArray, List.set_cons_zero, List.set_cons_succ, List.getElem_toArray, List.getElem_cons_zero, List.getElem_cons_succ]
          refine wpAnyH_take (i := 18) (v := .bool false) rfl (by kernel_rfl) (by kernel_rfl) (by kernel_rfl) (fun _ _ _ h => h) (Or.inl ⟨by rfl, ?yB18⟩) hSS ?rB18
          case yB18 => (intro w' f0; go_simp; try simp [dle, hne])
          case rB18 =>
          try simp only [Act.put, List.setIfInBounds_toArray, List.set_cons_zero, List.set_cons_succ, List.getElem_toArray, List.getElem_cons_zero, List.getElem_cons_succ]
          refine wpAnyH_done (by kernel_rfl) ?_ _
          go_wp2_with fail
          exact ⟨⟨j + 1, by omega, by go_num, HM2.out, HR.out.drew⟩, by simp [intOf]; omega⟩
      · have dle : decide ((k : Int) + (G.size : Int) ≤ (s.size : Int)) = false := decide_eq_false (by omega)
        have hp : ¬ Lib.hasPrefix ((bl s).drop k) (bl G) = true := fun h => by
          have := hp_len h
          rw [bl_len, List.length_drop, bl_len] at this
          omega
        rw [if_neg hp] at hM
        have HM2 : Hid (sgN ((bl s).drop k) (sgs.drop (j + 1)) = V) := hM
        clear hM hp HM
        go_wp2_with fail
        refine wp_region_held_drew (S := fun w' => w'.cell? ⟨bk, j, none⟩ = some (.string G)) (by kernel_rfl) (by simpa using c) (fun hSS => ?_)
        refine wpAnyH_take (i := 0) (v := ?vC0) rfl (by kernel_rfl) (by kernel_rfl) (by kernel_rfl) (fun _ _ _ h => h) (Or.inl ⟨by rfl, ?yC0⟩) hSS ?rC0
        case yC0 => (intro w' f0; go_simp; try with_reducible rfl)
        case rC0 =>
        try simp only [Act.put, List.setIfInBounds_toArray, List.set_cons_zero, List.set_cons_succ, List.getElem_toArray, List.getElem_cons_zero, List.getElem_cons_succ]
        refine wpAnyH_take (i := 1) (v := ?vC1) rfl (by kernel_rfl) (by kernel_rfl) (by kernel_rfl) (fun _ _ _ h => h) (Or.inl ⟨by rfl, ?yC1⟩) hSS ?rC1
        case yC1 => (intro w' f0; go_simp; try with_reducible rfl)
        case rC1 =>
        try simp only [Act.put, List.setIfInBounds_toArray, List.set_cons_zero, List.set_cons_succ, List.getElem_toArray, List.getElem_cons_zero, List.getElem_cons_succ]
        refine wpAnyH_take (i := 2) (v := ?vC2) rfl (by kernel_rfl) (by kernel_rfl) (by kernel_rfl) (fun _ _ _ h => h) (Or.inl ⟨by rfl, ?yC2⟩) hSS ?rC2
        case yC2 => (intro w' f0; go_simp; try with_reducible rfl)
        case rC2 =>
        try simp only [Act.put, List.setIfInBounds_toArray, List.set_cons_zero, List.set_cons_succ, List.getElem_toArray, List.getElem_cons_zero, List.getElem_cons_succ]
        refine wpAnyH_take (i := 3) (v := ?vC3) rfl (by kernel_rfl) (by kernel_rfl) (by kernel_rfl) (fun _ _ _ h => h) (Or.inl ⟨by rfl, ?yC3⟩) hSS ?rC3
        case yC3 => (intro w' f0; go_simp; try with_reducible rfl)
        case rC3 =>
        try simp only [Act.put, List.setIfInBounds_toArray, List.set_cons_zero, List.set_cons_succ, List.getElem_toArray, List.getElem_cons_zero, List.getElem_cons_succ]
        refine wpAnyH_take (i := 4) (v := ?vC4) rfl (by kernel_rfl) (by kernel_rfl) (by kernel_rfl) (fun _ _ _ h => h) (Or.inl ⟨by rfl, ?yC4⟩) hSS ?rC4
        case yC4 => (intro w' f0; go_simp; try with_reducible rfl)
        case rC4 =>
        try simp only [Act.put, List.setIfInBounds_toArray, List.set_cons_zero, List.set_cons_succ, List.getElem_toArray, List.getElem_cons_zero, List.getElem_cons_succ]
        refine wpAnyH_take (i := 5) (v := .bool false) rfl (by kernel_rfl) (by kernel_rfl) (by kernel_rfl) (fun _ _ _ h => h) (Or.inl ⟨by rfl, ?yC5⟩) hSS ?rC5
        case yC5 => (intro w' f0; go_simp; try simp [dle])
        case rC5 =>
        try simp only [Act.put, List.setIfInBounds_toArray, List.set_cons_zero, List.set_cons_succ, List.getElem_toArray, List.getElem_cons_zero, List.getElem_cons_succ]
        refine wpAnyH_take (i := 6) (v := .bool false) rfl (by kernel_rfl) (by kernel_rfl) (by kernel_rfl) (fun _ _ _ h => h) (Or.inl ⟨by rfl, ?yC6⟩) hSS ?rC6
        case yC6 => (intro w' f0; go_simp; try simp [dle])
        case rC6 =>
        try simp only [Act.put, List.setIfInBounds_toArray, List.set_cons_zero, List.set_cons_succ, List.getElem_toArray, List.getElem_cons_zero, List.getElem_cons_succ]
        refine wpAnyH_take (i := 7) (v := undef) rfl (by kernel_rfl) (by kernel_rfl) (by kernel_rfl) (fun _ _ _ h => h) (Or.inr ⟨by rfl, rfl⟩) hSS ?rC7
        case rC7 =>
        try simp only [Act.put, List.setIfInBounds_toArray, List.set_cons_zero, List.set_cons_succ, List.getElem_toArray, List.getElem_cons_zero, List.getElem_cons_succ]
        refine wpAnyH_take (i := 8) (v := undef) rfl (by kernel_rfl) (by kernel_rfl) (by kernel_rfl) (fun _ _ _ h => h) (Or.inr ⟨by rfl, rfl⟩) hSS ?rC8
        case rC8 =>
        try simp only [Act.put, List.setIfInBounds_toArray, List.set_cons_zero, List.set_cons_succ, List.getElem_toArray, List.getElem_cons_zero, List.getElem_cons_succ]
        refine wpAnyH_take (i := 9) (v := undef) rfl (by kernel_rfl) (by kernel_rfl) (by kernel_rfl) (fun _ _ _ h => h) (Or.inr ⟨by rfl, rfl⟩) hSS ?rC9
        case rC9 =>
        try simp only [Act.put, List.setIfInBounds_toArray, List.set_cons_zero, List.set_cons_succ, List.getElem_toArray, List.getElem_cons_zero, List.getElem_cons_succ]
        refine wpAnyH_take (i := 10) (v := undef) rfl (by kernel_rfl) (by kernel_rfl) (by kernel_rfl) (fun _ _ _ h => h) (Or.inr ⟨by rfl, rfl⟩) hSS ?rC10
        case rC10 =>
        try simp only [Act.put, List.setIfInBounds_toArray, List.set_cons_zero, List.set_cons_succ, List.getElem_toArray, List.getElem_cons_zero, List.getElem_cons_succ]
        refine wpAnyH_take (i := 11) (v := undef) rfl (by kernel_rfl) (by kernel_rfl) (by kernel_rfl) (fun _ _ _ h => h) (Or.inr ⟨by rfl, rfl⟩) hSS ?rC11
        case rC11 =>
        try simp only [Act.put, List.setIfInBounds_toArray, List.set_cons_zero, List.set_cons_succ, List.getElem_toArray, List.getElem_cons_zero, List.getElem_cons_succ]
        refine wpAnyH_take (i := 12) (v := undef) rfl (by kernel_rfl) (by kernel_rfl) (by kernel_rfl) (fun _ _ _ h => h) (Or.inr ⟨by rfl, rfl⟩) hSS ?rC12
        case rC12 =>
        try simp only [Act.put, List.setIfInBounds_toArray, List.set_cons_zero, List.set_cons_succ, List.getElem_toArray, List.getElem_cons_zero, List.getElem_cons_succ]
        refine wpAnyH_take (i := 13) (v := undef) rfl (by kernel_rfl) (by kernel_rfl) (by kernel_rfl) (fun _ _ _ h => h) (Or.inr ⟨by rfl, rfl⟩) hSS ?rC13
        case rC13 =>
        try simp only [Act.put, List.setIfInBounds_toArray, List.set_cons_zero, List.set_cons_succ, List.getElem_toArray, List.getElem_cons_zero, List.getElem_cons_succ]
        refine wpAnyH_take (i := 14) (v := undef) rfl (by kernel_rfl) (by kernel_rfl) (by kernel_rfl) (fun _ _ _ h => h) (Or.inr ⟨by rfl, rfl⟩) hSS ?rC14
        case rC14 =>
        try simp only [Act.put, List.setIfInBounds_toArray, List.set_cons_zero, List.set_cons_succ, List.getElem_toArray, List.getElem_cons_zero, List.getElem_cons_succ]
        refine wpAnyH_take (i := 15) (v := undef) rfl (by kernel_rfl) (by kernel_rfl) (by kernel_rfl) (fun _ _ _ h => h) (Or.inr ⟨by rfl, rfl⟩) hSS ?rC15
        case rC15 =>
        try simp only [Act.put, List.setIfInBounds_toArray, List.set_cons_zero, List.set_cons_succ, List.getElem_toArray, List.getElem_cons_zero, List.getElem_cons_succ]
        refine wpAnyH_take (i := 16) (v := undef) rfl (by kernel_rfl) (by kernel_rfl) (by kernel_rfl) (fun _ _ _ h => h) (Or.inr ⟨by rfl, rfl⟩) hSS ?rC16
        case rC16 =>
        try simp only [Act.put, List.setIfInBounds_toArray, List.set_cons_zero, List.set_cons_succ, List.getElem_toArray, List.getElem_cons_zero, List.getElem_cons_succ]
        refine wpAnyH_take (i := 17) (v := undef) rfl (by kernel_rfl) (by kernel_rfl) (by kernel_rfl) (fun _ _ _ h => h) (Or.inr ⟨by rfl, rfl⟩) hSS ?rC17
        case rC17 =>
        try simp only [Act.put, List.setIfInBounds_toArray, List.set_cons_zero, List.set_cons_succ, List.getElem_toArray, List.getElem_cons_zero, List.getElem_cons_succ]
        refine wpAnyH_take (i := 18) (v := .bool false) rfl (by kernel_rfl) (by kernel_rfl) (by kernel_rfl) (fun _ _ _ h => h) (Or.inl ⟨by rfl, ?yC18⟩) hSS ?rC18
        case yC18 => (intro w' f0; go_simp; try simp [dle])
        case rC18 =>
        try simp only [Act.put, List.setIfInBounds_toArray, List.set_cons_zero, List.set_cons_succ, List.getElem_toArray, List.getElem_cons_zero, List.getElem_cons_succ]
        refine wpAnyH_done (by kernel_rfl) ?_ _
        go_wp2_with fail
        exact ⟨⟨j + 1, by omega, by go_num, HM2.out, HR.out.drew⟩, by simp [intOf]; omega⟩
    · have dlt : decide ((j : Int) < 24) = false := decide_eq_false (by omega)
      have hV : V = 0 := by
        have := HM.out
        have hd : sgs.drop j = [] := List.drop_eq_nil_of_le (by rw [sgs_len]; omega)
        rw [hd] at this
        exact this.symm
      have HVn : Hid (V = 0) := hV
      clear hV HM
      go_wp2_with fail
      exact bodyPost_ret (v := .int .i64 0) (by simp [results, Tryz.results28, go_sem]) rfl ⟨by rw [HVn.out], HK.out.trans HR.out⟩
end Go.Proofs.YtidokamfppdnaaaGreatDoor
