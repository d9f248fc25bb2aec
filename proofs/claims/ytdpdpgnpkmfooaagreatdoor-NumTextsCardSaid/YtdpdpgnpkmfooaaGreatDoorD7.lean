/- The document's Read: bits. -/
import Derived.Test.YtdpdpgnpkmfooaaGreatDoorD6
namespace Go.Proofs.YtdpdpgnpkmfooaaGreatDoor
open Go.RowKit

/-- The boxes of a result and of a value behind a callee. -/
theorem rbox2 {w w1 : World} {x y : Value} (hb1 : Below ((w.alloc (.cells #[.int .i64 0, .int .i64 0] 23)).alloc (.cells #[x, y] 23)).heap.size ((w.alloc (.cells #[.int .i64 0, .int .i64 0] 23)).alloc (.cells #[x, y] 23)) w1) :
    w1.cell? ⟨w.heap.size, 0, none⟩ = some (.int .i64 0) ∧ w1.cell? ⟨w.heap.size, 1, none⟩ = some (.int .i64 0) ∧ w1.cell? ⟨w.heap.size + 1, 0, none⟩ = some x ∧ w1.cell? ⟨w.heap.size + 1, 1, none⟩ = some y ∧ w1.frozen? ⟨w.heap.size, 0, none⟩ = false ∧ w1.frozen? ⟨w.heap.size, 1, none⟩ = false ∧ w.heap.size < w1.heap.size ∧ Hid (Below w.heap.size w w1) := by
  have hz := hb1.size
  simp at hz
  refine ⟨cell_later hb1 (alC _ (new0 _ _ _)), cell_later hb1 (alC _ (new1 _ _ _)), ?_, ?_, fro_later hb1 ?_ (by simp; omega), fro_later hb1 ?_ (by simp; omega), by omega, end2 hb1⟩
  · have h := cell_later hb1 (new0 (w.alloc (.cells #[.int .i64 0, .int .i64 0] 23)) x y)
    rwa [show (w.alloc (.cells #[.int .i64 0, .int .i64 0] 23)).heap.size = w.heap.size + 1 by simp] at h
  · have h := cell_later hb1 (new1 (w.alloc (.cells #[.int .i64 0, .int .i64 0] 23)) x y)
    rwa [show (w.alloc (.cells #[.int .i64 0, .int .i64 0] 23)).heap.size = w.heap.size + 1 by simp] at h
  · simp [go_sem]
  · simp [go_sem]

set_option maxHeartbeats 2000000 in
theorem RRead_bits (s : ByteArray) (w : World) (h18 : (s.size : Int) = 18) (hex : ((s.extract 0 2).toList == [48, 102]) = true) :
    Calls Tryz.prog 35 #[.string s] w fun e w' => e = .returned (bitsT (s.extract 2 s.size)) ∧ Below w.heap.size w w' := by
  have hX : (s.extract 2 s.size).size = 16 := by rw [ByteArray.size_extract]; omega
  have CX : Hid (∀ w, Calls Tryz.prog 59 #[.string (s.extract 2 s.size)] w fun e w' => e = .returned (hexR (s.extract 2 s.size)) ∧ w' = w) := fun w => RHex_any _ w hX
  obtain ⟨X, HX⟩ : ∃ X, Hid (X = s.extract 2 s.size) := ⟨_, rfl⟩
  rw [← HX.out] at hX CX ⊢
  cases ha : allB X hexd
  · have HT : Hid (bitsT X = .tuple #[AV 0 0, .int .i64 6]) := by show _ = _; unfold bitsT; rw [if_neg]; rintro ⟨_, h, _⟩; rw [ha] at h; cases h
    have HE : hexR X = .tuple #[.int .u64 0, .bool false] := by unfold hexR; rw [ha]; rfl
    rw [HE] at CX
    clear HE
    go_enter Tryz.func35, Tryz.ntmps35
    go_wp2_with fail
    rw [← HX.out]
    refine (CX.out _).mono ?_
    rintro e w' ⟨rfl, rfl⟩
    go_wp2
    refine bodyPost_ret (v := .tuple #[AV 0 0, .int .i64 6]) (by simp [results, Tryz.results35, go_sem]) rfl ⟨by rw [HT.out], ?_⟩
    exact ((Below.refl _ _).alloc (Nat.le_refl _) _).alloc (by simp) _
  · have HE : hexR X = .tuple #[.int .u64 (hexV X.data.toList), .bool true] := by unfold hexR; rw [ha]; rfl
    rw [HE] at CX
    clear HE
    obtain ⟨V, hV⟩ : ∃ V : Nat, V = hexV X.data.toList := ⟨_, rfl⟩
    have hVl : V < 18446744073709551616 := by
      have h := hexV_lt _ (allB_hex X ha)
      rw [← Lib.size_eq, hX] at h
      rw [hV]; exact h
    obtain ⟨M, hM⟩ : ∃ M : Int, M = wrap64 (V : Int) := ⟨_, rfl⟩
    rw [← hV] at CX
    have hcv : IntKind.i64.wrap (V : Int) = M := by rw [hM]; unfold wrap64; rw [IntKind.wrap_i64]
    cases hi : isNum 3 M
    · have HT : Hid (bitsT X = .tuple #[AV 0 0, .int .i64 6]) := by
        show _ = _; unfold bitsT; rw [if_neg]; rintro ⟨_, _, h⟩; rw [← hV, ← hM, hi] at h; cases h
      have IS : Hid (∀ w, Calls Tryz.prog 14 #[AV 3 M] w fun e w' => e = .returned (.bool false) ∧ Below w.heap.size w w') := fun w => by
        have h := RIs_any 3 M w; rw [hi] at h; exact h
      clear hM hV hi ha
      go_enter Tryz.func35, Tryz.ntmps35
      go_wp2_with fail
      rw [← HX.out]
      refine (CX.out _).mono ?_
      rintro e w' ⟨rfl, rfl⟩
      go_wp2_with fail
      refine (IS.out _).mono ?_
      rintro e w3 ⟨rfl, hb3⟩
      obtain ⟨k5, k6, a5, a6, l5, l6, z1, HB⟩ := rbox2 hb3
      clear hb3
      go_wp2
      refine bodyPost_ret (v := .tuple #[AV 0 0, .int .i64 6]) (by simp [results, Tryz.results35, go_sem, k5, k6]) rfl ⟨by rw [HT.out], ?_⟩
      exact (HB.out.setCell (by simp) _).setCell (by simp) _
    · have HT : Hid (bitsT X = .tuple #[AV 3 M, .int .i64 0]) := by
        show _ = _; unfold bitsT; rw [if_pos ⟨hX, ha, by rw [← hV, ← hM]; exact hi⟩, ← hV, ← hM]
      have IS : Hid (∀ w, Calls Tryz.prog 14 #[AV 3 M] w fun e w' => e = .returned (.bool true) ∧ Below w.heap.size w w') := fun w => by
        have h := RIs_any 3 M w; rw [hi] at h; exact h
      clear hM hV hi ha
      go_enter Tryz.func35, Tryz.ntmps35
      go_wp2_with fail
      rw [← HX.out]
      refine (CX.out _).mono ?_
      rintro e w' ⟨rfl, rfl⟩
      go_wp2_with fail
      refine (IS.out _).mono ?_
      rintro e w3 ⟨rfl, hb3⟩
      obtain ⟨k5, k6, a5, a6, l5, l6, z1, HB⟩ := rbox2 hb3
      clear hb3
      go_wp2
      refine bodyPost_ret (v := .tuple #[AV 3 M, .int .i64 0]) (by simp [results, Tryz.results35, go_sem, k5, k6]) rfl ⟨by rw [HT.out], ?_⟩
      exact (HB.out.setCell (by simp) _).setCell (by simp) _
end Go.Proofs.YtdpdpgnpkmfooaaGreatDoor
