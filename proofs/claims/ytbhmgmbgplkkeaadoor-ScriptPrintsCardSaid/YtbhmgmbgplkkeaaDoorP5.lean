/- A point line. -/
import Derived.Test.YtbhmgmbgplkkeaaDoorP4
namespace Go.Proofs.YtbhmgmbgplkkeaaDoor
open Go.RowKit
set_option linter.unusedSimpArgs false
set_option linter.unusedVariables false

set_option maxRecDepth 20000 in
set_option maxHeartbeats 4000000 in
theorem pointsOf_none (s : ByteArray) (hs : s.size ≤ 100000) (w : World) (hm : MaxIs w) (hr : RowsIs w) (hcut : cutO bx (bl s) = none) :
    Calls Tryd.prog 61 #[.string s] w fun e w' => (∃ (p : V) (n : Nat), e = .returned (.tuple #[AV p, .int .i64 (n : Int), .bool (lineF (bl s)).isSome]) ∧ (∀ q, lineF (bl s) = some q → q = (p, n))) ∧ Kept No w w' := by
  obtain ⟨W, HW⟩ : ∃ W, Hid (W = w.alloc (.cells #[.int .i64 0, .int .i64 0] 45)) := ⟨_, rfl⟩
  have HK : Hid (Kept No w W) := by show Kept _ _ _; rw [HW.out]; exact (Kept.refl No w).alloc _
  obtain ⟨R, HR⟩ : ∃ R, Hid (w.heap.size = R) := ⟨_, rfl⟩
  have HB2 : Hid (W.heap[R]? = some (.cells #[.int .i64 0, .int .i64 0] 45 (0, 0))) := by show _ = _; rw [HW.out, ← HR.out]; exact World.alloc_heap_new w _
  have HRs : Hid (w.heap.size ≤ R) := by rw [HR.out]; exact Nat.le_refl _
  have HCt : Hid _ := Cut_any s ⟨#[32, 120]⟩ (by omega) (by decide) W (hm.no HK.out)
  rw [show bl (⟨#[32, 120]⟩ : ByteArray) = bx from rfl, hcut] at HCt
  rw [show cA (bl s) none = s from mk_bl s] at HCt
  have HPt : Hid (∀ X, Kept No w X → Calls Tryd.prog 73 #[.string s] X fun e w' => e = .returned (.tuple #[AV ((ptP (bl s)).getD (0, 0)), .bool (ptP (bl s)).isSome]) ∧ Kept No X w') := fun X hX => pointOf_any s hs X (hm.no hX) (hr.no hX)
  have HLn : Hid (lineF (bl s) = (ptP (bl s)).map fun p => (p, 1)) := by show _ = _; unfold lineF; rw [hcut]
  clear hm hr hcut
  generalize ptP (bl s) = X at HPt HLn
  go_enter Tryd.func61, Tryd.ntmps61
  go_wp2_with fail
  rw [← HW.out, HR.out]
  refine Calls.mono HCt.out ?_
  rintro e w1 ⟨rfl, hk1⟩
  have HK1 : Hid (Kept No w w1) := HK.out.trans hk1
  have hkW : Hid (Kept No W w1) := hk1
  clear hk1 HCt
  have HKW2 : Hid (Kept No W w1) := hkW.out
  go_wp2_with fail
  refine Calls.mono (HPt.out _ HK1.out) ?_
  rintro e w3 ⟨rfl, hk3⟩
  have HK3 : Hid (Kept No w w3) := HK1.out.trans hk3
  have hkW3 : Hid (Kept No W w3) := HKW2.out.trans hk3
  clear hk3 HPt
  have HRx : Hid (w3.heap[R]? = some (.cells #[.int .i64 0, .int .i64 0] 45 (0, 0))) := hkW3.out.heap HB2.out id
  have z0 : w3.cell? ⟨R, 0, none⟩ = some (.int .i64 0) := by rw [cell_of HRx.out]; rfl
  have z1 : w3.cell? ⟨R, 1, none⟩ = some (.int .i64 0) := by rw [cell_of HRx.out]; rfl
  have zf : ∀ o, w3.frozen? ⟨R, o, none⟩ = false := fun o => Lib.frozen_of_heap HRx.out o
  have zl : R < w3.heap.size := hp_lt HRx.out
  have HF1 : Hid (∀ a b, Kept No w ((w3.setCell ⟨R, 0, none⟩ a).setCell ⟨R, 1, none⟩ b)) := fun a b => ((HK3.out.set _ _ _ (.inr HRs.out)).set _ _ _ (.inr HRs.out))
  have HF2 : Hid (∀ a b o, Kept No w (((w3.setCell ⟨R, 0, none⟩ a).setCell ⟨R, 1, none⟩ b).alloc o)) := fun a b o => (HF1.out a b).alloc o
  obtain ⟨p, HP⟩ : ∃ p : V, Hid (X.getD (0, 0) = p) := ⟨_, rfl⟩
  rw [HP.out]
  have HL : Hid (∀ q, lineF (bl s) = some q → q = (p, 1)) := fun q hq => by
    rw [HLn.out] at hq
    obtain ⟨p', h1, h2⟩ := Option.map_eq_some_iff.1 hq
    rw [← h2, ← HP.out, h1]; rfl
  have HI : Hid ((lineF (bl s)).isSome = X.isSome) := by show _ = _; rw [HLn.out]; cases X <;> rfl
  clear HP HLn
  obtain ⟨p1, p2⟩ := p
  go_wp2_with fail
  refine bodyPost_ret (v := .tuple #[.agg #[.int .i64 p1, .int .i64 p2], .int .i64 ((1 : Nat) : Int), .bool X.isSome]) (by simp [results, Tryd.results61, go_sem, cell_alloc_old, size_set, zl, z0, z1]) rfl ⟨⟨(p1, p2), 1, by rw [HI.out], HL.out⟩, HF2.out _ _ _⟩
set_option maxRecDepth 20000 in
set_option maxHeartbeats 4000000 in
theorem pointsOf_some (s : ByteArray) (hs : s.size ≤ 100000) (w : World) (hm : MaxIs w) (hr : RowsIs w) (told t : List UInt8) (hcut : cutO bx (bl s) = some (told, t)) :
    Calls Tryd.prog 61 #[.string s] w fun e w' => (∃ (p : V) (n : Nat), e = .returned (.tuple #[AV p, .int .i64 (n : Int), .bool (lineF (bl s)).isSome]) ∧ (∀ q, lineF (bl s) = some q → q = (p, n))) ∧ Kept No w w' := by
  obtain ⟨W, HW⟩ : ∃ W, Hid (W = w.alloc (.cells #[.int .i64 0, .int .i64 0] 45)) := ⟨_, rfl⟩
  have HK : Hid (Kept No w W) := by show Kept _ _ _; rw [HW.out]; exact (Kept.refl No w).alloc _
  obtain ⟨R, HR⟩ : ∃ R, Hid (w.heap.size = R) := ⟨_, rfl⟩
  have HB2 : Hid (W.heap[R]? = some (.cells #[.int .i64 0, .int .i64 0] 45 (0, 0))) := by show _ = _; rw [HW.out, ← HR.out]; exact World.alloc_heap_new w _
  have HRs : Hid (w.heap.size ≤ R) := by rw [HR.out]; exact Nat.le_refl _
  have HCt : Hid _ := Cut_any s ⟨#[32, 120]⟩ (by omega) (by decide) W (hm.no HK.out)
  rw [show bl (⟨#[32, 120]⟩ : ByteArray) = bx from rfl, hcut] at HCt
  rw [show cA (bl s) (some (told, t)) = mk told from rfl, show cB (some (told, t)) = mk t from rfl] at HCt
  have hlen : told.length ≤ (bl s).length ∧ t.length ≤ (bl s).length := by
    rcases index_cutO bx (by decide) (bl s) with ⟨_, h2⟩ | ⟨i, _, h2⟩
    · rw [hcut] at h2; cases h2
    · rw [hcut] at h2
      injection h2 with h2
      injection h2 with h3 h4
      rw [h3, h4, List.length_take, List.length_drop]; omega
  rw [bl_len] at hlen
  have HPt : Hid (∀ X, Kept No w X → Calls Tryd.prog 73 #[.string (mk told)] X fun e w' => e = .returned (.tuple #[AV ((ptP told).getD (0, 0)), .bool (ptP told).isSome]) ∧ Kept No X w') := fun X hX => by
    have := pointOf_any (mk told) (by rw [mk_size]; omega) X (hm.no hX) (hr.no hX)
    rwa [bl_mk] at this
  have HN : Hid (∀ X, Calls Tryd.prog 52 #[.string (mk t)] X fun e w' => e = .returned (.tuple #[.int .i64 (optI (numP t)), .bool (numP t).isSome]) ∧ Kept No X w') := fun X => by
    have := number_any (mk t) (by rw [mk_size]; omega) X
    rwa [bl_mk] at this
  have HLn : Hid (lineF (bl s) = match numP t with | some n => if n < 2 then none else (ptP told).map fun p => (p, n) | none => none) := by show _ = _; unfold lineF; rw [hcut]; simp only []; cases numP t <;> rfl
  clear hm hr hcut hlen
  generalize ptP told = X at HPt HLn
  go_enter Tryd.func61, Tryd.ntmps61
  go_wp2_with fail
  rw [← HW.out, HR.out]
  refine Calls.mono HCt.out ?_
  rintro e w1 ⟨rfl, hk1⟩
  have HK1 : Hid (Kept No w w1) := HK.out.trans hk1
  have hkW : Hid (Kept No W w1) := hk1
  clear hk1 HCt
  go_wp2_with fail
  refine Calls.mono (HN.out w1) ?_
  rintro e w2 ⟨rfl, hk2⟩
  have HK2 : Hid (Kept No w w2) := HK1.out.trans hk2
  have HKW2 : Hid (Kept No W w2) := hkW.out.trans hk2
  clear hk2 HN
  cases hnum : numP t with
  | none =>
    rw [hnum] at HLn
    have HLn : Hid (lineF (bl s) = none) := HLn.out
    rw [show optI none = 0 from rfl]
    clear hnum HPt
    have HRx : Hid (w2.heap[R]? = some (.cells #[.int .i64 0, .int .i64 0] 45 (0, 0))) := HKW2.out.heap HB2.out id
    have z0 : w2.cell? ⟨R, 0, none⟩ = some (.int .i64 0) := by rw [cell_of HRx.out]; rfl
    have z1 : w2.cell? ⟨R, 1, none⟩ = some (.int .i64 0) := by rw [cell_of HRx.out]; rfl
    have zf : ∀ o, w2.frozen? ⟨R, o, none⟩ = false := fun o => Lib.frozen_of_heap HRx.out o
    have zl : R < w2.heap.size := hp_lt HRx.out
    have HF1 : Hid (∀ a b, Kept No w ((w2.setCell ⟨R, 0, none⟩ a).setCell ⟨R, 1, none⟩ b)) := fun a b => ((HK2.out.set _ _ _ (.inr HRs.out)).set _ _ _ (.inr HRs.out))
    have HF2 : Hid (∀ a b o, Kept No w (((w2.setCell ⟨R, 0, none⟩ a).setCell ⟨R, 1, none⟩ b).alloc o)) := fun a b o => (HF1.out a b).alloc o
    go_wp2_with fail
    refine bodyPost_ret (v := .tuple #[.agg #[.int .i64 0, .int .i64 0], .int .i64 0, .bool false]) (by simp [results, Tryd.results61, go_sem, cell_alloc_old, size_set, zl, z0, z1]) rfl ⟨⟨(0, 0), 0, by rw [HLn.out]; rfl, fun q hq => by rw [HLn.out] at hq; cases hq⟩, HF1.out _ _⟩
  | some n =>
    have hn9 := numP_lt t n hnum
    rw [hnum] at HLn
    rw [show optI (some n) = (n : Int) from rfl]
    clear hnum
    by_cases h2 : n < 2
    · have i2 : (n : Int) < 2 := by omega
      have HLn : Hid (lineF (bl s) = none) := by show _ = _; rw [HLn.out]; exact if_pos h2
      clear HPt
      have HRx : Hid (w2.heap[R]? = some (.cells #[.int .i64 0, .int .i64 0] 45 (0, 0))) := HKW2.out.heap HB2.out id
      have z0 : w2.cell? ⟨R, 0, none⟩ = some (.int .i64 0) := by rw [cell_of HRx.out]; rfl
      have z1 : w2.cell? ⟨R, 1, none⟩ = some (.int .i64 0) := by rw [cell_of HRx.out]; rfl
      have zf : ∀ o, w2.frozen? ⟨R, o, none⟩ = false := fun o => Lib.frozen_of_heap HRx.out o
      have zl : R < w2.heap.size := hp_lt HRx.out
      have HF1 : Hid (∀ a b, Kept No w ((w2.setCell ⟨R, 0, none⟩ a).setCell ⟨R, 1, none⟩ b)) := fun a b => ((HK2.out.set _ _ _ (.inr HRs.out)).set _ _ _ (.inr HRs.out))
      have HF2 : Hid (∀ a b o, Kept No w (((w2.setCell ⟨R, 0, none⟩ a).setCell ⟨R, 1, none⟩ b).alloc o)) := fun a b o => (HF1.out a b).alloc o
      go_wp2_with fail
      refine bodyPost_ret (v := .tuple #[.agg #[.int .i64 0, .int .i64 0], .int .i64 0, .bool false]) (by simp [results, Tryd.results61, go_sem, cell_alloc_old, size_set, zl, z0, z1]) rfl ⟨⟨(0, 0), 0, by rw [HLn.out]; rfl, fun q hq => by rw [HLn.out] at hq; cases hq⟩, HF1.out _ _⟩
    · have i2 : ¬ (n : Int) < 2 := by omega
      have HLn : Hid (lineF (bl s) = X.map fun p => (p, n)) := by show _ = _; rw [HLn.out]; exact if_neg h2
      go_wp2_with fail
      refine Calls.mono (HPt.out _ HK2.out) ?_
      rintro e w3 ⟨rfl, hk3⟩
      have HK3 : Hid (Kept No w w3) := HK2.out.trans hk3
      have hkW3 : Hid (Kept No W w3) := HKW2.out.trans hk3
      clear hk3 HPt
      have HRx : Hid (w3.heap[R]? = some (.cells #[.int .i64 0, .int .i64 0] 45 (0, 0))) := hkW3.out.heap HB2.out id
      have z0 : w3.cell? ⟨R, 0, none⟩ = some (.int .i64 0) := by rw [cell_of HRx.out]; rfl
      have z1 : w3.cell? ⟨R, 1, none⟩ = some (.int .i64 0) := by rw [cell_of HRx.out]; rfl
      have zf : ∀ o, w3.frozen? ⟨R, o, none⟩ = false := fun o => Lib.frozen_of_heap HRx.out o
      have zl : R < w3.heap.size := hp_lt HRx.out
      have HF1 : Hid (∀ a b, Kept No w ((w3.setCell ⟨R, 0, none⟩ a).setCell ⟨R, 1, none⟩ b)) := fun a b => ((HK3.out.set _ _ _ (.inr HRs.out)).set _ _ _ (.inr HRs.out))
      have HF2 : Hid (∀ a b o, Kept No w (((w3.setCell ⟨R, 0, none⟩ a).setCell ⟨R, 1, none⟩ b).alloc o)) := fun a b o => (HF1.out a b).alloc o
      obtain ⟨p, HP⟩ : ∃ p : V, Hid (X.getD (0, 0) = p) := ⟨_, rfl⟩
      rw [HP.out]
      have HL : Hid (∀ q, lineF (bl s) = some q → q = (p, n)) := fun q hq => by
        rw [HLn.out] at hq
        obtain ⟨p', h1, h2⟩ := Option.map_eq_some_iff.1 hq
        rw [← h2, ← HP.out, h1]; rfl
      have HI : Hid ((lineF (bl s)).isSome = X.isSome) := by show _ = _; rw [HLn.out]; cases X <;> rfl
      clear HP HLn
      obtain ⟨p1, p2⟩ := p
      go_wp2_with fail
      refine bodyPost_ret (v := .tuple #[.agg #[.int .i64 p1, .int .i64 p2], .int .i64 ((n : Nat) : Int), .bool X.isSome]) (by simp [results, Tryd.results61, go_sem, cell_alloc_old, size_set, zl, z0, z1]) rfl ⟨⟨(p1, p2), n, by rw [HI.out], HL.out⟩, HF2.out _ _ _⟩
theorem pointsOf_any (s : ByteArray) (hs : s.size ≤ 100000) (w : World) (hm : MaxIs w) (hr : RowsIs w) :
    Calls Tryd.prog 61 #[.string s] w fun e w' => (∃ (p : V) (n : Nat), e = .returned (.tuple #[AV p, .int .i64 (n : Int), .bool (lineF (bl s)).isSome]) ∧ (∀ q, lineF (bl s) = some q → q = (p, n))) ∧ Kept No w w' := by
  cases h : cutO bx (bl s) with
  | none => exact pointsOf_none s hs w hm hr h
  | some p => exact pointsOf_some s hs w hm hr p.1 p.2 h
end Go.Proofs.YtbhmgmbgplkkeaaDoor
