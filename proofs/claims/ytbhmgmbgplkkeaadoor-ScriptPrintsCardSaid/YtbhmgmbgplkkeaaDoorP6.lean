/- A point line, as the document reads it. -/
import Derived.Test.YtbhmgmbgplkkeaaDoorP5
namespace Go.Proofs.YtbhmgmbgplkkeaaDoor
open Go.RowKit
set_option linter.unusedSimpArgs false
set_option linter.unusedVariables false

theorem quiet_same {P : Program} {f : FuncId} {args : Array Value} {w : World} {n : Nat} {v : Value}
    (h : Calls P f args (w.drewN n) fun e w' => e = .returned v ∧ w.drewN n = w') : Calls P f args (w.drewN n) fun e w'' => e = .returned v ∧ ∃ m, w'' = w.drewN m :=
  h.mono fun _ _ ⟨he, hm⟩ => ⟨he, n, hm.symm⟩

abbrev wordsB : Array Value := #[.string ⟨#[110, 111, 110, 101]⟩, .string ⟨#[115, 116, 101, 112]⟩, .string ⟨#[121, 111, 117, 110, 103]⟩, .string ⟨#[109, 97, 106, 111, 114]⟩, .string ⟨#[109, 111, 100, 101]⟩, .string ⟨#[99, 111, 109, 112, 97, 99, 116]⟩]
theorem Rwords_any (w : World) : Calls Tryd.prog 34 #[] w fun r w' => r = .returned (.slice (some ⟨w.heap.size, 0, none⟩) 6 6) ∧ w' = w.alloc (.cells wordsB 9) := by
  go_enter Tryd.func34, Tryd.ntmps34
  go_wp2
  go_ret
  exact ⟨rfl, rfl⟩

/-- What Line tells. -/
def LinePost (l : List UInt8) (v : Value) : Prop := ∃ (p : V) (n : Nat), v = .tuple #[AV p, .int .i64 (n : Int)] ∧ (lineF l = none → n = 0) ∧ (∀ q, lineF l = some q → q = (p, n))
theorem LinePost.ok {l : List UInt8} {a b : Int} {n : Nat} (h : lineF l = some ((a, b), n)) : LinePost l (.tuple #[.agg #[.int .i64 a, .int .i64 b], .int .i64 (n : Int)]) :=
  ⟨(a, b), n, rfl, fun e => (by rw [h] at e; cases e), fun q e => (by rw [h] at e; injection e with e; exact e.symm)⟩
theorem LinePost.no {l : List UInt8} (a b : Int) (h : lineF l = none) : LinePost l (.tuple #[.agg #[.int .i64 a, .int .i64 b], .int .i64 0]) :=
  ⟨(a, b), 0, rfl, fun _ => rfl, fun q e => (by rw [h] at e; cases e)⟩
/-- A text is known by its first byte and the rest. -/
theorem xP_bad (l : List UInt8) (h : l.length < 2) : xP l = none := by
  match l, h with
  | [], _ => rfl
  | [c], _ =>
    have e : xtail [c] = if c = 120 then some [] else none := rfl
    unfold xP
    rw [e]
    by_cases hc : c = 120
    · rw [if_pos hc]; rfl
    · rw [if_neg hc]
theorem xtail_cons (c : UInt8) (m : List UInt8) : xtail (c :: m) = if c = 120 then some m else none := rfl
theorem xP_no (c : UInt8) (m : List UInt8) (h : c ≠ 120) : xP (c :: m) = none := by unfold xP; rw [xtail_cons, if_neg h]
theorem xP_yes (c : UInt8) (m : List UInt8) (h : c = 120) : xP (c :: m) = match numP m with | some n => if n < 2 then none else some n | none => none := by
  unfold xP
  rw [xtail_cons, if_pos h]
  simp only []
  cases numP m <;> rfl

set_option maxRecDepth 20000 in
set_option maxHeartbeats 8000000 in
theorem RLine_none (s : ByteArray) (hs : s.size ≤ 100000) (w : World) (wd : List UInt8) (hwd : wd = bl s) (hcut : cutO [32] (bl s) = none) :
    Calls Tryd.prog 25 #[.string s] w fun e w' => (∃ v, e = .returned v ∧ LinePost (bl s) v ∧ Kept No w w') := by
  have HRC : Hid (∀ X, Calls Tryd.prog 23 #[.string s, .int .u8 32] X fun e w' => e = .returned (.tuple #[.string (mk wd), .string (mk []), .bool false]) ∧ Kept No X w') := fun X => by
    have := RCut_any s 32 (by omega) X
    rw [hcut] at this
    rw [show cA (bl s) none = mk wd from by rw [hwd]; rfl] at this
    exact this
  have HLD : Hid (lineF (bl s) = match rowW wd with | none => none | some r => if r.num = true then none else some ((r.kind, 0), 1)) := by
    show _ = _
    rw [line_same]; unfold lineD; simp only [hcut]; rw [hwd]
    cases rowW (bl s) <;> rfl
  clear hcut hwd
  obtain ⟨W, HW⟩ : ∃ W, Hid (W = (w.alloc (.cells #[.int .i64 0, .int .i64 0] 45)).alloc (.cells wordsB 9)) := ⟨_, rfl⟩
  have HK : Hid (Kept No w W) := by show Kept _ _ _; rw [HW.out]; exact ((Kept.refl No w).alloc _).alloc _
  obtain ⟨R, HR⟩ : ∃ R, Hid (w.heap.size = R) := ⟨_, rfl⟩
  have HB2 : Hid (W.heap[R]? = some (.cells #[.int .i64 0, .int .i64 0] 45 (0, 0))) := by show _ = _; rw [HW.out, ← HR.out]; exact (Below.heap_alloc _ _ _ (by simp)).trans (World.alloc_heap_new w _)
  have HB9 : Hid (W.heap[R + 1]? = some (.cells wordsB 9 (0, 0))) := by
    show _ = _
    rw [HW.out, ← HR.out]
    have := World.alloc_heap_new (w.alloc (.cells #[.int .i64 0, .int .i64 0] 45)) (.cells wordsB 9)
    rwa [World.size_alloc] at this
  have HRs : Hid (w.heap.size ≤ R) := by rw [HR.out]; exact Nat.le_refl _
  go_enter Tryd.func25, Tryd.ntmps25
  go_wp2_with fail
  refine Calls.mono (Rwords_any _) ?_
  rintro e w0 ⟨rfl, rfl⟩
  rw [World.size_alloc, HR.out, ← HW.out]
  go_wp2_with fail
  refine Calls.mono (HRC.out W) ?_
  rintro e w1 ⟨rfl, hk1⟩
  have HK1 : Hid (Kept No W w1) := hk1
  clear hk1 HRC
  obtain ⟨wz, hwz⟩ : ∃ wz, wz = w1 := ⟨_, rfl⟩
  subst hwz
  go_wp2_with fail
  go_loopw [6, 7, 8] (fun v6 v7 v8 wr => ∃ j : Nat, j ≤ 6 ∧ v8 = .int .i64 j ∧ v7 = .bool false ∧ v6 = .string (mk []) ∧ Hid ((rowsL.drop j).find? (fun r => r.word == wd) = rowW wd ∧ Kept No W wr)) (fun _ _ v8 _ => 6 - (intOf v8).toNat)
  case atStart => exact ⟨0, by omega, rfl, rfl, rfl, rfl, HK1.out⟩
  case round =>
    clear HK1
    obtain ⟨j, hj, rfl, rfl, rfl, HJ⟩ := hrel
    have HRx : Hid (wr.heap[R]? = some (.cells #[.int .i64 0, .int .i64 0] 45 (0, 0))) := HJ.out.2.heap HB2.out id
    have H9x : Hid (wr.heap[R + 1]? = some (.cells wordsB 9 (0, 0))) := HJ.out.2.heap HB9.out id
    have HKr : Hid (Kept No w wr) := HK.out.trans HJ.out.2
    have hcases : j = 0 ∨ j = 1 ∨ j = 2 ∨ j = 3 ∨ j = 4 ∨ j = 5 ∨ j = 6 := by omega
    rcases hcases with rfl | rfl | rfl | rfl | rfl | rfl | rfl
    · have c9 : wr.cell? ⟨R + 1, 0, none⟩ = some (.string ⟨#[110, 111, 110, 101]⟩) := by rw [cell_of H9x.out]; rfl
      by_cases hw : wd = [110, 111, 110, 101]
      · have hcm1 : (([110, 111, 110, 101] : List UInt8) == wd) = true := by rw [hw]; decide
        have hrw : rowW wd = some ⟨0, [110, 111, 110, 101], false, 0⟩ := by rw [hw]; rfl
        have HL := HLD
        rw [hrw] at HL
        clear hw hrw HLD HJ
        obtain ⟨W5, HW5⟩ : ∃ W5, Hid (W5 = wr.alloc (.cells #[.int .i64 0, .int .i64 0] 45)) := ⟨_, rfl⟩
        have HK5 : Hid (Kept No wr W5) := by show Kept _ _ _; rw [HW5.out]; exact (Kept.refl No wr).alloc _
        have HB5 : Hid (W5.heap[wr.heap.size]? = some (.cells #[.int .i64 0, .int .i64 0] 45 (0, 0))) := by show _ = _; rw [HW5.out]; exact World.alloc_heap_new wr _
        have HR5 : Hid (W5.heap[R]? = some (.cells #[.int .i64 0, .int .i64 0] 45 (0, 0))) := HK5.out.heap HRx.out id
        have HKw : Hid (Kept No w W5) := HKr.out.trans HK5.out
        obtain ⟨B, hB⟩ : ∃ B, B = wr.heap.size := ⟨_, rfl⟩
        have HBl : Hid (R < B ∧ w.heap.size ≤ B) := ⟨by rw [hB]; exact hp_lt HRx.out, by rw [hB]; exact HKr.out.size⟩
        rw [← hB] at HB5
        have z0 : wr.cell? ⟨R, 0, none⟩ = some (.int .i64 0) := by rw [cell_of HRx.out]; rfl
        have z1 : wr.cell? ⟨R, 1, none⟩ = some (.int .i64 0) := by rw [cell_of HRx.out]; rfl
        have zf : ∀ o, wr.frozen? ⟨R, o, none⟩ = false := fun o => Lib.frozen_of_heap HRx.out o
        have zl : R < wr.heap.size := hp_lt HRx.out
        have HF : Hid (∀ a b o, Kept No w (((wr.setCell ⟨R, 0, none⟩ a).setCell ⟨R, 1, none⟩ b).alloc o)) := fun a b o => ((HKr.out.set _ _ _ (.inr HRs.out)).set _ _ _ (.inr HRs.out)).alloc o
        have KX : Hid (∀ o, Kept No w (wr.alloc o)) := fun o => HKr.out.alloc o
        have RX : Hid (∀ o, (wr.alloc o).heap[R]? = some (.cells #[.int .i64 0, .int .i64 0] 45 (0, 0))) := fun o => (Below.heap_alloc _ _ _ (hp_lt HRx.out)).trans HRx.out
        clear HB5 HK5 HR5 H9x HB2 HB9 HKw HW5 hB HBl
        replace HL : Hid (lineF (bl s) = some ((0, 0), 1)) := HL.out
        go_wp2_with fail
        refine bodyPost_ret (v := .tuple #[.agg #[.int .i64 (0), .int .i64 (0)], .int .i64 (1)]) (by simp [results, Tryd.results25, go_sem, cell_alloc_old, size_set, zl, z0, z1]) rfl ⟨_, rfl, LinePost.ok HL.out, HF.out _ _ _⟩
      · have hcm1 : (([110, 111, 110, 101] : List UInt8) == wd) = false := by rw [beq_eq_false_iff_ne]; exact fun e => hw e.symm
        have HJ2 : Hid ((rowsL.drop 1).find? (fun r => r.word == wd) = rowW wd ∧ Kept No W wr) := by
          refine ⟨?_, HJ.out.2⟩
          rw [← HJ.out.1, rows_drop 0 (by decide), List.find?_cons]
          have : ((rowsL.getD 0 r0).word == wd) = false := hcm1
          rw [this]
        clear HJ
        go_wp2
        go_roundw
        case rel => exact ⟨1, by decide, by first | rfl | go_num, rfl, rfl, HJ2⟩
        case measure => simp [intOf] <;> omega
    · have c9 : wr.cell? ⟨R + 1, 1, none⟩ = some (.string ⟨#[115, 116, 101, 112]⟩) := by rw [cell_of H9x.out]; rfl
      by_cases hw : wd = [115, 116, 101, 112]
      · have hcm1 : (([115, 116, 101, 112] : List UInt8) == wd) = true := by rw [hw]; decide
        have hrw : rowW wd = some ⟨1, [115, 116, 101, 112], true, 999999999⟩ := by rw [hw]; rfl
        have HL := HLD
        rw [hrw] at HL
        clear hw hrw HLD HJ
        obtain ⟨W5, HW5⟩ : ∃ W5, Hid (W5 = wr.alloc (.cells #[.int .i64 1, .int .i64 0] 45)) := ⟨_, rfl⟩
        have HK5 : Hid (Kept No wr W5) := by show Kept _ _ _; rw [HW5.out]; exact (Kept.refl No wr).alloc _
        have HB5 : Hid (W5.heap[wr.heap.size]? = some (.cells #[.int .i64 1, .int .i64 0] 45 (0, 0))) := by show _ = _; rw [HW5.out]; exact World.alloc_heap_new wr _
        have HR5 : Hid (W5.heap[R]? = some (.cells #[.int .i64 0, .int .i64 0] 45 (0, 0))) := HK5.out.heap HRx.out id
        have HKw : Hid (Kept No w W5) := HKr.out.trans HK5.out
        obtain ⟨B, hB⟩ : ∃ B, B = wr.heap.size := ⟨_, rfl⟩
        have HBl : Hid (R < B ∧ w.heap.size ≤ B) := ⟨by rw [hB]; exact hp_lt HRx.out, by rw [hB]; exact HKr.out.size⟩
        rw [← hB] at HB5
        have z0 : wr.cell? ⟨R, 0, none⟩ = some (.int .i64 0) := by rw [cell_of HRx.out]; rfl
        have z1 : wr.cell? ⟨R, 1, none⟩ = some (.int .i64 0) := by rw [cell_of HRx.out]; rfl
        have zf : ∀ o, wr.frozen? ⟨R, o, none⟩ = false := fun o => Lib.frozen_of_heap HRx.out o
        have zl : R < wr.heap.size := hp_lt HRx.out
        have HF : Hid (∀ a b o, Kept No w (((wr.setCell ⟨R, 0, none⟩ a).setCell ⟨R, 1, none⟩ b).alloc o)) := fun a b o => ((HKr.out.set _ _ _ (.inr HRs.out)).set _ _ _ (.inr HRs.out)).alloc o
        clear HB5 HK5 HR5 HRx H9x HB2 HB9 HKw HW5 hB HBl
        replace HL : Hid (lineF (bl s) = none) := HL.out
        go_wp2_with fail
        refine bodyPost_ret (v := .tuple #[.agg #[.int .i64 (1), .int .i64 (0)], .int .i64 (0)]) (by simp [results, Tryd.results25, go_sem, cell_alloc_old, size_set, zl, z0, z1]) rfl ⟨_, rfl, LinePost.no _ _ HL.out, HF.out _ _ _⟩
      · have hcm1 : (([115, 116, 101, 112] : List UInt8) == wd) = false := by rw [beq_eq_false_iff_ne]; exact fun e => hw e.symm
        have HJ2 : Hid ((rowsL.drop 2).find? (fun r => r.word == wd) = rowW wd ∧ Kept No W wr) := by
          refine ⟨?_, HJ.out.2⟩
          rw [← HJ.out.1, rows_drop 1 (by decide), List.find?_cons]
          have : ((rowsL.getD 1 r0).word == wd) = false := hcm1
          rw [this]
        clear HJ
        go_wp2
        go_roundw
        case rel => exact ⟨2, by decide, by first | rfl | go_num, rfl, rfl, HJ2⟩
        case measure => simp [intOf] <;> omega
    · have c9 : wr.cell? ⟨R + 1, 2, none⟩ = some (.string ⟨#[121, 111, 117, 110, 103]⟩) := by rw [cell_of H9x.out]; rfl
      by_cases hw : wd = [121, 111, 117, 110, 103]
      · have hcm1 : (([121, 111, 117, 110, 103] : List UInt8) == wd) = true := by rw [hw]; decide
        have hrw : rowW wd = some ⟨2, [121, 111, 117, 110, 103], false, 0⟩ := by rw [hw]; rfl
        have HL := HLD
        rw [hrw] at HL
        clear hw hrw HLD HJ
        obtain ⟨W5, HW5⟩ : ∃ W5, Hid (W5 = wr.alloc (.cells #[.int .i64 2, .int .i64 0] 45)) := ⟨_, rfl⟩
        have HK5 : Hid (Kept No wr W5) := by show Kept _ _ _; rw [HW5.out]; exact (Kept.refl No wr).alloc _
        have HB5 : Hid (W5.heap[wr.heap.size]? = some (.cells #[.int .i64 2, .int .i64 0] 45 (0, 0))) := by show _ = _; rw [HW5.out]; exact World.alloc_heap_new wr _
        have HR5 : Hid (W5.heap[R]? = some (.cells #[.int .i64 0, .int .i64 0] 45 (0, 0))) := HK5.out.heap HRx.out id
        have HKw : Hid (Kept No w W5) := HKr.out.trans HK5.out
        obtain ⟨B, hB⟩ : ∃ B, B = wr.heap.size := ⟨_, rfl⟩
        have HBl : Hid (R < B ∧ w.heap.size ≤ B) := ⟨by rw [hB]; exact hp_lt HRx.out, by rw [hB]; exact HKr.out.size⟩
        rw [← hB] at HB5
        have z0 : wr.cell? ⟨R, 0, none⟩ = some (.int .i64 0) := by rw [cell_of HRx.out]; rfl
        have z1 : wr.cell? ⟨R, 1, none⟩ = some (.int .i64 0) := by rw [cell_of HRx.out]; rfl
        have zf : ∀ o, wr.frozen? ⟨R, o, none⟩ = false := fun o => Lib.frozen_of_heap HRx.out o
        have zl : R < wr.heap.size := hp_lt HRx.out
        have HF : Hid (∀ a b o, Kept No w (((wr.setCell ⟨R, 0, none⟩ a).setCell ⟨R, 1, none⟩ b).alloc o)) := fun a b o => ((HKr.out.set _ _ _ (.inr HRs.out)).set _ _ _ (.inr HRs.out)).alloc o
        have KX : Hid (∀ o, Kept No w (wr.alloc o)) := fun o => HKr.out.alloc o
        have RX : Hid (∀ o, (wr.alloc o).heap[R]? = some (.cells #[.int .i64 0, .int .i64 0] 45 (0, 0))) := fun o => (Below.heap_alloc _ _ _ (hp_lt HRx.out)).trans HRx.out
        clear HB5 HK5 HR5 H9x HB2 HB9 HKw HW5 hB HBl
        replace HL : Hid (lineF (bl s) = some ((2, 0), 1)) := HL.out
        go_wp2_with fail
        refine bodyPost_ret (v := .tuple #[.agg #[.int .i64 (2), .int .i64 (0)], .int .i64 (1)]) (by simp [results, Tryd.results25, go_sem, cell_alloc_old, size_set, zl, z0, z1]) rfl ⟨_, rfl, LinePost.ok HL.out, HF.out _ _ _⟩
      · have hcm1 : (([121, 111, 117, 110, 103] : List UInt8) == wd) = false := by rw [beq_eq_false_iff_ne]; exact fun e => hw e.symm
        have HJ2 : Hid ((rowsL.drop 3).find? (fun r => r.word == wd) = rowW wd ∧ Kept No W wr) := by
          refine ⟨?_, HJ.out.2⟩
          rw [← HJ.out.1, rows_drop 2 (by decide), List.find?_cons]
          have : ((rowsL.getD 2 r0).word == wd) = false := hcm1
          rw [this]
        clear HJ
        go_wp2
        go_roundw
        case rel => exact ⟨3, by decide, by first | rfl | go_num, rfl, rfl, HJ2⟩
        case measure => simp [intOf] <;> omega
    · have c9 : wr.cell? ⟨R + 1, 3, none⟩ = some (.string ⟨#[109, 97, 106, 111, 114]⟩) := by rw [cell_of H9x.out]; rfl
      by_cases hw : wd = [109, 97, 106, 111, 114]
      · have hcm1 : (([109, 97, 106, 111, 114] : List UInt8) == wd) = true := by rw [hw]; decide
        have hrw : rowW wd = some ⟨3, [109, 97, 106, 111, 114], false, 0⟩ := by rw [hw]; rfl
        have HL := HLD
        rw [hrw] at HL
        clear hw hrw HLD HJ
        obtain ⟨W5, HW5⟩ : ∃ W5, Hid (W5 = wr.alloc (.cells #[.int .i64 3, .int .i64 0] 45)) := ⟨_, rfl⟩
        have HK5 : Hid (Kept No wr W5) := by show Kept _ _ _; rw [HW5.out]; exact (Kept.refl No wr).alloc _
        have HB5 : Hid (W5.heap[wr.heap.size]? = some (.cells #[.int .i64 3, .int .i64 0] 45 (0, 0))) := by show _ = _; rw [HW5.out]; exact World.alloc_heap_new wr _
        have HR5 : Hid (W5.heap[R]? = some (.cells #[.int .i64 0, .int .i64 0] 45 (0, 0))) := HK5.out.heap HRx.out id
        have HKw : Hid (Kept No w W5) := HKr.out.trans HK5.out
        obtain ⟨B, hB⟩ : ∃ B, B = wr.heap.size := ⟨_, rfl⟩
        have HBl : Hid (R < B ∧ w.heap.size ≤ B) := ⟨by rw [hB]; exact hp_lt HRx.out, by rw [hB]; exact HKr.out.size⟩
        rw [← hB] at HB5
        have z0 : wr.cell? ⟨R, 0, none⟩ = some (.int .i64 0) := by rw [cell_of HRx.out]; rfl
        have z1 : wr.cell? ⟨R, 1, none⟩ = some (.int .i64 0) := by rw [cell_of HRx.out]; rfl
        have zf : ∀ o, wr.frozen? ⟨R, o, none⟩ = false := fun o => Lib.frozen_of_heap HRx.out o
        have zl : R < wr.heap.size := hp_lt HRx.out
        have HF : Hid (∀ a b o, Kept No w (((wr.setCell ⟨R, 0, none⟩ a).setCell ⟨R, 1, none⟩ b).alloc o)) := fun a b o => ((HKr.out.set _ _ _ (.inr HRs.out)).set _ _ _ (.inr HRs.out)).alloc o
        have KX : Hid (∀ o, Kept No w (wr.alloc o)) := fun o => HKr.out.alloc o
        have RX : Hid (∀ o, (wr.alloc o).heap[R]? = some (.cells #[.int .i64 0, .int .i64 0] 45 (0, 0))) := fun o => (Below.heap_alloc _ _ _ (hp_lt HRx.out)).trans HRx.out
        clear HB5 HK5 HR5 H9x HB2 HB9 HKw HW5 hB HBl
        replace HL : Hid (lineF (bl s) = some ((3, 0), 1)) := HL.out
        go_wp2_with fail
        refine bodyPost_ret (v := .tuple #[.agg #[.int .i64 (3), .int .i64 (0)], .int .i64 (1)]) (by simp [results, Tryd.results25, go_sem, cell_alloc_old, size_set, zl, z0, z1]) rfl ⟨_, rfl, LinePost.ok HL.out, HF.out _ _ _⟩
      · have hcm1 : (([109, 97, 106, 111, 114] : List UInt8) == wd) = false := by rw [beq_eq_false_iff_ne]; exact fun e => hw e.symm
        have HJ2 : Hid ((rowsL.drop 4).find? (fun r => r.word == wd) = rowW wd ∧ Kept No W wr) := by
          refine ⟨?_, HJ.out.2⟩
          rw [← HJ.out.1, rows_drop 3 (by decide), List.find?_cons]
          have : ((rowsL.getD 3 r0).word == wd) = false := hcm1
          rw [this]
        clear HJ
        go_wp2
        go_roundw
        case rel => exact ⟨4, by decide, by first | rfl | go_num, rfl, rfl, HJ2⟩
        case measure => simp [intOf] <;> omega
    · have c9 : wr.cell? ⟨R + 1, 4, none⟩ = some (.string ⟨#[109, 111, 100, 101]⟩) := by rw [cell_of H9x.out]; rfl
      by_cases hw : wd = [109, 111, 100, 101]
      · have hcm1 : (([109, 111, 100, 101] : List UInt8) == wd) = true := by rw [hw]; decide
        have hrw : rowW wd = some ⟨4, [109, 111, 100, 101], true, 1⟩ := by rw [hw]; rfl
        have HL := HLD
        rw [hrw] at HL
        clear hw hrw HLD HJ
        obtain ⟨W5, HW5⟩ : ∃ W5, Hid (W5 = wr.alloc (.cells #[.int .i64 4, .int .i64 0] 45)) := ⟨_, rfl⟩
        have HK5 : Hid (Kept No wr W5) := by show Kept _ _ _; rw [HW5.out]; exact (Kept.refl No wr).alloc _
        have HB5 : Hid (W5.heap[wr.heap.size]? = some (.cells #[.int .i64 4, .int .i64 0] 45 (0, 0))) := by show _ = _; rw [HW5.out]; exact World.alloc_heap_new wr _
        have HR5 : Hid (W5.heap[R]? = some (.cells #[.int .i64 0, .int .i64 0] 45 (0, 0))) := HK5.out.heap HRx.out id
        have HKw : Hid (Kept No w W5) := HKr.out.trans HK5.out
        obtain ⟨B, hB⟩ : ∃ B, B = wr.heap.size := ⟨_, rfl⟩
        have HBl : Hid (R < B ∧ w.heap.size ≤ B) := ⟨by rw [hB]; exact hp_lt HRx.out, by rw [hB]; exact HKr.out.size⟩
        rw [← hB] at HB5
        have z0 : wr.cell? ⟨R, 0, none⟩ = some (.int .i64 0) := by rw [cell_of HRx.out]; rfl
        have z1 : wr.cell? ⟨R, 1, none⟩ = some (.int .i64 0) := by rw [cell_of HRx.out]; rfl
        have zf : ∀ o, wr.frozen? ⟨R, o, none⟩ = false := fun o => Lib.frozen_of_heap HRx.out o
        have zl : R < wr.heap.size := hp_lt HRx.out
        have HF : Hid (∀ a b o, Kept No w (((wr.setCell ⟨R, 0, none⟩ a).setCell ⟨R, 1, none⟩ b).alloc o)) := fun a b o => ((HKr.out.set _ _ _ (.inr HRs.out)).set _ _ _ (.inr HRs.out)).alloc o
        clear HB5 HK5 HR5 HRx H9x HB2 HB9 HKw HW5 hB HBl
        replace HL : Hid (lineF (bl s) = none) := HL.out
        go_wp2_with fail
        refine bodyPost_ret (v := .tuple #[.agg #[.int .i64 (4), .int .i64 (0)], .int .i64 (0)]) (by simp [results, Tryd.results25, go_sem, cell_alloc_old, size_set, zl, z0, z1]) rfl ⟨_, rfl, LinePost.no _ _ HL.out, HF.out _ _ _⟩
      · have hcm1 : (([109, 111, 100, 101] : List UInt8) == wd) = false := by rw [beq_eq_false_iff_ne]; exact fun e => hw e.symm
        have HJ2 : Hid ((rowsL.drop 5).find? (fun r => r.word == wd) = rowW wd ∧ Kept No W wr) := by
          refine ⟨?_, HJ.out.2⟩
          rw [← HJ.out.1, rows_drop 4 (by decide), List.find?_cons]
          have : ((rowsL.getD 4 r0).word == wd) = false := hcm1
          rw [this]
        clear HJ
        go_wp2
        go_roundw
        case rel => exact ⟨5, by decide, by first | rfl | go_num, rfl, rfl, HJ2⟩
        case measure => simp [intOf] <;> omega
    · have c9 : wr.cell? ⟨R + 1, 5, none⟩ = some (.string ⟨#[99, 111, 109, 112, 97, 99, 116]⟩) := by rw [cell_of H9x.out]; rfl
      by_cases hw : wd = [99, 111, 109, 112, 97, 99, 116]
      · have hcm1 : (([99, 111, 109, 112, 97, 99, 116] : List UInt8) == wd) = true := by rw [hw]; decide
        have hrw : rowW wd = some ⟨5, [99, 111, 109, 112, 97, 99, 116], false, 0⟩ := by rw [hw]; rfl
        have HL := HLD
        rw [hrw] at HL
        clear hw hrw HLD HJ
        obtain ⟨W5, HW5⟩ : ∃ W5, Hid (W5 = wr.alloc (.cells #[.int .i64 5, .int .i64 0] 45)) := ⟨_, rfl⟩
        have HK5 : Hid (Kept No wr W5) := by show Kept _ _ _; rw [HW5.out]; exact (Kept.refl No wr).alloc _
        have HB5 : Hid (W5.heap[wr.heap.size]? = some (.cells #[.int .i64 5, .int .i64 0] 45 (0, 0))) := by show _ = _; rw [HW5.out]; exact World.alloc_heap_new wr _
        have HR5 : Hid (W5.heap[R]? = some (.cells #[.int .i64 0, .int .i64 0] 45 (0, 0))) := HK5.out.heap HRx.out id
        have HKw : Hid (Kept No w W5) := HKr.out.trans HK5.out
        obtain ⟨B, hB⟩ : ∃ B, B = wr.heap.size := ⟨_, rfl⟩
        have HBl : Hid (R < B ∧ w.heap.size ≤ B) := ⟨by rw [hB]; exact hp_lt HRx.out, by rw [hB]; exact HKr.out.size⟩
        rw [← hB] at HB5
        have z0 : wr.cell? ⟨R, 0, none⟩ = some (.int .i64 0) := by rw [cell_of HRx.out]; rfl
        have z1 : wr.cell? ⟨R, 1, none⟩ = some (.int .i64 0) := by rw [cell_of HRx.out]; rfl
        have zf : ∀ o, wr.frozen? ⟨R, o, none⟩ = false := fun o => Lib.frozen_of_heap HRx.out o
        have zl : R < wr.heap.size := hp_lt HRx.out
        have HF : Hid (∀ a b o, Kept No w (((wr.setCell ⟨R, 0, none⟩ a).setCell ⟨R, 1, none⟩ b).alloc o)) := fun a b o => ((HKr.out.set _ _ _ (.inr HRs.out)).set _ _ _ (.inr HRs.out)).alloc o
        have KX : Hid (∀ o, Kept No w (wr.alloc o)) := fun o => HKr.out.alloc o
        have RX : Hid (∀ o, (wr.alloc o).heap[R]? = some (.cells #[.int .i64 0, .int .i64 0] 45 (0, 0))) := fun o => (Below.heap_alloc _ _ _ (hp_lt HRx.out)).trans HRx.out
        clear HB5 HK5 HR5 H9x HB2 HB9 HKw HW5 hB HBl
        replace HL : Hid (lineF (bl s) = some ((5, 0), 1)) := HL.out
        go_wp2_with fail
        refine bodyPost_ret (v := .tuple #[.agg #[.int .i64 (5), .int .i64 (0)], .int .i64 (1)]) (by simp [results, Tryd.results25, go_sem, cell_alloc_old, size_set, zl, z0, z1]) rfl ⟨_, rfl, LinePost.ok HL.out, HF.out _ _ _⟩
      · have hcm1 : (([99, 111, 109, 112, 97, 99, 116] : List UInt8) == wd) = false := by rw [beq_eq_false_iff_ne]; exact fun e => hw e.symm
        have HJ2 : Hid ((rowsL.drop 6).find? (fun r => r.word == wd) = rowW wd ∧ Kept No W wr) := by
          refine ⟨?_, HJ.out.2⟩
          rw [← HJ.out.1, rows_drop 5 (by decide), List.find?_cons]
          have : ((rowsL.getD 5 r0).word == wd) = false := hcm1
          rw [this]
        clear HJ
        go_wp2
        go_roundw
        case rel => exact ⟨6, by decide, by first | rfl | go_num, rfl, rfl, HJ2⟩
        case measure => simp [intOf] <;> omega
    · have hrw : rowW wd = none := by rw [← HJ.out.1]; rfl
      have HL := HLD
      rw [hrw] at HL
      replace HL : Hid (lineF (bl s) = none) := HL.out
      clear hrw HLD HJ H9x
      have z0 : wr.cell? ⟨R, 0, none⟩ = some (.int .i64 0) := by rw [cell_of HRx.out]; rfl
      have z1 : wr.cell? ⟨R, 1, none⟩ = some (.int .i64 0) := by rw [cell_of HRx.out]; rfl
      have zf : ∀ o, wr.frozen? ⟨R, o, none⟩ = false := fun o => Lib.frozen_of_heap HRx.out o
      have zl : R < wr.heap.size := hp_lt HRx.out
      have HF : Hid (∀ a b, Kept No w ((wr.setCell ⟨R, 0, none⟩ a).setCell ⟨R, 1, none⟩ b)) := fun a b => (HKr.out.set _ _ _ (.inr HRs.out)).set _ _ _ (.inr HRs.out)
      go_wp2_with fail
      refine bodyPost_ret (v := .tuple #[.agg #[.int .i64 (0), .int .i64 (0)], .int .i64 (0)]) (by simp [results, Tryd.results25, go_sem, cell_alloc_old, size_set, zl, z0, z1]) rfl ⟨_, rfl, LinePost.no _ _ HL.out, HF.out _ _⟩
end Go.Proofs.YtbhmgmbgplkkeaaDoor
