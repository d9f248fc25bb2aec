/- The document's token: a name. -/
import Derived.Test.YtidokamfppdnaaaGreatDoorQ2
namespace Go.Proofs.YtidokamfppdnaaaGreatDoor
open Go.RowKit
set_option linter.unusedSimpArgs false
set_option linter.unusedVariables false

theorem set_same {w : World} {b : Nat} {c : Array Value} {e : TypeId} {f : Nat × Nat} (h : w.heap[b]? = some (.cells c e f)) (o : Nat) (v : Value) : (w.setCell ⟨b, o, none⟩ v).heap[b]? = some (.cells (c.setIfInBounds o v) e f) := by
  show (w.heap.modify b _)[b]? = _
  rw [Array.getElem?_modify, if_pos rfl, h]
  rfl
theorem set_other {w : World} {b k : Nat} {x : Obj} (h : w.heap[k]? = some x) (o : Nat) (v : Value) (hn : k ≠ b) : (w.setCell ⟨b, o, none⟩ v).heap[k]? = some x := by
  show (w.heap.modify b _)[k]? = _
  rw [Array.getElem?_modify, if_neg (fun e => hn e.symm), h]
/-- The two boxes of one. -/
structure Bx (w W : World) (R T : Nat) (x : Tk) : Prop where
  kept : Kept No w W
  r : W.heap[R]? = some (tb t0)
  t : W.heap[T]? = some (tb x)
  le : w.heap.size ≤ R
  lt : R < T
theorem Bx.made (w : World) (x : Tk) : Bx w ((w.alloc (tb t0)).alloc (tb x)) w.heap.size (w.heap.size + 1) x := by
  refine ⟨((Kept.refl No w).alloc _).alloc _, ?_, ?_, Nat.le_refl _, by omega⟩
  · exact ((Kept.refl No (w.alloc (tb t0))).alloc _).heap (World.alloc_heap_new w _) id
  · have := World.alloc_heap_new (w.alloc (tb t0)) (tb x)
    rwa [show (w.alloc (tb t0)).heap.size = w.heap.size + 1 by simp] at this
theorem Bx.no {w W W' : World} {R T : Nat} {x : Tk} (h : Bx w W R T x) (hk : Kept No W W') : Bx w W' R T x := ⟨h.kept.trans hk, hk.heap h.r id, hk.heap h.t id, h.le, h.lt⟩
theorem Bx.kind {w W : World} {R T : Nat} {x : Tk} (h : Bx w W R T x) (a : Int) : Bx w (W.setCell ⟨T, 0, none⟩ (.int .i64 a)) R T ⟨a, x.t, x.vt, x.vn, x.sy, x.a, x.e⟩ :=
  ⟨h.kept.set _ _ _ (Or.inr (by have := h.le; have := h.lt; omega)), set_other h.r _ _ (by have := h.lt; omega), set_same h.t _ _, h.le, h.lt⟩

set_option maxRecDepth 20000 in
set_option maxHeartbeats 8000000 in
theorem one_name (s : ByteArray) (k : Nat) (hk : k < s.size) (hs : s.size ≤ 8192) (hl : isLt s[k] = true) (w : World) :
    Calls Tryz.prog 13 #[.string s, .int .i64 (k : Int)] w fun r w' => r = .returned (.tuple #[tv (nmT s k), .int .i64 0]) ∧ Kept No w w' := by
  obtain ⟨E, HE⟩ : ∃ E, Hid (k + nameL ((bl s).drop k) = E) := ⟨_, show _ = _ from rfl⟩
  obtain ⟨b, HWd⟩ : ∃ b, Hid (isWd (s.extract k E) = b) := ⟨_, show _ = _ from rfl⟩
  have HX : Hid (nmT s k = ⟨if b then 2 else 1, s.extract k E, 0, 0, ⟨#[]⟩, k, (E : Nat)⟩) := by
    show _ = _
    unfold nmT nmK
    rw [bl_getD s hk, if_pos hl, HE.out, HWd.out]
  rw [HX.out]
  have HL : Hid (∀ (c : UInt8) w, Calls Tryz.prog 23 #[.int .u8 (c.toNat : Int)] w fun e w' => e = .returned (.bool (isLt c)) ∧ w = w') := fun c w => RLetter_any c w
  have HD : Hid (∀ (c : UInt8) w, Calls Tryz.prog 24 #[.int .u8 (c.toNat : Int)] w fun e w' => e = .returned (.bool (isDg c)) ∧ w = w') := fun c w => RDigit_any c w
  have HL1 : Hid (∀ w, Calls Tryz.prog 23 #[.int .u8 (s[k].toNat : Int)] w fun e w' => e = .returned (.bool true) ∧ w = w') := fun w => by have := RLetter_any s[k] w; rw [hl] at this; exact this
  have HW : Hid (∀ w, Calls Tryz.prog 25 #[.string (s.extract k E)] w fun r w' => r = .returned (.bool b) ∧ Kept No w w') := fun w => by have := RWord_any (s.extract k E) w; rw [HWd.out] at this; exact this
  have lk : (k : Int) < (s.size : Int) := by omega
  have HBx : Hid (Bx w ((w.alloc (tb t0)).alloc (tb ⟨0, ⟨#[]⟩, 0, 0, ⟨#[]⟩, k, 0⟩)) w.heap.size (w.heap.size + 1) ⟨0, ⟨#[]⟩, 0, 0, ⟨#[]⟩, k, 0⟩) := Bx.made w _
  obtain ⟨W0, HW0⟩ : ∃ W0, Hid ((w.alloc (tb t0)).alloc (tb ⟨0, ⟨#[]⟩, 0, 0, ⟨#[]⟩, k, 0⟩) = W0) := ⟨_, show _ = _ from rfl⟩
  rw [HW0.out] at HBx
  unfold tb t0 at HW0
  dsimp only at HW0
  clear hl HX
  go_enter Tryz.func13, Tryz.ntmps13
  go_wp2_with (go_at_call 23; refine Calls.mono (HL1.out _) ?_; rintro e w' ⟨rfl, rfl⟩)
  rw [HW0.out]
  obtain ⟨R, HRR⟩ : ∃ R, Hid (w.heap.size = R) := ⟨_, show _ = _ from rfl⟩
  obtain ⟨T, HTT⟩ : ∃ T, Hid (R + 1 = T) := ⟨_, show _ = _ from rfl⟩
  rw [HRR.out, HTT.out] at HBx
  try rw [HRR.out]
  try rw [HTT.out]
  clear HW0 HL1
  go_loop [7] (fun i => ∃ m : Nat, k ≤ m ∧ m ≤ s.size ∧ i = .int .i64 m ∧ Hid (m + nameL ((bl s).drop m) = E)) (fun i => s.size - (intOf i).toNat)
  case atStart => exact ⟨k, Nat.le_refl _, by omega, rfl, HE.out⟩
  case round =>
    clear HE
    obtain ⟨m, hm1, hm2, rfl, HM⟩ := hrel
    by_cases hml : m < s.size
    · have dm : decide ((m : Int) < (s.size : Int)) = true := decide_eq_true (by omega)
      have lm : (m : Int) < (s.size : Int) := by omega
      have hdm := bl_drop s hml
      have hE := HM.out
      rw [hdm] at hE
      have HLm := HL.out s[m]
      have HDm := HD.out s[m]
      cases hn : isNm s[m] with
      | true =>
        have HM2 : Hid (m + 1 + nameL ((bl s).drop (m + 1)) = E) := by
          show _ = _
          rw [← hE, nameL, if_pos hn]; omega
        unfold isNm at hn
        cases ha : isLt s[m] with
        | true =>
          rw [ha] at HLm
          clear hE hdm HM hn ha HDm
          go_wp2_with (first | (go_at_call 23; refine Calls.mono (HLm _) ?_; rintro e w' ⟨rfl, rfl⟩))
          exact ⟨⟨m + 1, by omega, by omega, by go_num, HM2.out⟩, by simp [intOf]; omega⟩
        | false =>
          have hb : isDg s[m] = true := by rw [ha] at hn; simpa using hn
          rw [ha] at HLm
          rw [hb] at HDm
          clear hE hdm HM hn ha hb
          go_wp2_with (first | (go_at_call 23; refine Calls.mono (HLm _) ?_; rintro e w' ⟨rfl, rfl⟩) | (go_at_call 24; refine Calls.mono (HDm _) ?_; rintro e w' ⟨rfl, rfl⟩))
          exact ⟨⟨m + 1, by omega, by omega, by go_num, HM2.out⟩, by simp [intOf]; omega⟩
      | false =>
        have hmE : m = E := by rw [nameL, if_neg (by rw [hn]; decide)] at hE; omega
        unfold isNm at hn
        have ha : isLt s[m] = false := by cases h : isLt s[m] with | true => rw [h] at hn; cases hn | false => rfl
        have hb : isDg s[m] = false := by rw [ha] at hn; simpa using hn
        rw [ha] at HLm
        rw [hb] at HDm
        clear hE hdm HM hn ha hb
        subst hmE
        have ek : (k : Int) ≤ (m : Int) := by omega
        have em : (m : Int) ≤ (s.size : Int) := by omega
        have tf := fun o => tb_frozen HBx.out.t o
        have s3 := (tb_cells HBx.out.t).1
        dsimp only at s3
        have HB1 : Hid (Bx w (W0.setCell ⟨T, 0, none⟩ (.int .i64 1)) R T ⟨1, ⟨#[]⟩, 0, 0, ⟨#[]⟩, k, 0⟩) := HBx.out.kind 1
        go_wp2_with (first | (go_at_call 23; refine Calls.mono (HLm _) ?_; rintro e w' ⟨rfl, rfl⟩) | (go_at_call 24; refine Calls.mono (HDm _) ?_; rintro e w' ⟨rfl, rfl⟩) | fail)
        refine Calls.mono (HW.out _) ?_
        rintro e W5 ⟨rfl, hk5⟩
        have HB5 : Hid (Bx w W5 R T ⟨1, ⟨#[]⟩, 0, 0, ⟨#[]⟩, k, 0⟩) := HB1.out.no hk5
        clear hk5 HB1 HBx tf s3
        obtain ⟨t3, t4, t5, t6, t7, t8, t9⟩ := tb_cells HB5.out.t
        obtain ⟨r3, r4, r5, r6, r7, r8, r9⟩ := tb_cells HB5.out.r
        have tf := fun o => tb_frozen HB5.out.t o
        have rf := fun o => tb_frozen HB5.out.r o
        dsimp only [t0] at t3 t4 t5 t6 t7 t8 t9 r3 r4 r5 r6 r7 r8 r9
        have nRT : R ≠ T := by have := HB5.out.lt; omega
        have nTR : T ≠ R := by have := HB5.out.lt; omega
        have HKf : Hid (Kept No w W5 ∧ w.heap.size ≤ R ∧ w.heap.size ≤ T) := ⟨HB5.out.kept, HB5.out.le, by have := HB5.out.le; have := HB5.out.lt; omega⟩
        clear HB5
        cases b with
        | false =>
          go_wp2_with fail
          refine bodyPost_ret (v := .tuple #[tv ⟨1, s.extract k m, 0, 0, ⟨#[]⟩, k, (m : Nat)⟩, .int .i64 0]) (by simp [results, Tryz.results13, go_sem, tv, t3, t4, t5, t6, t7, t8, t9, r3, r4, r5, r6, r7, r8, r9, nRT, nTR]) rfl ⟨rfl, ?_⟩
          repeat refine Kept.set ?_ _ _ _ (Or.inr (by first | exact HKf.out.2.1 | exact HKf.out.2.2))
          exact HKf.out.1
        | true =>
          go_wp2_with fail
          refine bodyPost_ret (v := .tuple #[tv ⟨2, s.extract k m, 0, 0, ⟨#[]⟩, k, (m : Nat)⟩, .int .i64 0]) (by simp [results, Tryz.results13, go_sem, tv, t3, t4, t5, t6, t7, t8, t9, r3, r4, r5, r6, r7, r8, r9, nRT, nTR]) rfl ⟨rfl, ?_⟩
          repeat refine Kept.set ?_ _ _ _ (Or.inr (by first | exact HKf.out.2.1 | exact HKf.out.2.2))
          exact HKf.out.1
    · have dm : decide ((m : Int) < (s.size : Int)) = false := decide_eq_false (by omega)
      have hmE : m = E := by
        have := HM.out
        rw [List.drop_eq_nil_of_le (by rw [bl_len]; omega)] at this
        simp only [nameL] at this
        omega
      clear HM
      subst hmE
      have ek : (k : Int) ≤ (m : Int) := by omega
      have em : (m : Int) ≤ (s.size : Int) := by omega
      have tf := fun o => tb_frozen HBx.out.t o
      have s3 := (tb_cells HBx.out.t).1
      dsimp only at s3
      have HB1 : Hid (Bx w (W0.setCell ⟨T, 0, none⟩ (.int .i64 1)) R T ⟨1, ⟨#[]⟩, 0, 0, ⟨#[]⟩, k, 0⟩) := HBx.out.kind 1
      go_wp2_with fail
      refine Calls.mono (HW.out _) ?_
      rintro e W5 ⟨rfl, hk5⟩
      have HB5 : Hid (Bx w W5 R T ⟨1, ⟨#[]⟩, 0, 0, ⟨#[]⟩, k, 0⟩) := HB1.out.no hk5
      clear hk5 HB1 HBx tf s3
      obtain ⟨t3, t4, t5, t6, t7, t8, t9⟩ := tb_cells HB5.out.t
      obtain ⟨r3, r4, r5, r6, r7, r8, r9⟩ := tb_cells HB5.out.r
      have tf := fun o => tb_frozen HB5.out.t o
      have rf := fun o => tb_frozen HB5.out.r o
      dsimp only [t0] at t3 t4 t5 t6 t7 t8 t9 r3 r4 r5 r6 r7 r8 r9
      have nRT : R ≠ T := by have := HB5.out.lt; omega
      have nTR : T ≠ R := by have := HB5.out.lt; omega
      have HKf : Hid (Kept No w W5 ∧ w.heap.size ≤ R ∧ w.heap.size ≤ T) := ⟨HB5.out.kept, HB5.out.le, by have := HB5.out.le; have := HB5.out.lt; omega⟩
      clear HB5
      cases b with
      | false =>
        go_wp2_with fail
        refine bodyPost_ret (v := .tuple #[tv ⟨1, s.extract k m, 0, 0, ⟨#[]⟩, k, (m : Nat)⟩, .int .i64 0]) (by simp [results, Tryz.results13, go_sem, tv, t3, t4, t5, t6, t7, t8, t9, r3, r4, r5, r6, r7, r8, r9, nRT, nTR]) rfl ⟨rfl, ?_⟩
        repeat refine Kept.set ?_ _ _ _ (Or.inr (by first | exact HKf.out.2.1 | exact HKf.out.2.2))
        exact HKf.out.1
      | true =>
        go_wp2_with fail
        refine bodyPost_ret (v := .tuple #[tv ⟨2, s.extract k m, 0, 0, ⟨#[]⟩, k, (m : Nat)⟩, .int .i64 0]) (by simp [results, Tryz.results13, go_sem, tv, t3, t4, t5, t6, t7, t8, t9, r3, r4, r5, r6, r7, r8, r9, nRT, nTR]) rfl ⟨rfl, ?_⟩
        repeat refine Kept.set ?_ _ _ _ (Or.inr (by first | exact HKf.out.2.1 | exact HKf.out.2.2))
        exact HKf.out.1
end Go.Proofs.YtidokamfppdnaaaGreatDoor
