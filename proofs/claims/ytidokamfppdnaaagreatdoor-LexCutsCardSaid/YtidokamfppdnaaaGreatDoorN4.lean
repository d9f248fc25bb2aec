/- Read: the rest. Out of the numbers' own texts, renumbered. -/
import Derived.Test.YtidokamfppdnaaaGreatDoorN3
namespace Go.Proofs.YtidokamfppdnaaaGreatDoor
open Go.RowKit
set_option linter.unusedSimpArgs false
set_option linter.unusedVariables false

/-- The range error. -/
def ErrIs (W : World) : Prop := ∃ a : Addr, W.cell? ⟨4, 0, none⟩ = some (.iface 113 (.pointer (some a)))
theorem ixB_none : ∀ (l : List UInt8) (c : UInt8), (∀ x ∈ l, x ≠ c) → Lib.indexByte l c = -1
  | [], _, _ => rfl
  | b :: l, c, h => by
    unfold Lib.indexByte
    rw [if_neg (by simpa using h b (List.mem_cons_self ..)), ixB_none l c (fun x hx => h x (List.mem_cons_of_mem _ hx))]
    rfl
theorem inD_nat : ∀ n, n < 256 → inB dec (UInt8.ofNat n) = (decide (48 ≤ n) && decide (n ≤ 57)) := by decide +kernel
theorem inD (c : UInt8) : inB dec c = (decide (48 ≤ c.toNat) && decide (c.toNat ≤ 57)) := by
  have h := inD_nat c.toNat (UInt8.toNat_lt c)
  have e : UInt8.ofNat c.toNat = c := UInt8.ofNat_toNat
  rwa [e] at h
/-- What digits say. -/
def decF (n : Nat) (l : List UInt8) : Nat := l.foldl (fun n c => n * 10 + (c.toNat - 48)) n
def decV (l : List UInt8) : Nat := decF 0 l
theorem decF_ge : ∀ (l : List UInt8) (n : Nat), n ≤ decF n l
  | [], _ => Nat.le_refl _
  | c :: l, n => by
    have := decF_ge l (n * 10 + (c.toNat - 48))
    show n ≤ decF (n * 10 + (c.toNat - 48)) l
    omega
theorem decF_lt : ∀ (l : List UInt8) (n : Nat), (∀ c ∈ l, c.toNat ≤ 57) → decF n l < (n + 1) * 10 ^ l.length
  | [], n, _ => by simp [decF]
  | c :: l, n, h => by
    have h1 := decF_lt l (n * 10 + (c.toNat - 48)) (fun x hx => h x (by simp [hx]))
    have h2 := h c (by simp)
    show decF (n * 10 + (c.toNat - 48)) l < _
    rw [List.length_cons, Nat.pow_succ]
    refine Nat.lt_of_lt_of_le h1 ?_
    rw [Nat.mul_comm (10 ^ l.length) 10, ← Nat.mul_assoc]
    exact Nat.mul_le_mul_right _ (by omega)
theorem decV_lt (l : List UInt8) (h : ∀ c ∈ l, c.toNat ≤ 57) (k : Nat) (hk : l.length ≤ k) : decV l < 10 ^ k := by
  have h1 := decF_lt l 0 h
  have h2 : 10 ^ l.length ≤ 10 ^ k := Nat.pow_le_pow_right (by decide) hk
  unfold decV; omega
/-- The digits about the point. -/
def ptL (T : ByteArray) (i : Nat) : List UInt8 := T.data.toList.take i ++ T.data.toList.drop (i + 1)
theorem ptL_len (T : ByteArray) (i : Nat) (h : i < T.size) : (ptL T i).length + 1 = T.size := by
  unfold ptL; rw [List.length_append, List.length_take, List.length_drop, ← Lib.size_eq]; omega
theorem allB_mem {A : ByteArray} (h : allB A dec = true) : ∀ c ∈ A.data.toList, 48 ≤ c.toNat ∧ c.toNat ≤ 57 := fun c hc => by
  unfold allB at h
  rw [Bool.and_eq_true, List.all_eq_true] at h
  have := h.1 c hc
  rwa [inD, Bool.and_eq_true, decide_eq_true_eq, decide_eq_true_eq] at this
theorem ex_lo (T : ByteArray) (i : Nat) : (T.extract 0 i).data.toList = T.data.toList.take i := by
  rw [ByteArray.data_extract]; simp
theorem ex_hi (T : ByteArray) (i : Nat) : (T.extract i T.size).data.toList = T.data.toList.drop i := Lib.extract_to_end T i
theorem quo_any (x y : Nat) (w : World) :
    ∃ r w1, (binOp .quo 71 (.float .f64 x) (.float .f64 y)).run Tryz.prog w = .ok (.float .f64 r) w1 ∧ flt r = fltO (floatBits .quo .f64 x y) ∧ r < 18446744073709551616 ∧ Below w.heap.size w w1 := by
  cases h : floatBits .quo .f64 x y with
  | some r => exact ⟨r, w, run_float_arith w .quo 71 .f64 x y r h, rfl, by simp only [floatBits] at h; exact Ieee.Format.div_lt _ h, Below.refl _ _⟩
  | none =>
    refine ⟨(Question.nanBits .f64 x y).cut (w.tape w.drawn (.nanBits .f64 x y)), w.drew, ?_, ?_, ?_, (Below.refl _ _).drew⟩
    · simp only [floatBits] at h; simp [binOp, Op.floatArith, h, Question.forced]
    · unfold flt; rw [nan_drawn]; rfl
    · generalize w.tape w.drawn (.nanBits .f64 x y) = t
      have e : (Question.nanBits .f64 x y).cut t = (t % 2) * 9223372036854775808 + 9218868437227405312 + 1 + (t / 2) % 4503599627370495 := rfl
      rw [e]
      have h1 : t % 2 < 2 := Nat.mod_lt _ (by decide)
      have h2 : (t / 2) % 4503599627370495 < 4503599627370495 := Nat.mod_lt _ (by decide)
      omega
theorem isNum_flt (r : Nat) (h : r < 18446744073709551616) : isNum 3 (flt r) = true := by
  unfold isNum flt
  cases hn : Fm.nanB r
  · rw [if_neg (by simp), B_bi h, hn]; rfl
  · rw [if_pos rfl]; simp
/-- The number of a text with a point. -/
def ptN (v : Int) (k : Nat) : Int := fltO (floatBits .quo .f64 (Fm.ofInt v) (pw k))
def ptM (M : Bool) (v : Int) (k : Nat) : Int := if M then ngN 3 (ptN v k) else ptN v k
theorem err_later {w w' : World} (h : ErrIs w) (hb : Below w.heap.size w w') : ErrIs w' := by
  obtain ⟨a, h⟩ := h
  exact ⟨a, cell_later hb h⟩
theorem ParseInt_range (s : ByteArray) (w : World) (hs : s.size ≤ 140737488355328) (hp : Lib.parseIntB 64 s.data.toList = .range) (he : ErrIs w) :
    Calls Tryz.prog 65 #[.string s, .int .i64 10, .int .i64 64] w fun e w' => ∃ N v, e = .returned (.tuple #[.int .i64 v, .iface 100 (.pointer (some ⟨N, 0, none⟩))]) ∧ Below w.heap.size w w' := by
  obtain ⟨a, he⟩ := he
  refine (Tryz.strconv_ParseInt_10_at64_range s (by omega) hp _ w he (Or.inr ⟨_, _, rfl⟩)).mono ?_
  rintro e w' ⟨N, rfl, _, _, hb⟩
  exact ⟨N, _, rfl, hb⟩
set_option maxHeartbeats 1000000 in
theorem readInt_range (s : ByteArray) (w : World) (hs : s.size ≤ 140737488355328) (hp : Lib.parseIntB 64 s.data.toList = .range) (he : ErrIs w) :
    Calls Tryz.prog 51 #[.string s] w fun e w' => e = .returned (.tuple #[AV 0 0, .int .i64 7]) ∧ Below w.heap.size w w' := by
  have PI : Hid (∀ w, ErrIs w → Calls Tryz.prog 65 #[.string s, .int .i64 10, .int .i64 64] w fun e w' => ∃ N v, e = .returned (.tuple #[.int .i64 v, .iface 100 (.pointer (some ⟨N, 0, none⟩))]) ∧ Below w.heap.size w w') := fun w h => ParseInt_range s w hs hp h
  have HE : Hid (ErrIs w) := he
  clear hp he
  go_enter Tryz.func51, Tryz.ntmps51
  go_wp2_with fail
  refine (PI.out _ (err_later HE.out ((Below.refl _ _).alloc (Nat.le_refl _) _))).mono ?_
  rintro e w1 ⟨N, v, rfl, hb1⟩
  obtain ⟨k5, k6, l5, l6, z1, HB⟩ := rbox hb1
  clear hb1
  go_wp2
  refine bodyPost_ret (v := .tuple #[AV 0 0, .int .i64 7]) (by simp [results, Tryz.results51, go_sem, k5, k6]) rfl ⟨rfl, ?_⟩
  exact (HB.out.setCell (by simp) _).setCell (by simp) _
set_option maxHeartbeats 1000000 in
theorem Read_intR (s : ByteArray) (w : World) (hs : s.size ≤ maxLen) (hz : s.size ≤ 140737488355328) (h0 : Lib.hasPrefix s.data.toList zf.data.toList = false) (hb : bad s = false) (hp : pnt s = false)
    (hv : Lib.parseIntB 64 s.data.toList = .range) (he : ErrIs w) :
    Calls Tryz.prog 34 #[.string s] w fun e w' => e = .returned (.tuple #[AV 0 0, .int .i64 7]) ∧ Below w.heap.size w w' := by
  have b1 : (unsg s).size ≤ maxLen := Nat.le_trans (unsg_size s) hs
  have b2 : (ahd s).size ≤ maxLen := Nat.le_trans (cutA_size _ _) b1
  have H0 : Hid (Lib.hasPrefix s.data.toList zf.data.toList = false) := h0
  have RI : Hid (∀ w, ErrIs w → Calls Tryz.prog 51 #[.string s] w fun e w' => e = .returned (.tuple #[AV 0 0, .int .i64 7]) ∧ Below w.heap.size w w') := fun w h => readInt_range s w hz hv h
  have HE : Hid (ErrIs w) := he
  have a1 : allB (ahd s) dec = true := by unfold bad at hb; simp at hb; exact hb.1
  have hp' : cutB (unsg s) 46 = false := hp
  clear h0 hv hb hp he
  go_enter Tryz.func34, Tryz.ntmps34
  go_wp2_with fail
  refine (Tryz.strings_CutPrefix s zf _).mono ?_
  rintro e w' ⟨rfl, rfl⟩
  rw [H0.out]
  go_wp2_with fail
  refine (Tryz.strings_CutPrefix s dash _).mono ?_
  rintro e w' ⟨rfl, rfl⟩
  go_wp2_with fail
  refine (Cut_any (unsg s) 46 _ b1).mono ?_
  rintro e w1 ⟨rfl, hb1⟩
  obtain ⟨k5, k6, l5, l6, z1, HB⟩ := rbox hb1
  clear hb1
  go_wp2_with fail
  refine (allOf_any (ahd s) dec _ b2).mono ?_
  rintro e w' ⟨rfl, rfl⟩
  go_wp2_with fail
  refine (RI.out _ (err_later HE.out HB.out)).mono ?_
  rintro e w2 ⟨rfl, hb2⟩
  have k5 := cell_later hb2 k5
  have k6 := cell_later hb2 k6
  have l5 := fro_later hb2 l5 z1
  have l6 := fro_later hb2 l6 z1
  have HB := chainB HB hb2
  clear hb2
  go_wp2
  refine bodyPost_ret (v := .tuple #[AV 0 0, .int .i64 7]) (by simp [results, Tryz.results34, go_sem, k5, k6]) rfl ⟨rfl, ?_⟩
  exact (HB.out.setCell (by simp) _).setCell (by simp) _
set_option maxHeartbeats 1000000 in
theorem Read_ptR (s : ByteArray) (w : World) (hs : s.size ≤ maxLen) (hz : s.size ≤ 140737488351232) (h0 : Lib.hasPrefix s.data.toList zf.data.toList = false) (hb : bad s = false) (hp : pnt s = true)
    (hl : 15 < (ahd s).size + (bhd s).size) :
    Calls Tryz.prog 34 #[.string s] w fun e w' => e = .returned (.tuple #[AV 0 0, .int .i64 7]) ∧ Below w.heap.size w w' := by
  have b1 : (unsg s).size ≤ maxLen := Nat.le_trans (unsg_size s) hs
  have b2 : (ahd s).size ≤ maxLen := Nat.le_trans (cutA_size _ _) b1
  have b3 : (bhd s).size ≤ maxLen := Nat.le_trans (cutZ_size _ _) b1
  have c1 : (ahd s).size ≤ 140737488351232 := Nat.le_trans (cutA_size _ _) (Nat.le_trans (unsg_size s) hz)
  have c2 : (bhd s).size ≤ 140737488351232 := Nat.le_trans (cutZ_size _ _) (Nat.le_trans (unsg_size s) hz)
  have H0 : Hid (Lib.hasPrefix s.data.toList zf.data.toList = false) := h0
  have RP : Hid (∀ w, Calls Tryz.prog 52 #[.string (ahd s), .string (bhd s)] w fun e w' => e = .returned (.tuple #[AV 0 0, .int .i64 7]) ∧ Below w.heap.size w w') := fun w => readPointed_range _ _ w c1 c2 hl
  have a1 : allB (ahd s) dec = true := by unfold bad at hb; simp at hb; exact hb.1
  have a2 : allB (bhd s) dec = true := by unfold bad at hb; simp [hp] at hb; exact hb.2
  have hp' : cutB (unsg s) 46 = true := hp
  clear h0 hb hp hl c1 c2
  go_enter Tryz.func34, Tryz.ntmps34
  go_wp2_with fail
  refine (Tryz.strings_CutPrefix s zf _).mono ?_
  rintro e w' ⟨rfl, rfl⟩
  rw [H0.out]
  go_wp2_with fail
  refine (Tryz.strings_CutPrefix s dash _).mono ?_
  rintro e w' ⟨rfl, rfl⟩
  go_wp2_with fail
  refine (Cut_any (unsg s) 46 _ b1).mono ?_
  rintro e w1 ⟨rfl, hb1⟩
  obtain ⟨k5, k6, l5, l6, z1, HB⟩ := rbox hb1
  clear hb1
  go_wp2_with fail
  refine (allOf_any (ahd s) dec _ b2).mono ?_
  rintro e w' ⟨rfl, rfl⟩
  go_wp2_with fail
  refine (allOf_any (bhd s) dec _ b3).mono ?_
  rintro e w' ⟨rfl, rfl⟩
  go_wp2_with fail
  refine (RP.out _).mono ?_
  rintro e w2 ⟨rfl, hb2⟩
  have k5 := cell_later hb2 k5
  have k6 := cell_later hb2 k6
  have l5 := fro_later hb2 l5 z1
  have l6 := fro_later hb2 l6 z1
  have HB := chainB HB hb2
  have z2 : w.heap.size < w2.heap.size := by have := hb2.size; omega
  clear hb2
  go_wp2
  refine bodyPost_ret (v := .tuple #[AV 0 0, .int .i64 7]) (by simp [results, Tryz.results34, go_sem, k5, k6, z2]) rfl ⟨rfl, ?_⟩
  exact ((HB.out.setCell (by simp) _).setCell (by simp) _).alloc (by simp; omega) _
set_option maxHeartbeats 1000000 in
theorem Read_ptM (s : ByteArray) (v : Int) (w : World) (hs : s.size ≤ maxLen) (h0 : Lib.hasPrefix s.data.toList zf.data.toList = false) (hb : bad s = false) (hp : pnt s = true)
    (hl : (ahd s).size + (bhd s).size ≤ 15) (hv : Lib.parseIntB 64 (ahd s ++ bhd s).data.toList = .ok v) (hn : Lib.hasPrefix s.data.toList dash.data.toList = true) :
    Calls Tryz.prog 34 #[.string s] w fun e w' => e = .returned (.tuple #[AV 3 (ptM true v (bhd s).size), .int .i64 0]) ∧ Below w.heap.size w w' := by
  have b1 : (unsg s).size ≤ maxLen := Nat.le_trans (unsg_size s) hs
  have b2 : (ahd s).size ≤ maxLen := Nat.le_trans (cutA_size _ _) b1
  have b3 : (bhd s).size ≤ maxLen := Nat.le_trans (cutZ_size _ _) b1
  have H0 : Hid (Lib.hasPrefix s.data.toList zf.data.toList = false) := h0
  have HN : Hid (Lib.hasPrefix s.data.toList dash.data.toList = true) := hn
  have RP : Hid (∀ w, Calls Tryz.prog 52 #[.string (ahd s), .string (bhd s)] w fun e w' => e = .returned (.tuple #[AV 3 (ptN v (bhd s).size), .int .i64 0]) ∧ Below w.heap.size w w') := fun w => readPointed_ok _ _ v w hl hv
  have a1 : allB (ahd s) dec = true := by unfold bad at hb; simp at hb; exact hb.1
  have a2 : allB (bhd s) dec = true := by unfold bad at hb; simp [hp] at hb; exact hb.2
  have hp' : cutB (unsg s) 46 = true := hp
  obtain ⟨r, w0, _, hr, hrl, _⟩ := quo_any (Fm.ofInt v) (pw (bhd s).size) w
  have hN : isNum 3 (ptN v (bhd s).size) = true := by unfold ptN; rw [← hr]; exact isNum_flt r hrl
  have hB : -9223372036854775808 ≤ ptN v (bhd s).size ∧ ptN v (bhd s).size ≤ 9223372036854775807 := by unfold ptN; rw [← hr]; exact flt_bounds r
  have NG : Hid (∀ w, Calls Tryz.prog 53 #[AV 3 (ptN v (bhd s).size)] w fun e w' => e = .returned (.tuple #[AV 3 (ptM true v (bhd s).size), .int .i64 0]) ∧ Below w.heap.size w w') := fun w => by
    have h := Neg_any 3 (ptN v (bhd s).size) w hB.1 hB.2
    have e1 : ngT 3 (ptN v (bhd s).size) = 3 := by unfold ngT; rw [hN]; rfl
    have e2 : ngE 3 (ptN v (bhd s).size) = 0 := by unfold ngE; rw [hN]; rfl
    rw [e1, e2] at h
    exact h
  clear h0 hn hv hb hp hl hr hrl hN hB
  generalize ptM true v (bhd s).size = Z at *
  generalize ptN v (bhd s).size = N at *
  go_enter Tryz.func34, Tryz.ntmps34
  go_wp2_with fail
  refine (Tryz.strings_CutPrefix s zf _).mono ?_
  rintro e w' ⟨rfl, rfl⟩
  rw [H0.out]
  go_wp2_with fail
  refine (Tryz.strings_CutPrefix s dash _).mono ?_
  rintro e w' ⟨rfl, rfl⟩
  rw [HN.out]
  go_wp2_with fail
  refine (Cut_any (unsg s) 46 _ b1).mono ?_
  rintro e w1 ⟨rfl, hb1⟩
  obtain ⟨k5, k6, l5, l6, z1, HB⟩ := rbox hb1
  clear hb1
  go_wp2_with fail
  refine (allOf_any (ahd s) dec _ b2).mono ?_
  rintro e w' ⟨rfl, rfl⟩
  go_wp2_with fail
  refine (allOf_any (bhd s) dec _ b3).mono ?_
  rintro e w' ⟨rfl, rfl⟩
  go_wp2_with fail
  refine (RP.out _).mono ?_
  rintro e w2 ⟨rfl, hb2⟩
  have k5 := cell_later hb2 k5
  have k6 := cell_later hb2 k6
  have l5 := fro_later hb2 l5 z1
  have l6 := fro_later hb2 l6 z1
  have HB := chainB HB hb2
  have z2 : w.heap.size < w2.heap.size := by have := hb2.size; omega
  clear hb2
  go_wp2_with fail
  refine (NG.out _).mono ?_
  rintro e w3 ⟨rfl, hb3⟩
  have hA : Below w2.heap.size w2 (w2.alloc (.cells #[.int .i64 3, .int .i64 N] 36)) := (Below.refl _ _).alloc (Nat.le_refl _) _
  have z3 : w.heap.size < (w2.alloc (.cells #[.int .i64 3, .int .i64 N] 36)).heap.size := Nat.lt_of_lt_of_le z2 hA.size
  have k5 := cell_later hb3 (cell_later hA k5)
  have k6 := cell_later hb3 (cell_later hA k6)
  have l5 := fro_later hb3 (fro_later hA l5 z2) z3
  have l6 := fro_later hb3 (fro_later hA l6 z2) z3
  have HB := chainB (chainB HB hA) hb3
  clear hA hb3 z3
  go_wp2
  refine bodyPost_ret (v := .tuple #[AV 3 Z, .int .i64 0]) (by simp [results, Tryz.results34, go_sem, k5, k6]) rfl ⟨rfl, ?_⟩
  exact (HB.out.setCell (by simp) _).setCell (by simp) _
theorem pU_all : ∀ (l : List UInt8) (acc : Nat), (∀ c ∈ l, 48 ≤ c.toNat ∧ c.toNat ≤ 57) → acc ≤ 18446744073709551615 →
    Lib.parseUintM 18446744073709551615 acc l = if decF acc l ≤ 18446744073709551615 then .ok (decF acc l) else .range
  | [], acc, _, h => by
    have : decF acc [] = acc := rfl
    rw [this, if_pos h]; rfl
  | c :: l, acc, hl, h => by
    have hc := hl c (List.mem_cons_self ..)
    have hr := fun x hx => hl x (List.mem_cons_of_mem c hx)
    have hg := decF_ge l (acc * 10 + (c.toNat - 48))
    have e : decF acc (c :: l) = decF (acc * 10 + (c.toNat - 48)) l := rfl
    rw [e]
    unfold Lib.parseUintM
    rw [if_pos hc]
    by_cases h1 : 1844674407370955162 ≤ acc
    · rw [if_pos h1, if_neg (by omega)]
    · rw [if_neg h1]
      by_cases h2 : 18446744073709551615 < acc * 10 + (c.toNat - 48)
      · rw [if_pos h2, if_neg (by omega)]
      · rw [if_neg h2]
        exact pU_all l _ hr (by omega)
theorem pUB_all (l : List UInt8) (h : ∀ c ∈ l, 48 ≤ c.toNat ∧ c.toNat ≤ 57) (hne : l ≠ []) : Lib.parseUintB 64 l = if decV l ≤ 18446744073709551615 then .ok (decV l) else .range := by
  unfold Lib.parseUintB
  rw [if_neg hne]
  exact pU_all l 0 h (by omega)
theorem pI_pos (l : List UInt8) (h : ∀ c ∈ l, 48 ≤ c.toNat ∧ c.toNat ≤ 57) (hne : l ≠ []) : Lib.parseIntB 64 l = if decV l < 9223372036854775808 then .ok (decV l : Int) else .range := by
  have hu := pUB_all l h hne
  cases l with
  | nil => exact absurd rfl hne
  | cons c r =>
    have hc := h c (List.mem_cons_self ..)
    have c1 : ¬ c.toNat = 43 := by omega
    have c2 : ¬ c.toNat = 45 := by omega
    generalize decV (c :: r) = V at *
    unfold Lib.parseIntB
    simp only [c1, c2, or_self, if_false, hu]
    by_cases h1 : V ≤ 18446744073709551615
    · rw [if_pos h1]
      simp only [not_false_eq_true, true_and, false_and, if_false]
      by_cases h2 : V < 9223372036854775808
      · rw [if_neg (by omega), if_pos h2]
      · rw [if_pos (by omega), if_neg h2]
    · rw [if_neg h1, if_neg (by omega)]
theorem pI_neg (l : List UInt8) (h : ∀ c ∈ l, 48 ≤ c.toNat ∧ c.toNat ≤ 57) (hne : l ≠ []) : Lib.parseIntB 64 (45 :: l) = if decV l ≤ 9223372036854775808 then .ok (-(decV l : Int)) else .range := by
  have hu := pUB_all l h hne
  generalize decV l = V at *
  have e45 : (45 : UInt8).toNat = 45 := rfl
  unfold Lib.parseIntB
  simp only [e45, or_true, if_true, hu]
  by_cases h1 : V ≤ 18446744073709551615
  · rw [if_pos h1]
    simp only [not_true, false_and, if_false, true_and]
    by_cases h2 : V ≤ 9223372036854775808
    · rw [if_neg (by omega), if_pos h2]
    · rw [if_pos (by omega), if_neg h2]
  · rw [if_neg h1, if_neg (by omega)]
theorem allB_ne {A : ByteArray} (h : allB A dec = true) : A.data.toList ≠ [] := by
  intro e; unfold allB at h; rw [e] at h; simp at h
/-- The sign and the rest. -/
theorem dash_cases (s : ByteArray) : (Lib.hasPrefix s.data.toList dash.data.toList = true ∧ s.data.toList = 45 :: (unsg s).data.toList ∧ unsg s = s.extract 1 s.size) ∨ (Lib.hasPrefix s.data.toList dash.data.toList = false ∧ unsg s = s) := by
  have hd : dash.data.toList = [45] := rfl
  cases h : Lib.hasPrefix s.data.toList dash.data.toList
  · right
    refine ⟨rfl, ?_⟩
    unfold unsg Lib.trimPrefix
    rw [h, if_neg (by simp)]
  · left
    have hu : (unsg s).data.toList = s.data.toList.drop 1 := by
      unfold unsg Lib.trimPrefix
      rw [h, if_pos rfl, hd]
      simp
    refine ⟨rfl, ?_, Go.WideShapes.bytes_inj (by rw [hu, ex_hi])⟩
    rw [hu]
    unfold Lib.hasPrefix at h
    rw [hd] at h
    cases hl : s.data.toList with
    | nil => rw [hl] at h; cases h
    | cons c r =>
      rw [hl] at h
      simp at h
      rw [← h]; rfl
/-- Where the point stands. -/
theorem pt_cases (T : ByteArray) : (Lib.indexByte T.data.toList 46 = -1 ∧ cutB T 46 = false ∧ cutA T 46 = T) ∨
    ∃ i : Nat, Lib.indexByte T.data.toList 46 = i ∧ i < T.size ∧ cutB T 46 = true ∧ cutA T 46 = T.extract 0 i ∧ cutZ T 46 = T.extract (i + 1) T.size ∧ allB T dec = false := by
  by_cases h : Lib.indexByte T.data.toList 46 < 0
  · left
    refine ⟨?_, by simp [cutB, h], by simp [cutA, h]⟩
    have : ∀ l : List UInt8, -1 ≤ Lib.indexByte l 46 := by
      intro l
      induction l with
      | nil => decide
      | cons b l ih => unfold Lib.indexByte; split; · omega
                       · split <;> omega
    have := this T.data.toList; omega
  · right
    obtain ⟨i, hk⟩ := Int.eq_ofNat_of_zero_le (show 0 ≤ Lib.indexByte T.data.toList 46 by omega)
    have hlt : i < T.size := by
      rcases indexByte_lt T.data.toList 46 with h | h
      · rw [hk] at h; rw [Lib.size_eq]; omega
      · rw [h] at hk; simp [Lib.indexByte] at hk
    refine ⟨i, hk, hlt, by simp [cutB, h], by unfold cutA; rw [if_neg h, hk]; simp, by unfold cutZ; rw [if_neg h, hk]; simp, ?_⟩
    cases ha : allB T dec
    · rfl
    · exfalso
      have hm := allB_mem ha
      have := ixB_none T.data.toList 46 (fun x hx he => by have := hm x hx; rw [he] at this; exact absurd this.1 (by decide))
      omega
end Go.Proofs.YtidokamfppdnaaaGreatDoor
