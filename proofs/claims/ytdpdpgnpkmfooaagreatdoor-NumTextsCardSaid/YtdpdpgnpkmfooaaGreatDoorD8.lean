/- The document's Read: a text with a point. -/
import Derived.Test.YtdpdpgnpkmfooaaGreatDoorD7
import Derived.Laws.FloatBits
namespace Go.Proofs.YtdpdpgnpkmfooaaGreatDoor
open Go.RowKit

theorem decV_succ (C : List UInt8) (j : Nat) (h : j < C.length) : decV (C.take (j + 1)) = decV (C.take j) * 10 + (C[j].toNat - 48) := by
  rw [List.take_succ_eq_append_getElem h]; unfold decV decF; rw [List.foldl_append]; rfl
theorem decF_lt : ∀ (l : List UInt8) (n : Nat), (∀ c ∈ l, c.toNat ≤ 57) → decF n l < (n + 1) * 10 ^ l.length
  | [], n, _ => by simp [decF]
  | c :: l, n, h => by
    have h1 := decF_lt l (n * 10 + (c.toNat - 48)) (fun x hx => h x (by simp [hx]))
    have h2 := h c (by simp)
    show decF (n * 10 + (c.toNat - 48)) l < _
    rw [List.length_cons, Nat.pow_succ]
    refine Nat.lt_of_lt_of_le h1 ?_
    rw [Nat.mul_comm (10 ^ l.length) 10, ← Nat.mul_assoc]
    exact Nat.mul_le_mul_right _ (by omega)
theorem decV_lt (l : List UInt8) (h : ∀ c ∈ l, c.toNat ≤ 57) (k : Nat) (hk : l.length ≤ k) : decV l < 10 ^ k := by
  have h1 := decF_lt l 0 h
  have h2 : 10 ^ l.length ≤ 10 ^ k := Nat.pow_le_pow_right (by decide) hk
  unfold decV; omega

/-- The digits about the point. -/
def ptL (T : ByteArray) (i : Nat) : List UInt8 := T.data.toList.take i ++ T.data.toList.drop (i + 1)
theorem ptL_len (T : ByteArray) (i : Nat) (h : i < T.size) : (ptL T i).length + 1 = T.size := by
  unfold ptL; rw [List.length_append, List.length_take, List.length_drop, ← Lib.size_eq]; omega
theorem ptL_lo (T : ByteArray) (i k : Nat) (hi : i < T.size) (h : k < i) : decV ((ptL T i).take (k + 1)) = decV ((ptL T i).take k) * 10 + ((T[k]'(by omega)).toNat - 48) := by
  have hl := ptL_len T i hi
  rw [decV_succ _ _ (by omega)]
  have e : (ptL T i)[k]'(by omega) = T[k]'(by omega) := by
    unfold ptL
    rw [List.getElem_append_left (by rw [List.length_take, ← Lib.size_eq]; omega), List.getElem_take]; rfl
  rw [e]
theorem ptL_hi (T : ByteArray) (i k : Nat) (hi : i < k) (h : k < T.size) : decV ((ptL T i).take k) = decV ((ptL T i).take (k - 1)) * 10 + ((T[k]'h).toNat - 48) := by
  have hl := ptL_len T i (by omega)
  have h1 := decV_succ (ptL T i) (k - 1) (by omega)
  have e : (ptL T i)[k - 1]'(by omega) = T[k]'h := by
    unfold ptL
    rw [List.getElem_append_right (by rw [List.length_take, ← Lib.size_eq]; omega), List.getElem_drop]
    have : i + 1 + (k - 1 - (T.data.toList.take i).length) = k := by rw [List.length_take, ← Lib.size_eq]; omega
    simp only [this]; rfl
  rw [e, show k - 1 + 1 = k by omega] at h1
  exact h1
theorem allB_mem {A : ByteArray} (h : allB A dec = true) : ∀ c ∈ A.data.toList, 48 ≤ c.toNat ∧ c.toNat ≤ 57 := fun c hc => by
  unfold allB at h
  rw [Bool.and_eq_true, List.all_eq_true] at h
  have := h.1 c hc
  rwa [inD, Bool.and_eq_true, decide_eq_true_eq, decide_eq_true_eq] at this
theorem ex_lo (T : ByteArray) (i : Nat) : (T.extract 0 i).data.toList = T.data.toList.take i := by
  rw [ByteArray.data_extract]; simp
theorem ex_hi (T : ByteArray) (i : Nat) : (T.extract i T.size).data.toList = T.data.toList.drop i := Lib.extract_to_end T i
theorem pt_dig (T : ByteArray) (i k : Nat) (h1 : allB (T.extract 0 i) dec = true) (h2 : allB (T.extract (i + 1) T.size) dec = true) (hk : k < T.size) (hne : k ≠ i) : 48 ≤ (T[k]'hk).toNat ∧ (T[k]'hk).toNat ≤ 57 := by
  rcases Nat.lt_or_ge k i with h | h
  · refine allB_mem h1 _ ?_
    rw [ex_lo]
    exact List.mem_take_iff_getElem.2 ⟨k, by rw [← Lib.size_eq]; omega, rfl⟩
  · refine allB_mem h2 _ ?_
    rw [ex_hi]
    refine List.mem_iff_getElem.2 ⟨k - (i + 1), by rw [List.length_drop, ← Lib.size_eq]; omega, ?_⟩
    rw [List.getElem_drop]
    have : i + 1 + (k - (i + 1)) = k := by omega
    simp only [this]; rfl
theorem pt_all (T : ByteArray) (i : Nat) (h1 : allB (T.extract 0 i) dec = true) (h2 : allB (T.extract (i + 1) T.size) dec = true) : ∀ c ∈ ptL T i, c.toNat ≤ 57 := fun c hc => by
  unfold ptL at hc
  rw [List.mem_append] at hc
  rcases hc with hc | hc
  · rw [← ex_lo] at hc; exact (allB_mem h1 c hc).2
  · rw [← ex_hi] at hc; exact (allB_mem h2 c hc).2

theorem quo_any (x y : Nat) (w : World) :
    ∃ r w1, (binOp .quo 24 (.float .f64 x) (.float .f64 y)).run Tryz.prog w = .ok (.float .f64 r) w1 ∧ flt r = fltO (floatBits .quo .f64 x y) ∧ r < 18446744073709551616 ∧ Below w.heap.size w w1 := by
  cases h : floatBits .quo .f64 x y with
  | some r => exact ⟨r, w, run_float_arith w .quo 24 .f64 x y r h, rfl, by simp only [floatBits] at h; exact Ieee.Format.div_lt _ h, Below.refl _ _⟩
  | none =>
    refine ⟨(Question.nanBits .f64 x y).cut (w.tape w.drawn (.nanBits .f64 x y)), w.drew, ?_, ?_, ?_, (Below.refl _ _).drew⟩
    · simp only [floatBits] at h; simp [binOp, Op.floatArith, h, Question.forced]
    · unfold flt; rw [nan_drawn]; rfl
    · generalize w.tape w.drawn (.nanBits .f64 x y) = t
      have e : (Question.nanBits .f64 x y).cut t = (t % 2) * 9223372036854775808 + 9218868437227405312 + 1 + (t / 2) % 4503599627370495 := rfl
      rw [e]
      have h1 : t % 2 < 2 := Nat.mod_lt _ (by decide)
      have h2 : (t / 2) % 4503599627370495 < 4503599627370495 := Nat.mod_lt _ (by decide)
      omega

theorem isNum_flt (r : Nat) (h : r < 18446744073709551616) : isNum 3 (flt r) = true := by
  unfold isNum flt
  cases hn : Fm.nanB r
  · rw [if_neg (by simp), B_bi h, hn]; rfl
  · rw [if_pos rfl]; simp
theorem nan9 : Fm.nanB (B 9221120237041090561) = true := by decide +kernel
theorem ng_flt (r : Nat) (h : r < 18446744073709551616) : ngN 3 (flt r) = flt (Fm.neg r) := by
  have e0 : ngN 3 (flt r) = flt (Fm.neg (B (flt r))) := by simp [ngN, isNum_flt r h]
  rw [e0]
  cases hn : Fm.nanB r
  · have e : flt r = bi r := by unfold flt; rw [hn, if_neg (by decide)]
    rw [e, B_bi h]
  · have e : flt r = 9221120237041090561 := by unfold flt; rw [hn, if_pos rfl]
    have e2 : flt (Fm.neg (B 9221120237041090561)) = 9221120237041090561 := by unfold flt; rw [Fm.nan_neg (B_lt _), nan9, if_pos rfl]
    have e3 : flt (Fm.neg r) = 9221120237041090561 := by unfold flt; rw [Fm.nan_neg h, hn, if_pos rfl]
    rw [e, e2, e3]

/-- The number of a text with a point. -/
def ptN (v : Int) (k : Nat) : Int := fltO (floatBits .quo .f64 (Fm.ofInt v) (pw k))
def ptM (M : Bool) (v : Int) (k : Nat) : Int := if M then ngN 3 (ptN v k) else ptN v k
end Go.Proofs.YtdpdpgnpkmfooaaGreatDoor
