/- Numbers made, and ints and texts with a point read. Out of the numbers' own texts, renumbered. -/
import Derived.Test.YtidokamfppdnaaaGreatDoorRows
import Derived.Test.YtidokamfppdnaaaGreatDoorFm5
import Derived.Test.YtidokamfppdnaaaGreatDoorShelf
import Derived.WalkKit
import Derived.WalkSpells
import Derived.WalkLawsBesides
import Derived.Laws.EntriesVeiled
import Derived.Deep.QuietTactic
import Derived.BigQuiet
namespace Go.Proofs.YtidokamfppdnaaaGreatDoor
open Go.RowKit
set_option linter.unusedSimpArgs false
set_option linter.unusedVariables false

/-- A value of the language, as the program holds it. -/
abbrev AV (t n : Int) : Value := .agg #[.int .i64 t, .int .i64 n]
/-- The bits of an int. -/
def B (n : Int) : Nat := (IntKind.u64.wrap n).toNat
/-- The int of bits. -/
def bi (x : Nat) : Int := wrap64 (x : Int)
/-- The N of Float. -/
def flt (x : Nat) : Int := if Fm.nanB x then 9221120237041090561 else bi x
/-- Is it a number? -/
def isNum (t n : Int) : Bool := t == 2 || (t == 3 && (!Fm.nanB (B n) || n == 9221120237041090561))
theorem B_eq {n : Int} : (B n : Int) = n % 18446744073709551616 := by
  unfold B; rw [IntKind.wrap_u64]; omega
theorem B_bi {x : Nat} (h : x < 18446744073709551616) : B (bi x) = x := by
  have := B_eq (n := bi x); unfold bi wrap64 at this ⊢; omega
theorem bi_bounds (x : Nat) : -9223372036854775808 ≤ bi x ∧ bi x ≤ 9223372036854775807 := by
  unfold bi wrap64; omega
theorem flt_bounds (x : Nat) : -9223372036854775808 ≤ flt x ∧ flt x ≤ 9223372036854775807 := by
  unfold flt; have := bi_bounds x; split <;> omega
theorem call_frombits (n : Int) (w : World) : (callFunc 71 #[.int .u64 (IntKind.u64.wrap n)]).run Tryz.prog w = .ok (.value (.float .f64 (B n))) w := by kernel_rfl
theorem call_bits (x : Nat) (w : World) : (callFunc 58 #[.float .f64 x]).run Tryz.prog w = .ok (.value (.int .u64 x)) w := by kernel_rfl
set_option maxHeartbeats 400000 in
theorem Int_any (n : Int) (w : World) :
    Calls Tryz.prog 66 #[.int .i64 n] w fun e w' => e = .returned (AV 2 n) ∧ Below w.heap.size w w' := by
  go_enter Tryz.func66, Tryz.ntmps66
  go_wp2
  exact bodyPost_ret (v := AV 2 n) (by simp [results, Tryz.results66, go_sem]) rfl ⟨rfl, (Below.refl _ _).alloc (Nat.le_refl _) _⟩
set_option maxHeartbeats 400000 in
theorem pointed_any (t n : Int) (w : World) :
    Calls Tryz.prog 68 #[AV t n] w fun e w' => e = .returned (.float .f64 (B n)) ∧ Below w.heap.size w w' := by
  have hc := call_frombits n
  go_enter Tryz.func68, Tryz.ntmps68
  go_wp2
  go_ret
  exact ⟨rfl, (Below.refl _ _).alloc (Nat.le_refl _) _⟩
theorem isnan_eq (x : Nat) : (FloatKind.f64.format.order x x != some .eq) = Fm.nanB x := by
  show (Ieee.double.order x x != some .eq) = _
  rw [Fm.order_self]; cases Fm.nanB x <;> rfl
set_option maxHeartbeats 400000 in
theorem IsNaN_any (x : Nat) (w : World) :
    Calls Tryz.prog 74 #[.float .f64 x] w fun e w' => e = .returned (.bool (Fm.nanB x)) ∧ w' = w := by
  go_enter Tryz.func74, Tryz.ntmps74
  go_wp2
  go_ret
  exact ⟨by rw [← isnan_eq x]; rfl, rfl⟩
set_option maxHeartbeats 400000 in
theorem ofBits_any (x : Int) (w : World) :
    Calls Tryz.prog 62 #[.int .u64 x] w fun e w' => e = .returned (AV 3 (wrap64 x)) ∧ Below w.heap.size w w' := by
  go_enter Tryz.func62, Tryz.ntmps62
  go_wp2
  exact bodyPost_ret (v := AV 3 (wrap64 x)) (by simp [results, Tryz.results62, go_sem]) rfl ⟨rfl, (Below.refl _ _).alloc (Nat.le_refl _) _⟩
theorem bcell {W w1 : World} (hb : Below W.heap.size W w1) : (∀ b o, b < W.heap.size → w1.cell? ⟨b, o, none⟩ = W.cell? ⟨b, o, none⟩) ∧ (∀ b o, b < W.heap.size → w1.frozen? ⟨b, o, none⟩ = W.frozen? ⟨b, o, none⟩) :=
  ⟨fun b o h => hb.cell (p := ⟨b, o, none⟩) h, fun b o h => hb.frozen (p := ⟨b, o, none⟩) h⟩
set_option maxHeartbeats 400000 in
theorem Float_any (x : Nat) (w : World) :
    Calls Tryz.prog 67 #[.float .f64 x] w fun e w' => e = .returned (AV 3 (flt x)) ∧ Below w.heap.size w w' := by
  cases h : Fm.nanB x
  · have hk := call_bits x
    go_enter Tryz.func67, Tryz.ntmps67
    go_wp2_with (first | (go_at_call 74; refine (IsNaN_any _ _).mono ?_; rintro e w' ⟨rfl, rfl⟩))
    go_wp2_with fail
    refine (ofBits_any _ _).mono ?_
    rintro e w1 ⟨rfl, hb⟩
    obtain ⟨hc, hf⟩ := bcell hb
    have hz : w.heap.size < w1.heap.size := by have := hb.size; simp at this; omega
    go_wp2
    exact bodyPost_ret (v := AV 3 (wrap64 x)) (by simp [results, Tryz.results67, go_sem, hc]) rfl ⟨by simp [flt, h, bi], ((((Below.refl _ _).alloc (Nat.le_refl _) _).trans (hb.mono (by simp))).setCell (Nat.le_refl _) _).setCell (Nat.le_refl _) _⟩
  · go_enter Tryz.func67, Tryz.ntmps67
    go_wp2_with (first | (go_at_call 74; refine (IsNaN_any _ _).mono ?_; rintro e w' ⟨rfl, rfl⟩))
    go_wp2_with fail
    refine (ofBits_any _ _).mono ?_
    rintro e w1 ⟨rfl, hb⟩
    obtain ⟨hc, hf⟩ := bcell hb
    have hz : w.heap.size < w1.heap.size := by have := hb.size; simp at this; omega
    go_wp2
    exact bodyPost_ret (v := AV 3 (wrap64 9221120237041090561)) (by simp [results, Tryz.results67, go_sem, hc]) rfl ⟨by simp [flt, h, wrap64], ((((Below.refl _ _).alloc (Nat.le_refl _) _).trans (hb.mono (by simp))).setCell (Nat.le_refl _) _).setCell (Nat.le_refl _) _⟩
theorem wrapnan {n : Int} (h1 : -9223372036854775808 ≤ n) (h2 : n ≤ 9223372036854775807) : (IntKind.u64.wrap n == 9221120237041090561) = (n == 9221120237041090561) := by
  rw [IntKind.wrap_u64, Bool.eq_iff_iff]; simp only [beq_iff_eq]; omega
set_option maxHeartbeats 400000 in
theorem Is_any (t n : Int) (w : World) (h1 : -9223372036854775808 ≤ n) (h2 : n ≤ 9223372036854775807) :
    Calls Tryz.prog 63 #[AV t n] w fun e w' => e = .returned (.bool (isNum t n)) ∧ Below w.heap.size w w' := by
  by_cases ht : t = 2
  · subst ht
    go_enter Tryz.func63, Tryz.ntmps63
    go_wp2
    go_ret
    exact ⟨by simp [isNum], (Below.refl _ _).alloc (Nat.le_refl _) _⟩
  · have ht2 : (t == 2) = false := by simp [ht]
    by_cases ht' : t = 3
    · subst ht'
      have hn := wrapnan h1 h2
      clear h1 h2 ht
      cases hb : (n == 9221120237041090561)
      · rw [hb] at hn
        go_enter Tryz.func63, Tryz.ntmps63
        go_wp2_with fail
        refine (pointed_any _ _ _).mono ?_
        rintro e w1 ⟨rfl, hb1⟩
        go_wp2_with (first | (go_at_call 74; refine (IsNaN_any _ _).mono ?_; rintro e w' ⟨rfl, rfl⟩))
        go_ret
        exact ⟨by simp [isNum, hb], ((Below.refl _ _).alloc (Nat.le_refl _) _).trans (hb1.mono (by simp))⟩
      · rw [hb] at hn
        go_enter Tryz.func63, Tryz.ntmps63
        go_wp2
        go_ret
        exact ⟨by simp [isNum, hb], (Below.refl _ _).alloc (Nat.le_refl _) _⟩
    · have ht3 : (t == 3) = false := by simp [ht']
      go_enter Tryz.func63, Tryz.ntmps63
      go_wp2
      go_ret
      exact ⟨by simp [isNum, ht2, ht3], (Below.refl _ _).alloc (Nat.le_refl _) _⟩
theorem num_cases {t n : Int} (h : isNum t n = true) (ht : ¬ t = 2) : t = 3 := by
  unfold isNum at h; simp [ht] at h; exact h.1
/-- The ends of a walk with one box and one callee. -/
theorem end1 {w w1 : World} {o : Obj} (hb : Below (w.alloc o).heap.size (w.alloc o) w1) : Below w.heap.size w w1 :=
  ((Below.refl _ _).alloc (Nat.le_refl _) _).trans (hb.mono (by simp))
theorem size1 {w w1 : World} {o : Obj} (hb : Below (w.alloc o).heap.size (w.alloc o) w1) : w.heap.size < w1.heap.size := by
  have := hb.size; simp at this; omega
/-- The negative's N, and the error. -/
def ngN (t n : Int) : Int := if isNum t n then (if t = 2 then wrap64 (-n) else flt (Fm.neg (B n))) else 0
def ngT (t n : Int) : Int := if isNum t n then t else 0
def ngE (t n : Int) : Int := if isNum t n then 0 else 10
theorem end2 {w w1 : World} {o p : Obj} (hb : Below ((w.alloc o).alloc p).heap.size ((w.alloc o).alloc p) w1) : Below w.heap.size w w1 :=
  (((Below.refl _ _).alloc (Nat.le_refl _) _).alloc (by simp) _).trans (hb.mono (by simp; omega))
theorem size2 {w w1 : World} {o p : Obj} (hb : Below ((w.alloc o).alloc p).heap.size ((w.alloc o).alloc p) w1) : w.heap.size + 1 < w1.heap.size := by
  have := hb.size; simp at this; omega
set_option maxHeartbeats 1000000 in
theorem Neg_any (t n : Int) (w : World) (h1 : -9223372036854775808 ≤ n) (h2 : n ≤ 9223372036854775807) :
    Calls Tryz.prog 53 #[AV t n] w fun e w' => e = .returned (.tuple #[AV (ngT t n) (ngN t n), .int .i64 (ngE t n)]) ∧ Below w.heap.size w w' := by
  cases hi : isNum t n
  · have HN : Hid (ngT t n = 0 ∧ ngN t n = 0 ∧ ngE t n = 10) := ⟨by simp [ngT, hi], by simp [ngN, hi], by simp [ngE, hi]⟩
    go_enter Tryz.func53, Tryz.ntmps53
    go_wp2_with fail
    refine (Is_any _ _ _ h1 h2).mono ?_
    rintro e w1 ⟨rfl, hb⟩
    obtain ⟨hc, hf⟩ := bcell hb
    have hz := size2 hb
    go_wp2
    refine bodyPost_ret (v := .tuple #[AV 0 0, .int .i64 10]) (by simp [results, Tryz.results53, go_sem, hc]) rfl ⟨by rw [HN.out.1, HN.out.2.1, HN.out.2.2], ?_⟩
    exact ((end2 hb).setCell (by simp) _).setCell (by simp) _
  · by_cases ht : t = 2
    · subst ht
      have HN : Hid (ngT 2 n = 2 ∧ ngN 2 n = wrap64 (-n) ∧ ngE 2 n = 0) := ⟨by simp [ngT, hi], by simp [ngN, hi], by simp [ngE, hi]⟩
      go_enter Tryz.func53, Tryz.ntmps53
      go_wp2_with fail
      refine (Is_any _ _ _ h1 h2).mono ?_
      rintro e w1 ⟨rfl, hb⟩
      obtain ⟨hc, hf⟩ := bcell hb
      have hz := size2 hb
      go_wp2_with fail
      refine (Int_any _ _).mono ?_
      rintro e w2 ⟨rfl, hb2⟩
      obtain ⟨hc2, hf2⟩ := bcell hb2
      have hz2 := hb2.size
      go_wp2
      refine bodyPost_ret (v := .tuple #[AV 2 (wrap64 (-n)), .int .i64 0]) (by simp [results, Tryz.results53, go_sem, hc, hc2, hz]) rfl ⟨by rw [HN.out.1, HN.out.2.1, HN.out.2.2], ?_⟩
      exact (((end2 hb).trans (hb2.mono (by omega))).setCell (by simp) _).setCell (by simp) _
    · obtain rfl := num_cases hi ht
      clear ht
      have hneg : ∀ w, (Op.unary .neg (.float .f64 (B n))).run Tryz.prog w = .ok (.float .f64 (Fm.neg (B n))) w := fun _ => rfl
      have HN : Hid (ngT 3 n = 3 ∧ ngN 3 n = flt (Fm.neg (B n)) ∧ ngE 3 n = 0) := ⟨by simp [ngT, hi], by simp [ngN, hi], by simp [ngE, hi]⟩
      go_enter Tryz.func53, Tryz.ntmps53
      go_wp2_with fail
      refine (Is_any _ _ _ h1 h2).mono ?_
      rintro e w1 ⟨rfl, hb⟩
      obtain ⟨hc, hf⟩ := bcell hb
      have hz := size2 hb
      go_wp2_with fail
      refine (pointed_any _ _ _).mono ?_
      rintro e w2 ⟨rfl, hb2⟩
      obtain ⟨hc2, hf2⟩ := bcell hb2
      have hz2 := hb2.size
      have hz' : w.heap.size + 1 < w2.heap.size := by omega
      go_wp2_with fail
      refine (Float_any (Fm.neg (B n)) _).mono ?_
      rintro e w3 ⟨rfl, hb3⟩
      obtain ⟨hc3, hf3⟩ := bcell hb3
      have hz3 := hb3.size
      go_wp2
      refine bodyPost_ret (v := .tuple #[AV 3 (flt (Fm.neg (B n))), .int .i64 0]) (by simp [results, Tryz.results53, go_sem, hc, hc2, hc3, hz, hz']) rfl ⟨by rw [HN.out.1, HN.out.2.1, HN.out.2.2], ?_⟩
      exact ((((end2 hb).trans (hb2.mono (by omega))).trans (hb3.mono (by omega))).setCell (by simp) _).setCell (by simp) _
/-- The N of Float of what an operation gives; where it gives no number it is the one NaN. -/
def fltO : Option Nat → Int
  | none => 9221120237041090561
  | some r => flt r
theorem nan_drawn (x y t : Nat) : Fm.nanB ((Question.nanBits .f64 x y).cut t) = true := by
  have e : (Question.nanBits .f64 x y).cut t = (t % 2) * 9223372036854775808 + 9218868437227405312 + 1 + (t / 2) % 4503599627370495 := rfl
  rw [e]
  have h1 : t % 2 < 2 := Nat.mod_lt _ (by decide)
  have h2 : (t / 2) % 4503599627370495 < 4503599627370495 := Nat.mod_lt _ (by decide)
  generalize t % 2 = a at *
  generalize (t / 2) % 4503599627370495 = b at *
  unfold Fm.nanB
  exact decide_eq_true (by omega)
theorem run_float_any (op : BinOp) (h4 : op = .add ∨ op = .sub ∨ op = .mul ∨ op = .quo) (x y : Nat) (w : World) :
    ∃ r w1, (binOp op 71 (.float .f64 x) (.float .f64 y)).run Tryz.prog w = .ok (.float .f64 r) w1 ∧ flt r = fltO (floatBits op .f64 x y) ∧ Below w.heap.size w w1 := by
  cases h : floatBits op .f64 x y with
  | some r => exact ⟨r, w, run_float_arith w op 71 .f64 x y r h, rfl, Below.refl _ _⟩
  | none =>
    refine ⟨(Question.nanBits .f64 x y).cut (w.tape w.drawn (.nanBits .f64 x y)), w.drew, ?_, ?_, (Below.refl _ _).drew⟩
    · rcases h4 with rfl | rfl | rfl | rfl <;> simp only [floatBits] at h <;> simp [binOp, Op.floatArith, h, Question.forced]
    · unfold flt; rw [nan_drawn]; rfl
theorem chainB {w a b : World} (h : Hid (Below w.heap.size w a)) (k : Below a.heap.size a b) : Hid (Below w.heap.size w b) := h.out.trans (k.mono h.out.size)
theorem al {w : World} {b o' : Nat} {v : Value} {o : Obj} (h : w.cell? ⟨b, o', none⟩ = some v) (hb : b < w.heap.size) : (w.alloc o).cell? ⟨b, o', none⟩ = some v := by
  rw [((Below.refl w.heap.size w).alloc (Nat.le_refl _) o).cell (p := ⟨b, o', none⟩) hb]; exact h
theorem fro_later {a w : World} {b o' : Nat} {v : Bool} (k : Below a.heap.size a w) (h : a.frozen? ⟨b, o', none⟩ = v) (hb : b < a.heap.size) : w.frozen? ⟨b, o', none⟩ = v := by
  rw [k.frozen (p := ⟨b, o', none⟩) hb]; exact h
/-- Are all bytes among d, and one at least? -/
def inB (d : ByteArray) (c : UInt8) : Bool := !decide (Lib.indexByte d.data.toList c < 0)
def allB (s d : ByteArray) : Bool := s.data.toList.all (inB d) && !s.data.toList.isEmpty
theorem take_snoc (s : ByteArray) (k : Nat) (h : k < s.size) : s.data.toList.take (k + 1) = s.data.toList.take k ++ [s[k]] := by
  rw [List.take_succ_eq_append_getElem (by simpa using h)]; rfl
theorem all_not {s d : ByteArray} {k : Nat} (h : k < s.size) (hn : inB d s[k] = false) : allB s d = false := by
  unfold allB
  have : s.data.toList.all (inB d) = false := by
    rw [List.all_eq_false]
    exact ⟨s[k], List.getElem_mem (l := s.data.toList) (n := k) (by simpa using h), by rw [hn]; decide⟩
  rw [this]; rfl
theorem empty_eq (s : ByteArray) : s.toList.isEmpty = s.data.toList.isEmpty := by
  have h := decide_eq_emptyBytes s
  rw [← h, Bool.eq_iff_iff, decide_eq_true_eq, List.isEmpty_iff]
  constructor
  · intro e; rw [e]; rfl
  · intro e; exact Go.WideShapes.bytes_inj (by rw [e]; rfl)
theorem indexByte_b (d : ByteArray) (c : UInt8) (w : World) :
    Calls Tryz.prog 35 #[.string d, .int .u8 c.toNat] w fun e w' => e = .returned (.int .i64 (Lib.indexByte d.data.toList c)) ∧ w' = w := by
  have h := Tryz.strings_IndexByte d c.toNat w
  have e : ((c.toNat : Int).toNat).toUInt8 = c := by rw [Int.toNat_natCast]; exact UInt8.ofNat_toNat
  rw [e] at h
  exact h
set_option maxHeartbeats 1000000 in
theorem allOf_any (s d : ByteArray) (w : World) (hs : s.size ≤ maxLen) :
    Calls Tryz.prog 50 #[.string s, .string d] w fun e w' => e = .returned (.bool (allB s d)) ∧ w' = w := by
  unfold maxLen at hs
  go_enter Tryz.func50, Tryz.ntmps50
  go_wp2_with fail
  go_loop [8] (fun i => ∃ k : Nat, k ≤ s.size ∧ i = .int .i64 k ∧ Hid ((s.data.toList.take k).all (inB d) = true)) (fun i => s.size - (intOf i).toNat)
  case atStart => exact ⟨0, Nat.zero_le _, rfl, rfl⟩
  case round =>
    obtain ⟨k, hk, rfl, ha⟩ := hrel
    by_cases hlt : k < s.size
    · have HT : Hid (s.data.toList.take (k + 1) = s.data.toList.take k ++ [s[k]]) := take_snoc s k hlt
      by_cases hn : Lib.indexByte d.data.toList s[k] < 0
      · have HA : Hid (allB s d = false) := all_not hlt (by unfold inB; rw [decide_eq_true hn]; rfl)
        go_wp2_with (first | (go_at_call 35; refine (indexByte_b _ _ _).mono ?_; rintro e w' ⟨rfl, rfl⟩))
        go_ret
        exact ⟨by rw [HA.out]; rfl, rfl⟩
      · have HN : Hid (inB d s[k] = true) := by show inB d s[k] = true; unfold inB; rw [decide_eq_false hn]; rfl
        go_wp2_with (first | (go_at_call 35; refine (indexByte_b _ _ _).mono ?_; rintro e w' ⟨rfl, rfl⟩))
        go_round
        case rel => exact ⟨k + 1, by omega, by go_num, by show List.all _ _ = true; rw [HT.out, List.all_append, ha.out]; simp [HN.out]⟩
        case measure => simp [intOf]; omega
    · have he : k = s.size := by omega
      subst he
      have hA : (s.data.toList.take s.size).all (inB d) = true := ha.out
      rw [List.take_of_length_le (by simp)] at hA
      have HA : Hid (allB s d = !s.data.toList.isEmpty) := by show allB s d = _; unfold allB; rw [hA]; rfl
      clear ha hA
      go_wp2
      go_ret
      exact ⟨by rw [HA.out, ← empty_eq s]; rfl, rfl⟩
/-- A text cut at the first byte c. -/
def cutA (s : ByteArray) (c : UInt8) : ByteArray := if Lib.indexByte s.data.toList c < 0 then s else s.extract 0 (Lib.indexByte s.data.toList c).toNat
def cutZ (s : ByteArray) (c : UInt8) : ByteArray := if Lib.indexByte s.data.toList c < 0 then ⟨#[]⟩ else s.extract ((Lib.indexByte s.data.toList c).toNat + 1) s.size
def cutB (s : ByteArray) (c : UInt8) : Bool := !decide (Lib.indexByte s.data.toList c < 0)
theorem indexByte_lt (l : List UInt8) (c : UInt8) : Lib.indexByte l c < l.length ∨ l = [] := by
  induction l with
  | nil => exact Or.inr rfl
  | cons b l ih =>
    left
    unfold Lib.indexByte
    split
    · simp
    · split
      · simp; omega
      · rcases ih with ih | ih
        · simp; omega
        · subst ih; simp [Lib.indexByte] at *
set_option maxHeartbeats 1000000 in
theorem cutS_any (s : ByteArray) (c : UInt8) (w : World) (hs : s.size ≤ maxLen) :
    Calls Tryz.prog 64 #[.string s, .string ⟨#[c]⟩] w fun e w' => e = .returned (.tuple #[.string (cutA s c), .string (cutZ s c), .bool (cutB s c)]) ∧ Below w.heap.size w w' := by
  unfold maxLen at hs
  by_cases hi : Lib.indexByte s.data.toList c < 0
  · have HV : Hid (cutA s c = s ∧ cutZ s c = ⟨#[]⟩ ∧ cutB s c = false) := ⟨by simp [cutA, hi], by simp [cutZ, hi], by simp [cutB, hi]⟩
    go_enter Tryz.func64, Tryz.ntmps64
    go_wp2_with (first | (go_at_call 75; refine (Tryz.stringslite_Index_one _ _ _).mono ?_; rintro e w' ⟨rfl, rfl⟩))
    go_ret3
    exact ⟨by rw [HV.out.1, HV.out.2.1, HV.out.2.2]; rfl, Below.refl _ _⟩
  · obtain ⟨i, hk⟩ := Int.eq_ofNat_of_zero_le (show 0 ≤ Lib.indexByte s.data.toList c by omega)
    have hlt : i < s.size := by
      rcases indexByte_lt s.data.toList c with h | h
      · rw [hk] at h; rw [Lib.size_eq]; omega
      · rw [h] at hk; simp [Lib.indexByte] at hk
    have HV : Hid (cutA s c = s.extract 0 i ∧ cutZ s c = s.extract (i + 1) s.size ∧ cutB s c = true) := by
      refine ⟨?_, ?_, ?_⟩
      · unfold cutA; rw [if_neg hi, hk]; simp
      · unfold cutZ; rw [if_neg hi, hk]; simp
      · unfold cutB; rw [decide_eq_false hi]; rfl
    have HK : Hid (Lib.indexByte s.data.toList c = (i : Int)) := hk
    clear hi hk
    go_enter Tryz.func64, Tryz.ntmps64
    go_wp2_with fail
    refine (Tryz.stringslite_Index_one _ _ _).mono ?_
    rintro e w' ⟨rfl, rfl⟩
    rw [HK.out]
    go_wp2
    go_quiet (fail)
    go_wp2
    go_ret3
    exact ⟨by rw [HV.out.1, HV.out.2.1, HV.out.2.2]; rfl, below_drewN (Below.refl _ _) _⟩
set_option maxHeartbeats 1000000 in
theorem Cut_any (s : ByteArray) (c : UInt8) (w : World) (hs : s.size ≤ maxLen) :
    Calls Tryz.prog 49 #[.string s, .string ⟨#[c]⟩] w fun e w' => e = .returned (.tuple #[.string (cutA s c), .string (cutZ s c), .bool (cutB s c)]) ∧ Below w.heap.size w w' := by
  go_enter Tryz.func49, Tryz.ntmps49
  go_wp2_with fail
  refine (cutS_any _ _ _ hs).mono ?_
  rintro e w1 ⟨rfl, hb⟩
  go_wp2
  go_ret3
  exact ⟨rfl, hb⟩
/-- The words of the powers of ten. -/
def pw (k : Nat) : Nat := Fm.ofInt ((10 ^ k : Nat) : Int)
theorem pw_step : ∀ k : Nat, k < 15 → Ieee.double.mul (pw k) 4621819117588971520 = some (pw (k + 1)) := by decide +kernel
theorem pw_zero : pw 0 = 4607182418800017408 := by decide +kernel
set_option maxHeartbeats 1000000 in
theorem readPointed_range (a b : ByteArray) (w : World) (ha : a.size ≤ 140737488351232) (hb : b.size ≤ 140737488351232) (hl : 15 < a.size + b.size) :
    Calls Tryz.prog 52 #[.string a, .string b] w fun e w' => e = .returned (.tuple #[AV 0 0, .int .i64 7]) ∧ Below w.heap.size w w' := by
  have hl' : (15 : Int) < (a.size : Int) + (b.size : Int) := by omega
  go_enter Tryz.func52, Tryz.ntmps52
  go_wp2
  refine bodyPost_ret (v := .tuple #[AV 0 0, .int .i64 7]) (by simp [results, Tryz.results52, go_sem]) rfl ⟨rfl, ?_⟩
  exact (Below.refl _ _).alloc (Nat.le_refl _) _
theorem ParseInt_ok (s : ByteArray) (v : Int) (w : World) (hs : s.size ≤ 140737488355328) (hp : Lib.parseIntB 64 s.data.toList = .ok v) :
    Calls Tryz.prog 65 #[.string s, .int .i64 10, .int .i64 64] w fun e w' => e = .returned (.tuple #[.int .i64 v, .nilIface]) ∧ Below w.heap.size w w' := by
  refine (Tryz.strconv_ParseInt_10_at64_ok s (by omega) v hp w).mono ?_
  rintro e w' ⟨rfl, h | ⟨t, h⟩⟩
  · exact ⟨rfl, by rw [h]; exact Below.refl _ _⟩
  · exact ⟨rfl, by rw [h]; exact Lib.bytesWorld_below _ _ _⟩
set_option maxHeartbeats 1000000 in
theorem readPointed_ok (a b : ByteArray) (v : Int) (w : World) (hl : a.size + b.size ≤ 15) (hp : Lib.parseIntB 64 (a ++ b).data.toList = .ok v) :
    Calls Tryz.prog 52 #[.string a, .string b] w fun e w' => e = .returned (.tuple #[AV 3 (fltO (floatBits .quo .f64 (Fm.ofInt v) (pw b.size))), .int .i64 0]) ∧ Below w.heap.size w w' := by
  have hl' : ¬ (15 : Int) < (a.size : Int) + (b.size : Int) := by omega
  have hz : (a ++ b).size ≤ 140737488355328 := by rw [ByteArray.size_append]; omega
  have HP : Hid (Lib.parseIntB 64 (a ++ b).data.toList = .ok v) := hp
  clear hp
  go_enter Tryz.func52, Tryz.ntmps52
  go_wp2_with fail
  refine (ParseInt_ok _ v _ hz HP.out).mono ?_
  rintro e w1 ⟨rfl, hb1⟩
  have k5 := cell_later hb1 (show (w.alloc (.cells #[.int .i64 0, .int .i64 0] 36)).cell? ⟨w.heap.size, 0, none⟩ = some (.int .i64 0) by simp [go_sem])
  have k6 := cell_later hb1 (show (w.alloc (.cells #[.int .i64 0, .int .i64 0] 36)).cell? ⟨w.heap.size, 1, none⟩ = some (.int .i64 0) by simp [go_sem])
  have z1 : w.heap.size < w1.heap.size := size1 hb1
  have l5 := fro_later hb1 (show (w.alloc (.cells #[.int .i64 0, .int .i64 0] 36)).frozen? ⟨w.heap.size, 0, none⟩ = false by simp [go_sem]) (by simp)
  have l6 := fro_later hb1 (show (w.alloc (.cells #[.int .i64 0, .int .i64 0] 36)).frozen? ⟨w.heap.size, 1, none⟩ = false by simp [go_sem]) (by simp)
  have HB : Hid (Below w.heap.size w w1) := end1 hb1
  clear hb1
  go_wp2_with fail
  go_loop [8, 25] (fun p i => ∃ k : Nat, k ≤ b.size ∧ i = .int .i64 k ∧ p = .float .f64 (pw k)) (fun _ i => b.size - (intOf i).toNat)
  case atStart => exact ⟨0, Nat.zero_le _, rfl, by rw [pw_zero]⟩
  case round =>
    obtain ⟨k, hk, rfl, rfl⟩ := hrel
    by_cases hlt : k < b.size
    · have hm : ∀ w, (binOp .mul 71 (.float .f64 (pw k)) (.float .f64 4621819117588971520)).run Tryz.prog w = .ok (.float .f64 (pw (k + 1))) w := fun w => run_float_arith w .mul 71 .f64 _ _ _ (pw_step k (by omega))
      go_wp2
      go_round
      case rel => exact ⟨k + 1, by omega, by go_num, rfl⟩
      case measure => simp [intOf]; omega
    · have he : k = b.size := by omega
      subst he
      clear hk hlt
      obtain ⟨r, w2, hr, hv, hb2⟩ := run_float_any .quo (by simp) (Fm.ofInt v) (pw b.size) w1
      have hr' : (binOp .quo 71 (.float .f64 (floatOfInt .f64 v)) (.float .f64 (pw b.size))).run Tryz.prog w1 = .ok (.float .f64 r) w2 := hr
      have HV : Hid (flt r = fltO (floatBits .quo .f64 (Fm.ofInt v) (pw b.size))) := hv
      have HB := chainB HB hb2
      have k5 := cell_later hb2 k5
      have k6 := cell_later hb2 k6
      have l5 := fro_later hb2 l5 z1
      have l6 := fro_later hb2 l6 z1
      have z2 : w.heap.size < w2.heap.size := by have := hb2.size; omega
      clear hv hr hb2
      go_wp2_with fail
      refine (Float_any _ _).mono ?_
      rintro e w3 ⟨rfl, hb3⟩
      have HB := chainB HB hb3
      have k5 := cell_later hb3 k5
      have k6 := cell_later hb3 k6
      have l5 := fro_later hb3 l5 z2
      have l6 := fro_later hb3 l6 z2
      clear hb3
      go_wp2
      refine bodyPost_ret (v := .tuple #[AV 3 (flt r), .int .i64 0]) (by simp [results, Tryz.results52, go_sem, k5, k6]) rfl ⟨by rw [HV.out], ?_⟩
      exact (HB.out.setCell (by simp) _).setCell (by simp) _
set_option maxHeartbeats 1000000 in
theorem readInt_ok (s : ByteArray) (v : Int) (w : World) (hs : s.size ≤ 140737488355328) (hp : Lib.parseIntB 64 s.data.toList = .ok v) :
    Calls Tryz.prog 51 #[.string s] w fun e w' => e = .returned (.tuple #[AV 2 v, .int .i64 0]) ∧ Below w.heap.size w w' := by
  have HP : Hid (Lib.parseIntB 64 s.data.toList = .ok v) := hp
  clear hp
  go_enter Tryz.func51, Tryz.ntmps51
  go_wp2_with fail
  refine (ParseInt_ok _ v _ hs HP.out).mono ?_
  rintro e w1 ⟨rfl, hb1⟩
  have k5 := cell_later hb1 (show (w.alloc (.cells #[.int .i64 0, .int .i64 0] 36)).cell? ⟨w.heap.size, 0, none⟩ = some (.int .i64 0) by simp [go_sem])
  have k6 := cell_later hb1 (show (w.alloc (.cells #[.int .i64 0, .int .i64 0] 36)).cell? ⟨w.heap.size, 1, none⟩ = some (.int .i64 0) by simp [go_sem])
  have z1 : w.heap.size < w1.heap.size := size1 hb1
  have l5 := fro_later hb1 (show (w.alloc (.cells #[.int .i64 0, .int .i64 0] 36)).frozen? ⟨w.heap.size, 0, none⟩ = false by simp [go_sem]) (by simp)
  have l6 := fro_later hb1 (show (w.alloc (.cells #[.int .i64 0, .int .i64 0] 36)).frozen? ⟨w.heap.size, 1, none⟩ = false by simp [go_sem]) (by simp)
  have HB : Hid (Below w.heap.size w w1) := end1 hb1
  clear hb1
  go_wp2_with fail
  refine (Int_any _ _).mono ?_
  rintro e w3 ⟨rfl, hb3⟩
  have HB := chainB HB hb3
  have k5 := cell_later hb3 k5
  have k6 := cell_later hb3 k6
  have l5 := fro_later hb3 l5 z1
  have l6 := fro_later hb3 l6 z1
  clear hb3
  go_wp2
  refine bodyPost_ret (v := .tuple #[AV 2 v, .int .i64 0]) (by simp [results, Tryz.results51, go_sem, k5, k6]) rfl ⟨rfl, ?_⟩
  exact (HB.out.setCell (by simp) _).setCell (by simp) _
end Go.Proofs.YtidokamfppdnaaaGreatDoor
