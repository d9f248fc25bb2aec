/- put, Get, behind. -/
import Derived.Test.YthefmfjlinpepaaF3
namespace Go.Proofs.Ythefmfjlinpepaa
open Go.RowKit Go.Shelf
set_option linter.unusedSimpArgs false
set_option linter.unusedVariables false
attribute [local go_sem] Oper.semAt_some

theorem fnd_rng (a n : Nat) (sl : Sl) (k : Int × Int) (hn : 0 < n) : ∀ f i, (fnd a n sl k f i).1 = -1 ∧ (fnd a n sl k f i).2 = false ∨ (1 ≤ (fnd a n sl k f i).1 ∧ (a : Int) + 1 ≤ (fnd a n sl k f i).1 ∧ (fnd a n sl k f i).1 < (a : Int) + 2 * (n : Int)) := by
  intro f
  induction f with
  | zero => intro i; exact .inl ⟨rfl, rfl⟩
  | succ f ih =>
    intro i
    have hm := Nat.mod_lt (fst0 n k + i) hn
    unfold fnd
    split
    · right; simp only [wayN]; omega
    · split
      · right; simp only [wayN]; omega
      · exact ih _

theorem findR_rng (a n : Nat) (sl : Sl) (k : Int × Int) : (findR a n sl k).1 = -1 ∧ (findR a n sl k).2 = false ∨ (0 ≤ (findR a n sl k).1 ∧ (findR a n sl k).1 < (a : Int) + 2 * (n : Int) ∧ ((findR a n sl k).2 = false → 1 ≤ (findR a n sl k).1)) := by
  unfold findR
  split
  · rename_i h
    simp only [inArr, Bool.and_eq_true, decide_eq_true_eq] at h
    right; refine ⟨?_, ?_, fun e => by cases e⟩ <;> simp <;> omega
  · rcases Nat.eq_zero_or_pos n with hn | hn
    · subst hn; exact .inl ⟨rfl, rfl⟩
    · rcases fnd_rng a n sl k hn n 0 with h | h
      · exact .inl h
      · right; exact ⟨by omega, h.2.2, fun _ => h.1⟩

/-- put: may it be, and the slots behind it. -/
def putR (a n : Nat) (sl : Sl) (k v : Int × Int) : Bool × Sl :=
  if (findR a n sl k).2 = true then (true, sput sl (findR a n sl k).1 v) else if v.1 = 0 then (true, sl) else if (findR a n sl k).1 = -1 then (false, sl) else (true, sput (sput sl ((findR a n sl k).1 - 1) k) (findR a n sl k).1 v)

set_option maxRecDepth 20000 in
set_option maxHeartbeats 2000000 in
theorem put_any {w : World} {P : Nat} {most : Int} {a n nn : Nat} {sl : Sl} (h : Tb w P most a n nn sl) (hn : nn ≤ 999990) (k1 k2 v1 v2 : Int) :
    Calls Try.prog 48 #[MI P, AV k1 k2, AV v1 v2] w fun e w' => e = .returned (.bool (putR a n sl (k1, k2) (v1, v2)).1) ∧ (∃ nn', nn' ≤ nn + 2 ∧ Tb w' P most a n nn' (putR a n sl (k1, k2) (v1, v2)).2) ∧ Own w P w' := by
  have hmS := mSetSlot P
  have hb := h.bd
  have hlt := h.lt
  have hrr := findR_rng a n sl (k1, k2)
  have HF0 := @find_any ((w.alloc (.cells #[.int .i64 k1, .int .i64 k2] 33)).alloc (.cells #[.int .i64 v1, .int .i64 v2] 33)) P most a n nn sl (h.no (((Kept.refl _ _).alloc _).alloc _)) k1 k2
  unfold putR
  generalize findR a n sl (k1, k2) = r at hrr HF0 ⊢
  obtain ⟨at', th⟩ := r
  simp only at hrr HF0 ⊢
  have HF : Hid (Calls Try.prog 43 #[MI P, AV k1 k2] ((w.alloc (.cells #[.int .i64 k1, .int .i64 k2] 33)).alloc (.cells #[.int .i64 v1, .int .i64 v2] 33)) fun e w' => e = .returned (.tuple #[.int .i64 at', .bool th]) ∧ Kept No ((w.alloc (.cells #[.int .i64 k1, .int .i64 k2] 33)).alloc (.cells #[.int .i64 v1, .int .i64 v2] 33)) w') := HF0
  have HT : Hid (Tb w P most a n nn sl) := h
  clear HF0 h
  go_enter Try.func48, Try.ntmps48
  go_wp2_with fail
  refine HF.out.mono ?_
  rintro e w1 ⟨rfl, hk1⟩
  have b0 : w1.heap[w.heap.size]? = some (.cells #[.int .i64 k1, .int .i64 k2] 33 (0, 0)) := hk1.heap (heap_old (heap_new1 w _) _) id
  have b1 : w1.heap[w.heap.size + 1]? = some (.cells #[.int .i64 v1, .int .i64 v2] 33 (0, 0)) := by
    refine hk1.heap ?_ id
    have := heap_new1 (w.alloc (.cells #[.int .i64 k1, .int .i64 k2] 33)) (.cells #[.int .i64 v1, .int .i64 v2] 33); rw [World.size_alloc] at this; exact this
  have HK : Hid (Kept No w w1) := (((Kept.refl _ _).alloc _).alloc _).trans hk1
  have c0 : w1.cell? ⟨w.heap.size, 0, none⟩ = some (.int .i64 k1) := by rw [cell_of b0]; rfl
  have c1 : w1.cell? ⟨w.heap.size, 1, none⟩ = some (.int .i64 k2) := by rw [cell_of b0]; rfl
  have c2 : w1.cell? ⟨w.heap.size + 1, 0, none⟩ = some (.int .i64 v1) := by rw [cell_of b1]; rfl
  have c3 : w1.cell? ⟨w.heap.size + 1, 1, none⟩ = some (.int .i64 v2) := by rw [cell_of b1]; rfl
  have HT1 : Hid (Tb w1 P most a n nn sl) := HT.out.no HK.out
  clear hk1 HF
  have HBk : Hid (w1.heap[w.heap.size + 1]? = some (.cells #[.int .i64 v1, .int .i64 v2] 33 (0, 0))) := b1
  clear b0 b1
  cases th
  · by_cases hv : v1 = 0
    · have hv' : (v1 == 0) = true := by simpa using hv
      simp only [Bool.false_eq_true, if_false, hv, if_true]
      go_wp2_with fail
      refine (isNil_any _ _ _).mono ?_
      rintro e w2 ⟨rfl, hb2⟩
      have HK2 : Hid (Kept No w w2) := HK.out.trans (Kept.of_below hb2)
      clear hb2
      go_wp2
      go_ret
      exact ⟨rfl, ⟨nn, by omega, HT.out.no HK2.out⟩, Own.of_no HK2.out hlt⟩
    · have hv' : (v1 == 0) = false := by simpa using hv
      by_cases ha : at' = -1
      · simp only [Bool.false_eq_true, if_false, hv, ha, if_true]
        go_wp2_with fail
        refine (isNil_any _ _ _).mono ?_
        rintro e w2 ⟨rfl, hb2⟩
        have HK2 : Hid (Kept No w w2) := HK.out.trans (Kept.of_below hb2)
        clear hb2
        rw [hv']
        go_wp2
        go_ret
        exact ⟨rfl, ⟨nn, by omega, HT.out.no HK2.out⟩, Own.of_no HK2.out hlt⟩
      · obtain ⟨r1, r2, r3⟩ : 0 ≤ at' ∧ at' < (a : Int) + 2 * (n : Int) ∧ 1 ≤ at' := by
          rcases hrr with h | h
          · exact absurd h.1 ha
          · exact ⟨h.1, h.2.1, h.2.2 rfl⟩
        have ha' : (at' == -1) = false := by simpa using ha
        simp only [Bool.false_eq_true, if_false, hv, ha]
        clear hrr
        have HA : Hid (¬ at' = -1 ∧ ¬ v1 = 0) := ⟨ha, hv⟩
        clear ha hv
        go_wp2_with fail
        refine (isNil_any _ _ _).mono ?_
        rintro e w2 ⟨rfl, hb2⟩
        have hk2 := Kept.of_below hb2
        have HK2 : Hid (Kept No w w2) := HK.out.trans hk2
        have HT2 : Hid (Tb w2 P most a n nn sl) := HT.out.no HK2.out
        have d0 : w2.cell? ⟨w.heap.size, 0, none⟩ = some (.int .i64 k1) := (cell_later hb2 c0)
        have d1 : w2.cell? ⟨w.heap.size, 1, none⟩ = some (.int .i64 k2) := (cell_later hb2 c1)
        have HB2 : Hid (w2.heap[w.heap.size + 1]? = some (.cells #[.int .i64 v1, .int .i64 v2] 33 (0, 0))) := hk2.heap HBk.out id
        clear hb2 hk2 c0 c1 c2 c3
        rw [hv']
        go_wp2_with fail
        refine (SetSlot_in HT2.out (at' - 1) k1 k2 (by omega) (by omega)).mono ?_
        rintro e w3 ⟨rfl, ht3, ho3⟩
        have HT3 : Hid (Tb w3 P most a n (nn + 1) (sput sl (at' - 1) (k1, k2))) := ht3
        have HO3 : Hid (Own w P w3) := (Own.of_no HK2.out hlt).trans ho3
        have b3 : w3.heap[w.heap.size + 1]? = some (.cells #[.int .i64 v1, .int .i64 v2] 33 (0, 0)) := ho3.kp.heap HB2.out (fun hf => by have := HT.out.fp (FP.kept hlt HK2.out hf); omega)
        have e2 : w3.cell? ⟨w.heap.size + 1, 0, none⟩ = some (.int .i64 v1) := by rw [cell_of b3]; rfl
        have e3 : w3.cell? ⟨w.heap.size + 1, 1, none⟩ = some (.int .i64 v2) := by rw [cell_of b3]; rfl
        clear ht3 ho3 b3 d0 d1
        go_wp2_with fail
        refine (SetSlot_in HT3.out at' v1 v2 (by omega) (by omega)).mono ?_
        rintro e w4 ⟨rfl, ht4, ho4⟩
        have HE : Hid ((∃ nn', nn' ≤ nn + 2 ∧ Tb w4 P most a n nn' (sput (sput sl (at' - 1) (k1, k2)) at' (v1, v2))) ∧ Own w P w4) := ⟨⟨_, by omega, ht4⟩, HO3.out.trans ho4⟩
        clear ht4 ho4 e2 e3
        obtain ⟨ha, hv⟩ := HA.out
        go_wp2
        go_ret
        simp only [Bool.false_eq_true, if_false, hv, ha]
        exact ⟨rfl, HE.out⟩
  · obtain ⟨r1, r2⟩ : 0 ≤ at' ∧ at' < (a : Int) + 2 * (n : Int) := by
      rcases hrr with h | h
      · exact absurd h.2 (by simp)
      · exact ⟨h.1, h.2.1⟩
    clear hrr
    simp only [if_true]
    go_wp2_with fail
    refine (SetSlot_in HT1.out at' v1 v2 (by omega) (by omega)).mono ?_
    rintro e w4 ⟨rfl, ht4, ho4⟩
    have HE : Hid ((∃ nn', nn' ≤ nn + 2 ∧ Tb w4 P most a n nn' (sput sl at' (v1, v2))) ∧ Own w P w4) := ⟨⟨_, by omega, ht4⟩, (Own.of_no HK.out hlt).trans ho4⟩
    clear ht4 ho4 c0 c1 c2 c3
    go_wp2
    go_ret
    exact ⟨rfl, HE.out⟩
end Go.Proofs.Ythefmfjlinpepaa
