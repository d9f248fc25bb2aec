/- Get, behind. -/
import Derived.Test.YthefmfjlinpepaaP1
namespace Go.Proofs.Ythefmfjlinpepaa
open Go.RowKit Go.Shelf
set_option linter.unusedSimpArgs false
set_option linter.unusedVariables false
attribute [local go_sem] Oper.semAt_some

/-- Get's answer. -/
def getR (a n : Nat) (sl : Sl) (t x : Int) : Int × Int :=
  if keyB t x = true then (if (findR a n sl (kyT t x, kyN t x)).2 = true then sl (findR a n sl (kyT t x, kyN t x)).1 else (0, 0)) else (0, 0)

set_option maxRecDepth 20000 in
set_option maxHeartbeats 2000000 in
theorem Get_any {w : World} {P : Nat} {most : Int} {a n nn : Nat} {sl : Sl} (h : Tb w P most a n nn sl) (t x : Int) (hx : I64 x) :
    Calls Try.prog 19 #[MI P, AV t x] w fun e w' => e = .returned (iV (getR a n sl t x)) ∧ Kept No w w' := by
  have hmS := mSlot P
  have hb := h.bd
  have hlt := h.lt
  have HT : Hid (Tb w P most a n nn sl) := h
  have HX : Hid (I64 x) := hx
  clear h hx
  go_enter Try.func19, Try.ntmps19
  go_wp2_with fail
  refine (isKey_any t x _ HX.out).mono ?_
  rintro e w1 ⟨rfl, hb1⟩
  have hk1 := Kept.of_below hb1
  have b0 : w1.heap[w.heap.size]? = some (.cells #[.int .i64 t, .int .i64 x] 33 (0, 0)) := hk1.heap (heap_old (heap_new1 w _) _) id
  have b1 : w1.heap[w.heap.size + 1]? = some (.cells #[.int .i64 0, .int .i64 0] 33 (0, 0)) := by
    refine hk1.heap ?_ id
    have := heap_new1 (w.alloc (.cells #[.int .i64 t, .int .i64 x] 33)) (.cells #[.int .i64 0, .int .i64 0] 33); rw [World.size_alloc] at this; exact this
  have HK : Hid (Kept No w w1 ∧ w1.heap[w.heap.size + 1]? = some (.cells #[.int .i64 0, .int .i64 0] 33 (0, 0))) := ⟨(((Kept.refl _ _).alloc _).alloc _).trans hk1, b1⟩
  have c0 : w1.cell? ⟨w.heap.size, 0, none⟩ = some (.int .i64 t) := by rw [cell_of b0]; rfl
  have c1 : w1.cell? ⟨w.heap.size, 1, none⟩ = some (.int .i64 x) := by rw [cell_of b0]; rfl
  have c2 : w1.cell? ⟨w.heap.size + 1, 0, none⟩ = some (.int .i64 0) := by rw [cell_of b1]; rfl
  have c3 : w1.cell? ⟨w.heap.size + 1, 1, none⟩ = some (.int .i64 0) := by rw [cell_of b1]; rfl
  have f1 : ∀ o, w1.frozen? ⟨w.heap.size + 1, o, none⟩ = false := frozen_of b1
  clear hk1 hb1 b0 b1
  cases hkb : keyB t x
  · have HG : Hid (getR a n sl t x = (0, 0)) := by show _ = _; unfold getR; rw [hkb]; rfl
    clear hkb
    go_wp2_with fail
    exact bodyPost_ret (v := iV (0, 0)) (by simp [results, Try.results19, go_sem, c2, c3]) rfl ⟨by rw [HG.out], (HK.out.1.set _ 0 _ (.inr (by omega))).set _ 1 _ (.inr (by omega))⟩
  · have HG : Hid (getR a n sl t x = if (findR a n sl (kyT t x, kyN t x)).2 = true then sl (findR a n sl (kyT t x, kyN t x)).1 else (0, 0)) := by show _ = _; unfold getR; rw [hkb]; rfl
    clear hkb
    go_wp2_with fail
    refine (Key_any t x _ HX.out.1 HX.out.2).mono ?_
    rintro e w2 ⟨rfl, hb2⟩
    have HK2 : Hid (Kept No w w2) := HK.out.1.trans (Kept.of_below hb2)
    have HB2 : Hid (w2.heap[w.heap.size + 1]? = some (.cells #[.int .i64 0, .int .i64 0] 33 (0, 0))) := (Kept.of_below hb2).heap HK.out.2 id
    have hrr := findR_rng a n sl (kyT t x, kyN t x)
    have HF0 := @find_any w2 P most a n nn sl (HT.out.no HK2.out) (kyT t x) (kyN t x)
    clear hb2 c0 c1 c2 c3 f1
    generalize findR a n sl (kyT t x, kyN t x) = r at hrr HF0 HG
    generalize kyT t x = y1 at HF0 ⊢
    generalize kyN t x = y2 at HF0 ⊢
    obtain ⟨at', th⟩ := r
    simp only at hrr HF0 HG
    have HF : Hid (Calls Try.prog 43 #[MI P, AV y1 y2] w2 fun e w' => e = .returned (.tuple #[.int .i64 at', .bool th]) ∧ Kept No w2 w') := HF0
    clear HF0
    go_wp2_with fail
    refine HF.out.mono ?_
    rintro e w3 ⟨rfl, hk3⟩
    have HK3 : Hid (Kept No w w3) := HK2.out.trans hk3
    have HB3 : Hid (w3.heap[w.heap.size + 1]? = some (.cells #[.int .i64 0, .int .i64 0] 33 (0, 0))) := hk3.heap HB2.out id
    have c2 : w3.cell? ⟨w.heap.size + 1, 0, none⟩ = some (.int .i64 0) := by rw [cell_of HB3.out]; rfl
    have c3 : w3.cell? ⟨w.heap.size + 1, 1, none⟩ = some (.int .i64 0) := by rw [cell_of HB3.out]; rfl
    have f1 : ∀ o, w3.frozen? ⟨w.heap.size + 1, o, none⟩ = false := frozen_of HB3.out
    clear hk3 HF
    cases th
    · go_wp2_with fail
      exact bodyPost_ret (v := iV (0, 0)) (by simp [results, Try.results19, go_sem, c2, c3]) rfl ⟨by rw [HG.out]; rfl, (HK3.out.set _ 0 _ (.inr (by omega))).set _ 1 _ (.inr (by omega))⟩
    · obtain ⟨r1, r2⟩ : 0 ≤ at' ∧ at' < (a : Int) + 2 * (n : Int) := by
        rcases hrr with h | h
        · exact absurd h.2 (by simp)
        · exact ⟨h.1, h.2.1⟩
      clear hrr c2 c3 f1
      have HS : Hid (Calls Try.prog 27 #[MP P, .int .i64 at'] w3 fun e w' => e = .returned (iV (sl at')) ∧ Below w3.heap.size w3 w') := Slot_any (HT.out.no HK3.out) at' (wf_of (by omega) (by omega))
      simp only [if_true] at HG
      generalize sl at' = v at HS HG
      obtain ⟨v1, v2⟩ := v
      go_wp2_with fail
      refine HS.out.mono ?_
      rintro e w4 ⟨rfl, hb4⟩
      have HK4 : Hid (Kept No w w4) := HK3.out.trans (Kept.of_below hb4)
      have HB4 : Hid (w4.heap[w.heap.size + 1]? = some (.cells #[.int .i64 0, .int .i64 0] 33 (0, 0))) := (Kept.of_below hb4).heap HB3.out id
      have c2 : w4.cell? ⟨w.heap.size + 1, 0, none⟩ = some (.int .i64 0) := by rw [cell_of HB4.out]; rfl
      have c3 : w4.cell? ⟨w.heap.size + 1, 1, none⟩ = some (.int .i64 0) := by rw [cell_of HB4.out]; rfl
      have f1 : ∀ o, w4.frozen? ⟨w.heap.size + 1, o, none⟩ = false := frozen_of HB4.out
      clear hb4 HS
      go_wp2_with fail
      exact bodyPost_ret (v := iV (v1, v2)) (by simp [results, Try.results19, go_sem, c2, c3]) rfl ⟨by rw [HG.out], (HK4.out.set _ 0 _ (.inr (by omega))).set _ 1 _ (.inr (by omega))⟩

/-- behind's answer. -/
def behR (a n : Nat) (sl : Sl) (t x : Int) : Int × Bool :=
  if (t == 0) = true then (0, true) else if keyB t x = true then ((findR a n sl (kyT t x, kyN t x)).1 + 1, (findR a n sl (kyT t x, kyN t x)).2) else (0, false)

set_option maxRecDepth 20000 in
set_option maxHeartbeats 2000000 in
theorem behind_any {w : World} {P : Nat} {most : Int} {a n nn : Nat} {sl : Sl} (h : Tb w P most a n nn sl) (t x : Int) (hx : I64 x) :
    Calls Try.prog 45 #[MI P, AV t x] w fun e w' => e = .returned (.tuple #[.int .i64 (behR a n sl t x).1, .bool (behR a n sl t x).2]) ∧ Kept No w w' := by
  have hb := h.bd
  have hlt := h.lt
  have HT : Hid (Tb w P most a n nn sl) := h
  have HX : Hid (I64 x) := hx
  clear h hx
  go_enter Try.func45, Try.ntmps45
  go_wp2_with fail
  refine (isNil_any t x _).mono ?_
  rintro e w1 ⟨rfl, hb1⟩
  have hk1 := Kept.of_below hb1
  have b0 : w1.heap[w.heap.size]? = some (.cells #[.int .i64 t, .int .i64 x] 33 (0, 0)) := hk1.heap (heap_new1 w _) id
  have HK : Hid (Kept No w w1 ∧ w1.heap[w.heap.size]? = some (.cells #[.int .i64 t, .int .i64 x] 33 (0, 0))) := ⟨((Kept.refl _ _).alloc _).trans hk1, b0⟩
  have c0 : w1.cell? ⟨w.heap.size, 0, none⟩ = some (.int .i64 t) := by rw [cell_of b0]; rfl
  have c1 : w1.cell? ⟨w.heap.size, 1, none⟩ = some (.int .i64 x) := by rw [cell_of b0]; rfl
  clear hk1 hb1 b0
  cases ht : (t == 0)
  · have Ht : Hid ((t == 0) = false) := ht
    go_wp2_with fail
    refine (isKey_any t x _ HX.out).mono ?_
    rintro e w2 ⟨rfl, hb2⟩
    have hk2 := Kept.of_below hb2
    have HK2 : Hid (Kept No w w2) := HK.out.1.trans hk2
    have d0 : w2.cell? ⟨w.heap.size, 0, none⟩ = some (.int .i64 t) := by rw [cell_of (hk2.heap HK.out.2 id)]; rfl
    have d1 : w2.cell? ⟨w.heap.size, 1, none⟩ = some (.int .i64 x) := by rw [cell_of (hk2.heap HK.out.2 id)]; rfl
    clear hb2 hk2 c0 c1
    cases hkb : keyB t x
    · have HG : Hid (behR a n sl t x = (0, false)) := by show _ = _; unfold behR; rw [hkb, Ht.out]; rfl
      go_wp2
      go_ret2
      exact ⟨by rw [HG.out]; rfl, HK2.out⟩
    · have HG : Hid (behR a n sl t x = ((findR a n sl (kyT t x, kyN t x)).1 + 1, (findR a n sl (kyT t x, kyN t x)).2)) := by show _ = _; unfold behR; rw [hkb, Ht.out]; rfl
      clear hkb
      go_wp2_with fail
      refine (Key_any t x _ HX.out.1 HX.out.2).mono ?_
      rintro e w3 ⟨rfl, hb3⟩
      have HK3 : Hid (Kept No w w3) := HK2.out.trans (Kept.of_below hb3)
      have hrr := findR_rng a n sl (kyT t x, kyN t x)
      have HF0 := @find_any w3 P most a n nn sl (HT.out.no HK3.out) (kyT t x) (kyN t x)
      clear hb3 d0 d1 ht
      generalize findR a n sl (kyT t x, kyN t x) = r at hrr HF0 HG
      generalize kyT t x = y1 at HF0 ⊢
      generalize kyN t x = y2 at HF0 ⊢
      obtain ⟨at', th⟩ := r
      simp only at hrr HF0 HG
      have HF : Hid (Calls Try.prog 43 #[MI P, AV y1 y2] w3 fun e w' => e = .returned (.tuple #[.int .i64 at', .bool th]) ∧ Kept No w3 w') := HF0
      obtain ⟨r1, r2⟩ : -1 ≤ at' ∧ at' ≤ 1000000 := by
        rcases hrr with h | h
        · rw [h.1]; omega
        · omega
      clear HF0 hrr
      go_wp2_with fail
      refine HF.out.mono ?_
      rintro e w4 ⟨rfl, hk4⟩
      have HK4 : Hid (Kept No w w4) := HK3.out.trans hk4
      clear hk4 HF
      go_wp2
      go_ret2
      exact ⟨by rw [HG.out]; rfl, HK4.out⟩
  · have HG : Hid (behR a n sl t x = (0, true)) := by show _ = _; unfold behR; rw [ht]; rfl
    go_wp2
    go_ret2
    exact ⟨by rw [HG.out]; rfl, HK.out.1⟩
end Go.Proofs.Ythefmfjlinpepaa
