/- Set. -/
import Derived.Test.YthefmfjlinpepaaR1
import Derived.Test.YthefmfjlinpepaaS1
namespace Go.Proofs.Ythefmfjlinpepaa
open Go.RowKit Go.Shelf
set_option linter.unusedSimpArgs false
set_option linter.unusedVariables false
attribute [local go_sem] Oper.semAt_some

/-- A key as it is taken. -/
def kyP (k : Int × Int) : Int × Int := (kyT k.1 k.2, kyN k.1 k.2)
/-- The keys that a renewal reckons with. -/
def renL (a n : Nat) (sl : Sl) (k : Int × Int) : List Ent := ents a n sl 0 ++ [(k, (0, 0))]
/-- Set: the error, and the table behind it. -/
def setR (most : Int) (a n : Nat) (sl : Sl) (k v : Int × Int) : Int × Nat × Nat × Sl :=
  if (!keyB k.1 k.2 || v.1 == 11) = true then (13, a, n, sl)
  else if (putR a n sl (kyP k) v).1 = true then (0, a, n, (putR a n sl (kyP k) v).2)
  else if most < (szA (renL a n sl (kyP k)) : Int) + 2 * (szN (renL a n sl (kyP k)) : Int) then (8, a, n, sl)
  else (if (putR (szA (renL a n sl (kyP k))) (szN (renL a n sl (kyP k))) (putAll (szA (renL a n sl (kyP k))) (szN (renL a n sl (kyP k))) (fun _ => (0, 0)) (ents a n sl 0)) (kyP k) v).1 = true then 0 else 8,
    szA (renL a n sl (kyP k)), szN (renL a n sl (kyP k)), (putR (szA (renL a n sl (kyP k))) (szN (renL a n sl (kyP k))) (putAll (szA (renL a n sl (kyP k))) (szN (renL a n sl (kyP k))) (fun _ => (0, 0)) (ents a n sl 0)) (kyP k) v).2)

theorem putR_no {a n : Nat} {sl : Sl} {k v : Int × Int} (h : (putR a n sl k v).1 = false) : (putR a n sl k v).2 = sl := by
  unfold putR at h ⊢
  by_cases h1 : (findR a n sl k).2 = true
  · rw [if_pos h1] at h; cases h
  · rw [if_neg h1] at h ⊢
    by_cases h2 : v.1 = 0
    · rw [if_pos h2] at h; cases h
    · rw [if_neg h2] at h ⊢
      by_cases h3 : (findR a n sl k).1 = -1
      · rw [if_pos h3]
      · rw [if_neg h3] at h; cases h

/-- The three boxes. -/
structure SB (w : World) (P : Nat) (k v : Int × Int) (W : World) : Prop where
  b0 : W.heap[w.heap.size]? = some (.cells #[MI P] 81 (0, 0))
  b1 : W.heap[w.heap.size + 1]? = some (.cells #[.int .i64 k.1, .int .i64 k.2] 33 (0, 0))
  b2 : W.heap[w.heap.size + 2]? = some (.cells #[.int .i64 v.1, .int .i64 v.2] 33 (0, 0))
  own : Own w P W
theorem SB.fp {w : World} {P : Nat} {k v : Int × Int} {W : World} (h : SB w P k v W) {most : Int} {a n nn : Nat} {sl : Sl} (ht : Tb W P most a n nn sl) : ¬ FP W P w.heap.size ∧ ¬ FP W P (w.heap.size + 1) ∧ ¬ FP W P (w.heap.size + 2) := by
  have hn : ∀ k c e f, W.heap[k]? = some (.cells c e f) → e ≠ 67 → ¬ FP W P k := fun k c e f hk he hq => by
    rcases ht.kinds k hq with ⟨c', e', f', h1, h2⟩ | ⟨es, c', h1⟩
    · rw [hk] at h1; cases h1; exact he h2
    · rw [hk] at h1; cases h1
  exact ⟨hn _ _ _ _ h.b0 (by decide), hn _ _ _ _ h.b1 (by decide), hn _ _ _ _ h.b2 (by decide)⟩
theorem SB.next {w : World} {P : Nat} {k v : Int × Int} {W W' : World} (h : SB w P k v W) {most : Int} {a n nn : Nat} {sl : Sl} (ht : Tb W P most a n nn sl) (ho : Own W P W') : SB w P k v W' := by
  obtain ⟨n0, n1, n2⟩ := h.fp ht
  exact ⟨ho.kp.heap h.b0 n0, ho.kp.heap h.b1 n1, ho.kp.heap h.b2 n2, h.own.trans ho⟩

set_option maxRecDepth 20000 in
set_option maxHeartbeats 4000000 in
theorem Set_any {w : World} {P : Nat} {most : Int} {a n nn : Nat} {sl : Sl} (h : Tb w P most a n nn sl) (hn : nn ≤ 900000) (hm : I64 most) (hsl : ∀ i, I64 (sl i).2) (hlen : (ents a n sl 0).length ≤ 200) (k v : Int × Int) (hk : I64 k.2) :
    Calls Try.prog 22 #[MI P, AV k.1 k.2, AV v.1 v.2] w fun e w' => e = .returned (.int .i64 (setR most a n sl k v).1) ∧ (∃ nn', nn' ≤ nn + 500 ∧ Tb w' P most (setR most a n sl k v).2.1 (setR most a n sl k v).2.2.1 nn' (setR most a n sl k v).2.2.2) ∧ Own w P w' := by
  obtain ⟨k1, k2⟩ := k
  obtain ⟨v1, v2⟩ := v
  have hlt := h.lt
  have HT : Hid (Tb w P most a n nn sl) := h
  have HX : Hid (I64 k2) := hk
  have HSl : Hid (∀ i, I64 (sl i).2) := hsl
  have HM : Hid (I64 most) := hm
  have HLn : Hid ((ents a n sl 0).length ≤ 200) := hlen
  obtain ⟨W0, HW0⟩ : ∃ W0, Hid (W0 = ((w.alloc (.cells #[MI P] 81)).alloc (.cells #[.int .i64 k1, .int .i64 k2] 33)).alloc (.cells #[.int .i64 v1, .int .i64 v2] 33)) := ⟨_, show _ = _ from rfl⟩
  have HB0 : Hid (SB w P (k1, k2) (v1, v2) W0 ∧ Tb W0 P most a n nn sl) := by
    have k0 : Kept No w W0 := by rw [HW0.out]; exact (((Kept.refl _ _).alloc _).alloc _).alloc _
    refine ⟨⟨?_, ?_, ?_, Own.of_no k0 hlt⟩, HT.out.no k0⟩
    · rw [HW0.out]; exact heap_old (heap_old (heap_new1 w _) _) _
    · rw [HW0.out]; have := heap_new1 (w.alloc (.cells #[MI P] 81)) (.cells #[.int .i64 k1, .int .i64 k2] 33); simp only [World.size_alloc] at this; exact heap_old this _
    · rw [HW0.out]; have := heap_new1 ((w.alloc (.cells #[MI P] 81)).alloc (.cells #[.int .i64 k1, .int .i64 k2] 33)) (.cells #[.int .i64 v1, .int .i64 v2] 33); simp only [World.size_alloc] at this; exact this
  clear h hk hsl hm hlen
  go_enter Try.func22, Try.ntmps22
  go_wp2_with fail
  rw [← HW0.out]
  refine (isKey_any k1 k2 W0 HX.out).mono ?_
  rintro e W1 ⟨rfl, hb1⟩
  have hk1 := Kept.of_below hb1
  have HB1 : Hid (SB w P (k1, k2) (v1, v2) W1 ∧ Tb W1 P most a n nn sl) := ⟨HB0.out.1.next HB0.out.2 (Own.of_no hk1 HB0.out.2.lt), HB0.out.2.no hk1⟩
  have c0 : W1.cell? ⟨w.heap.size + 2, 0, none⟩ = some (.int .i64 v1) := by rw [cell_of HB1.out.1.b2]; rfl
  clear hk1 hb1 HB0 HW0
  cases hkb : keyB k1 k2
  · have HG : Hid (setR most a n sl (k1, k2) (v1, v2) = (13, a, n, sl)) := by show _ = _; unfold setR; rw [hkb]; rfl
    clear hkb
    go_wp2
    go_ret
    rw [HG.out]
    exact ⟨rfl, ⟨nn, by omega, HB1.out.2⟩, HB1.out.1.own⟩
  cases hv : (v1 == 11)
  case true =>
    have HG : Hid (setR most a n sl (k1, k2) (v1, v2) = (13, a, n, sl)) := by show _ = _; unfold setR; rw [hkb, hv]; rfl
    clear hkb
    go_wp2
    go_ret
    rw [HG.out]
    exact ⟨rfl, ⟨nn, by omega, HB1.out.2⟩, HB1.out.1.own⟩
  have HG1 : Hid (setR most a n sl (k1, k2) (v1, v2) = if (putR a n sl (kyP (k1, k2)) (v1, v2)).1 = true then (0, a, n, (putR a n sl (kyP (k1, k2)) (v1, v2)).2)
      else if most < (szA (renL a n sl (kyP (k1, k2))) : Int) + 2 * (szN (renL a n sl (kyP (k1, k2))) : Int) then (8, a, n, sl)
      else (if (putR (szA (renL a n sl (kyP (k1, k2)))) (szN (renL a n sl (kyP (k1, k2)))) (putAll (szA (renL a n sl (kyP (k1, k2)))) (szN (renL a n sl (kyP (k1, k2)))) (fun _ => (0, 0)) (ents a n sl 0)) (kyP (k1, k2)) (v1, v2)).1 = true then 0 else 8,
        szA (renL a n sl (kyP (k1, k2))), szN (renL a n sl (kyP (k1, k2))), (putR (szA (renL a n sl (kyP (k1, k2)))) (szN (renL a n sl (kyP (k1, k2)))) (putAll (szA (renL a n sl (kyP (k1, k2)))) (szN (renL a n sl (kyP (k1, k2)))) (fun _ => (0, 0)) (ents a n sl 0)) (kyP (k1, k2)) (v1, v2)).2)) := by
    show _ = _
    unfold setR
    rw [hkb, hv]
    rfl
  have HS1 := Set1_any HB1.out.2 (by omega) k1 k2 v1 v2 HX.out HB1.out.1.b0 HB1.out.1.b1 HB1.out.1.b2 (HB1.out.1.fp HB1.out.2)
  have HP1 : Hid (Calls Try.prog 47 #[.pointer (some ⟨w.heap.size, 0, none⟩), .pointer (some ⟨w.heap.size + 1, 0, none⟩), .pointer (some ⟨w.heap.size + 2, 0, none⟩)] W1 fun e w' => e = .returned (.bool (putR a n sl (kyP (k1, k2)) (v1, v2)).1) ∧ (∃ nn', nn' ≤ nn + 2 ∧ Tb w' P most a n nn' (putR a n sl (kyP (k1, k2)) (v1, v2)).2) ∧ Own W1 P w') := HS1
  clear HS1 hkb
  cases hpr : (putR a n sl (kyP (k1, k2)) (v1, v2)).1
  case true =>
    rw [hpr] at HP1
    rw [hpr] at HG1
    go_wp2_with fail
    refine HP1.out.mono ?_
    rintro e W2 ⟨rfl, ⟨nn2, hn2, ht2⟩, ho2⟩
    have HE : Hid ((∃ nn', nn' ≤ nn + 500 ∧ Tb W2 P most a n nn' (putR a n sl (kyP (k1, k2)) (v1, v2)).2) ∧ Own w P W2) := ⟨⟨nn2, by omega, ht2⟩, HB1.out.1.own.trans ho2⟩
    clear ht2 ho2 HP1
    go_wp2
    go_ret
    rw [HG1.out]
    exact ⟨rfl, HE.out⟩
  rw [hpr, putR_no hpr] at HP1
  rw [hpr] at HG1
  simp only [Bool.false_eq_true, if_false] at HG1
  clear hpr
  go_wp2_with fail
  refine HP1.out.mono ?_
  rintro e W2 ⟨rfl, ⟨nn2, hn2, ht2⟩, ho2⟩
  have HB2 : Hid (SB w P (k1, k2) (v1, v2) W2 ∧ Tb W2 P most a n nn2 sl) := ⟨HB1.out.1.next HB1.out.2 ho2, ht2⟩
  clear ht2 ho2 HP1 HB1 c0
  go_wp2_with fail
  have HSc : Hid (∀ W, SB w P (k1, k2) (v1, v2) W → W.cell? ⟨w.heap.size, 0, none⟩ = some (MI P) ∧ W.cell? ⟨w.heap.size + 1, 0, none⟩ = some (.int .i64 k1) ∧ W.cell? ⟨w.heap.size + 1, 1, none⟩ = some (.int .i64 k2)) := fun W hW => by
    refine ⟨?_, ?_, ?_⟩
    · rw [cell_of hW.b0]; rfl
    · rw [cell_of hW.b1]; rfl
    · rw [cell_of hW.b1]; rfl
  have HKy : Hid (∀ W, Calls Try.prog 44 #[AV k1 k2] W fun e w' => e = .returned (AV (kyT k1 k2) (kyN k1 k2)) ∧ Below W.heap.size W w') := fun W => Key_any k1 k2 W HX.out.1 HX.out.2
  have HBd : Hid (SB w P (k1, k2) (v1, v2) W2.drew ∧ Tb W2.drew P most a n nn2 sl) := ⟨HB2.out.1.next HB2.out.2 (Own.of_no ((Kept.refl _ _).drew) HB2.out.2.lt), HB2.out.2.no ((Kept.refl _ _).drew)⟩
  have HRn : Hid (∀ W, Tb W P most a n nn2 sl → Calls Try.prog 49 #[MI P, AV (kyT k1 k2) (kyN k1 k2)] W fun e w' => (most < (szA (renL a n sl (kyP (k1, k2))) : Int) + 2 * (szN (renL a n sl (kyP (k1, k2))) : Int) ∧ e = .returned (.int .i64 8) ∧ Kept No W w') ∨
      ((szA (renL a n sl (kyP (k1, k2))) : Int) + 2 * (szN (renL a n sl (kyP (k1, k2))) : Int) ≤ most ∧ e = .returned (.int .i64 0) ∧ (∃ nn', nn' ≤ 2 * (ents a n sl 0).length ∧ Tb w' P most (szA (renL a n sl (kyP (k1, k2)))) (szN (renL a n sl (kyP (k1, k2)))) nn' (putAll (szA (renL a n sl (kyP (k1, k2)))) (szN (renL a n sl (kyP (k1, k2)))) (fun _ => (0, 0)) (ents a n sl 0))) ∧ Own W P w')) :=
    fun W hW => renew_any hW HM.out HSl.out (kyT k1 k2) (kyN k1 k2) (ents a n sl 0) (show _ = _ from rfl) HLn.out
  refine wp_region_held_drew (S := fun W => W.cell? ⟨w.heap.size, 0, none⟩ = some (MI P) ∧ W.cell? ⟨w.heap.size + 1, 0, none⟩ = some (.int .i64 k1) ∧ W.cell? ⟨w.heap.size + 1, 1, none⟩ = some (.int .i64 k2)) (by kernel_rfl) (HSc.out _ HBd.out.1) (fun hS => ?_)
  clear HB2
  generalize W2.drew = W3 at HBd hS ⊢
  generalize kyT k1 k2 = y1 at HKy HRn ⊢
  generalize kyN k1 k2 = y2 at HKy HRn ⊢
  refine wpAnyH_take (i := 0) (v := MI P) rfl (by kernel_rfl) (by kernel_rfl) (by kernel_rfl) (fun _ _ _ h => h) (Or.inl ⟨by kernel_rfl, ?_⟩) hS ?_
  · rintro w' ⟨g0, g1, g2⟩; simp [go_sem, g0]
  try simp only [Act.put, List.setIfInBounds_toArray, List.set_cons_zero, List.set_cons_succ, List.getElem_toArray, List.getElem_cons_zero, List.getElem_cons_succ]
  refine wpAnyH_take (i := 1) (v := AV k1 k2) rfl (by kernel_rfl) (by kernel_rfl) (by kernel_rfl) (fun _ _ _ h => h) (Or.inl ⟨by kernel_rfl, ?_⟩) hS ?_
  · rintro w' ⟨g0, g1, g2⟩; simp [go_sem, g1, g2]
  try simp only [Act.put, List.setIfInBounds_toArray, List.set_cons_zero, List.set_cons_succ, List.getElem_toArray, List.getElem_cons_zero, List.getElem_cons_succ]
  refine wpAnyH_ready (rs := [2]) (by kernel_rfl) (by simp) ?_
  refine AllReadyH.cons rfl (fun K hK => ?_) AllReadyH.nil
  go_simp
  refine (HKy.out _).mono ?_
  rintro e W4 ⟨rfl, hb4⟩
  have hk4 := Kept.of_below hb4
  have HB4 : Hid (SB w P (k1, k2) (v1, v2) W4 ∧ Tb W4 P most a n nn2 sl) := ⟨HBd.out.1.next HBd.out.2 (Own.of_no hk4 HBd.out.2.lt), HBd.out.2.no hk4⟩
  clear hb4 hk4 HBd hS
  refine hK.out _ _ (HSc.out _ HB4.out.1) (fun _ => ?_)
  clear hK
  try simp only [Act.put, List.setIfInBounds_toArray, List.set_cons_zero, List.set_cons_succ, List.getElem_toArray, List.getElem_cons_zero, List.getElem_cons_succ]
  refine wpAnyH_ready (rs := [3]) (by kernel_rfl) (by simp) ?_
  refine AllReadyH.cons rfl (fun K hK => ?_) AllReadyH.nil
  go_simp
  refine (HRn.out _ HB4.out.2).mono ?_
  rintro e W5 (⟨hf, rfl, hk5⟩ | ⟨hf, rfl, ⟨nn5, hn5, ht5⟩, ho5⟩)
  · have HB5 : Hid (SB w P (k1, k2) (v1, v2) W5 ∧ Tb W5 P most a n nn2 sl) := ⟨HB4.out.1.next HB4.out.2 (Own.of_no hk5 HB4.out.2.lt), HB4.out.2.no hk5⟩
    rw [if_pos hf] at HG1
    clear hk5 HB4 HRn HKy hf
    refine hK.out _ _ (HSc.out _ HB5.out.1) (fun hS5 => ?_)
    clear hK
    try simp only [Act.put, List.setIfInBounds_toArray, List.set_cons_zero, List.set_cons_succ, List.getElem_toArray, List.getElem_cons_zero, List.getElem_cons_succ]
    refine wpAnyH_ready (rs := [4]) (by kernel_rfl) (by simp) ?_
    refine AllReadyH.cons rfl (fun K hK => ?_) AllReadyH.nil
    go_simp
    refine hK.out _ _ hS5 (fun _ => ?_)
    clear hK hS5
    try simp only [Act.put, List.setIfInBounds_toArray, List.set_cons_zero, List.set_cons_succ, List.getElem_toArray, List.getElem_cons_zero, List.getElem_cons_succ]
    refine wpAnyH_done (by kernel_rfl) ?_ _
    go_wp2
    go_ret
    rw [HG1.out]
    exact ⟨rfl, ⟨nn2, by omega, HB5.out.2⟩, HB5.out.1.own⟩
  · have HB5 : Hid (SB w P (k1, k2) (v1, v2) W5 ∧ Tb W5 P most (szA (renL a n sl (kyP (k1, k2)))) (szN (renL a n sl (kyP (k1, k2)))) nn5 (putAll (szA (renL a n sl (kyP (k1, k2)))) (szN (renL a n sl (kyP (k1, k2)))) (fun _ => (0, 0)) (ents a n sl 0))) := ⟨HB4.out.1.next HB4.out.2 ho5, ht5⟩
    rw [if_neg (by omega)] at HG1
    have hnn5 : nn5 ≤ 400 := by have := HLn.out; omega
    clear hn5 ht5 ho5 HB4 HRn HKy hf
    refine hK.out _ _ (HSc.out _ HB5.out.1) (fun hS5 => ?_)
    clear hK
    try simp only [Act.put, List.setIfInBounds_toArray, List.set_cons_zero, List.set_cons_succ, List.getElem_toArray, List.getElem_cons_zero, List.getElem_cons_succ]
    refine wpAnyH_ready (rs := [4]) (by kernel_rfl) (by simp) ?_
    refine AllReadyH.cons rfl (fun K hK => ?_) AllReadyH.nil
    go_simp
    refine hK.out _ _ hS5 (fun _ => ?_)
    clear hK hS5
    try simp only [Act.put, List.setIfInBounds_toArray, List.set_cons_zero, List.set_cons_succ, List.getElem_toArray, List.getElem_cons_zero, List.getElem_cons_succ]
    refine wpAnyH_done (by kernel_rfl) ?_ _
    have HS2 := Set1_any HB5.out.2 (by omega) k1 k2 v1 v2 HX.out HB5.out.1.b0 HB5.out.1.b1 HB5.out.1.b2 (HB5.out.1.fp HB5.out.2)
    have e0 : kyP (k1, k2) = (kyT k1 k2, kyN k1 k2) := rfl
    rw [← e0] at HS2
    generalize putAll (szA (renL a n sl (kyP (k1, k2)))) (szN (renL a n sl (kyP (k1, k2)))) (fun _ => (0, 0)) (ents a n sl 0) = sl1 at HB5 HS2 HG1
    generalize szA (renL a n sl (kyP (k1, k2))) = a' at HB5 HS2 HG1
    generalize szN (renL a n sl (kyP (k1, k2))) = n' at HB5 HS2 HG1
    generalize kyP (k1, k2) = ky at HS2 HG1
    generalize putR a' n' sl1 ky (v1, v2) = r at HS2 HG1
    obtain ⟨r1, r2⟩ := r
    simp only at HS2 HG1
    have HP2 : Hid _ := HS2
    clear HS2 e0
    cases r1
    · go_wp2_with fail
      refine Calls.mono HP2.out ?_
      rintro e W6 ⟨rfl, ⟨nn6, hn6, ht6⟩, ho6⟩
      have HE : Hid ((∃ nn', nn' ≤ nn + 500 ∧ Tb W6 P most a' n' nn' r2) ∧ Own w P W6) := ⟨⟨nn6, by omega, ht6⟩, HB5.out.1.own.trans ho6⟩
      clear ht6 ho6 HP2
      go_wp2
      go_ret
      rw [HG1.out]
      exact ⟨rfl, HE.out⟩
    · go_wp2_with fail
      refine Calls.mono HP2.out ?_
      rintro e W6 ⟨rfl, ⟨nn6, hn6, ht6⟩, ho6⟩
      have HE : Hid ((∃ nn', nn' ≤ nn + 500 ∧ Tb W6 P most a' n' nn' r2) ∧ Own w P W6) := ⟨⟨nn6, by omega, ht6⟩, HB5.out.1.own.trans ho6⟩
      clear ht6 ho6 HP2
      go_wp2
      go_ret
      rw [HG1.out]
      exact ⟨rfl, HE.out⟩
end Go.Proofs.Ythefmfjlinpepaa
