/- The document's Print. -/
import Derived.Test.YtbhmgmbgplkkeaaDoorV1
import Derived.Test.YtbhmgmbgplkkeaaDoorP6
import Derived.Deep.RegionHeld3
namespace Go.Proofs.YtbhmgmbgplkkeaaDoor
open Go.RowKit
set_option linter.unusedSimpArgs false
set_option linter.unusedVariables false

/-- A line by its kind. -/
theorem line_kd {p : V} (h : fitsP p = true) (k : Nat) : ∃ kd : Nat, p.1 = kd ∧ kd < 6 ∧ (0 ≤ p.2 ∧ p.2 ≤ 999999999) ∧ lineT p k = (rowsL.getD kd lineT.r0').word ++ ((if kd = 1 ∨ kd = 4 then 32 :: Lib.itoa p.2 else []) ++ (if 1 < k then 32 :: 120 :: Lib.itoa (k : Int) else [])) := by
  obtain ⟨r, hr, hmem, hkind, h0, hm, hT⟩ := fits_row h
  have hm9 : 0 ≤ p.2 ∧ p.2 ≤ 999999999 := ⟨h0, by have := (rows_all r hmem).2.2.2.2.2.2.2.2.1; omega⟩
  rw [hT]
  simp only [rowsL, List.mem_cons, List.not_mem_nil, or_false] at hmem
  rcases hmem with rfl | rfl | rfl | rfl | rfl | rfl
  · exact ⟨0, hkind.symm, by omega, hm9, rfl⟩
  · exact ⟨1, hkind.symm, by omega, hm9, rfl⟩
  · exact ⟨2, hkind.symm, by omega, hm9, rfl⟩
  · exact ⟨3, hkind.symm, by omega, hm9, rfl⟩
  · exact ⟨4, hkind.symm, by omega, hm9, rfl⟩
  · exact ⟨5, hkind.symm, by omega, hm9, rfl⟩
theorem words_at : ∀ kd, kd < 6 → wordsB[kd]? = some (.string (mk (rowsL.getD kd lineT.r0').word))
  | 0, _ => rfl
  | 1, _ => rfl
  | 2, _ => rfl
  | 3, _ => rfl
  | 4, _ => rfl
  | 5, _ => rfl
  | n + 6, h => by omega
theorem words_len : ∀ kd, kd < 6 → (rowsL.getD kd lineT.r0').word.length ≤ 7
  | 0, _ => by decide
  | 1, _ => by decide
  | 2, _ => by decide
  | 3, _ => by decide
  | 4, _ => by decide
  | 5, _ => by decide
  | n + 6, h => by omega
/-- What is told once so many points are told. -/
def tailP (x : Sc) (l : List V) : Nat ⊕ List UInt8 := if l.all fitsP = false then .inl 6 else if 8192 < x.src.length then .inl 3 else .inr (textF x)

set_option maxRecDepth 20000 in
set_option maxHeartbeats 1000000 in
theorem RPrint_any {w : World} {z n : Int} {pv : Value} {src : ByteArray} {L : List V} (hL : RdV w pv L) (hn : L.length ≤ 140737488355328) (hs : src.size ≤ 140737488355328) :
    Calls Tryd.prog 16 #[SC z n pv src] w fun e w' => e = .returned (prV (printF ⟨z, n, L, bl src⟩)) ∧ Kept No w w' := by
  have HL0 : Hid (RdV w pv L) := hL
  obtain ⟨ao, cap, rfl, hcap, hC⟩ := hL
  obtain ⟨W, HW⟩ : ∃ W, Hid (W = w.alloc (.cells #[.int .i64 z, .int .i64 n, .slice ao L.length cap, .string src] 25)) := ⟨_, rfl⟩
  have HK : Hid (Kept No w W) := by show Kept _ _ _; rw [HW.out]; exact (Kept.refl No w).alloc _
  obtain ⟨R, HR⟩ : ∃ R, Hid (w.heap.size = R) := ⟨_, rfl⟩
  have HB : Hid (W.heap[R]? = some (.cells #[.int .i64 z, .int .i64 n, .slice ao L.length cap, .string src] 25 (0, 0))) := by show _ = _; rw [HW.out, ← HR.out]; exact World.alloc_heap_new w _
  have HX : Hid (∀ X, Kept No W X → X.cell? ⟨R, 0, none⟩ = some (.int .i64 z) ∧ X.cell? ⟨R, 1, none⟩ = some (.int .i64 n) ∧ X.cell? ⟨R, 2, none⟩ = some (.slice ao L.length cap) ∧ X.cell? ⟨R, 3, none⟩ = some (.string src)) := fun X hX => by
    have hb := hX.heap HB.out id
    exact ⟨by rw [cell_of hb]; rfl, by rw [cell_of hb]; rfl, by rw [cell_of hb]; rfl, by rw [cell_of hb]; rfl⟩
  obtain ⟨b0, b1, b2, b3⟩ := HX.out W (Kept.refl _ _)
  obtain ⟨P, HP⟩ : ∃ P, Hid (printF ⟨z, n, L, bl src⟩ = P) := ⟨_, rfl⟩
  rw [HP.out]
  clear hC
  by_cases hr : z < 1 ∨ 65536 < z ∨ n < 0 ∨ 20000 < n
  · have hP : P = .inl 7 := by rw [← HP.out]; unfold printF; rw [if_pos hr]
    subst hP
    clear HP
    have fin : ∀ (_ : z < 1 ∨ (¬ z < 1 ∧ 65536 < z) ∨ (¬ z < 1 ∧ ¬ 65536 < z ∧ n < 0) ∨ (¬ z < 1 ∧ ¬ 65536 < z ∧ ¬ n < 0 ∧ 20000 < n)), Calls Tryd.prog 16 #[SC z n (.slice ao L.length cap) src] w fun e w' => e = .returned (prV (.inl 7)) ∧ Kept No w w' := by
      clear hr
      rintro (h | ⟨h, h2⟩ | ⟨h, h2, h3⟩ | ⟨h, h2, h3, h4⟩)
      all_goals
        go_enter Tryd.func16, Tryd.ntmps16
        go_wp2_with (first | rw [← HW.out, HR.out])
        go_ret2
        exact ⟨rfl, HK.out⟩
    exact fin (by omega)
  have HP1 : Hid ((if 4000 < L.length then .inl 4 else if L.all fitsP = false then .inl 6 else if 8192 < (bl src).length then .inl 3 else .inr (textF ⟨z, n, L, bl src⟩)) = P) := by
    show _ = _
    rw [← HP.out]; unfold printF; rw [if_neg hr]; rfl
  have z0 : ¬ z < 1 := fun e => hr (.inl e)
  have z1 : ¬ 65536 < z := fun e => hr (.inr (.inl e))
  have n0 : ¬ n < 0 := fun e => hr (.inr (.inr (.inl e)))
  have n1 : ¬ 20000 < n := fun e => hr (.inr (.inr (.inr e)))
  by_cases hm : 4000 < L.length
  · have hP : P = .inl 4 := by rw [← HP1.out, if_pos hm]
    subst hP
    have im : (4000 : Int) < (L.length : Int) := by omega
    clear HP HP1 hr
    go_enter Tryd.func16, Tryd.ntmps16
    go_wp2_with (first | rw [← HW.out, HR.out])
    go_ret2
    exact ⟨rfl, HK.out⟩
  have im : ¬ (4000 : Int) < (L.length : Int) := by omega
  have hm4 : L.length ≤ 4000 := by omega
  have HP2 : Hid ((if (L.drop 0).all fitsP = false then .inl 6 else if 8192 < (bl src).length then .inl 3 else .inr (textF ⟨z, n, L, bl src⟩)) = P) := by show _ = _; rw [← HP1.out, if_neg hm]; rfl
  have HDz : Hid (∀ X, ∃ A : ByteArray, A = mk (Lib.itoa z) ∧ A.size ≤ 20 ∧ Calls Tryd.prog 32 #[.int .i64 z] X fun e w' => e = .returned (.string A) ∧ X = w') := fun X => ⟨_, rfl, by rw [mk_size]; exact itoa_size (by omega) (by omega), dec_any z (by omega) (by omega) X⟩
  have HDn : Hid (∀ X, ∃ A : ByteArray, A = mk (Lib.itoa n) ∧ A.size ≤ 20 ∧ Calls Tryd.prog 32 #[.int .i64 n] X fun e w' => e = .returned (.string A) ∧ X = w') := fun X => ⟨_, rfl, by rw [mk_size]; exact itoa_size (by omega) (by omega), dec_any n (by omega) (by omega) X⟩
  clear HP HP1 hr
  go_enter Tryd.func16, Tryd.ntmps16
  go_wp2_with (first | rw [← HW.out, HR.out])
  obtain ⟨A, hA, sA, -⟩ := HDz.out W
  obtain ⟨A2, hA2, sA2, -⟩ := HDn.out W
  have HA : Hid (∀ X, Calls Tryd.prog 32 #[.int .i64 z] X fun e w' => e = .returned (.string A) ∧ X = w') := fun X => by
    obtain ⟨B, hB, _, h⟩ := HDz.out X
    rw [hA, ← hB]; exact h
  have HA2 : Hid (∀ X, Calls Tryd.prog 32 #[.int .i64 n] X fun e w' => e = .returned (.string A2) ∧ X = w') := fun X => by
    obtain ⟨B, hB, _, h⟩ := HDn.out X
    rw [hA2, ← hB]; exact h
  replace hA : Hid (A = mk (Lib.itoa z)) := hA
  replace hA2 : Hid (A2 = mk (Lib.itoa n)) := hA2
  refine region_quiet_class (C := fun w' => ∃ m, w' = W.drewN m) mixed (by kernel_rfl) ⟨1, rfl⟩ ?_
  go_big_quiet_step (fail)
  go_big_quiet_step (fail)
  go_big_quiet_step (exact quiet_same (HA.out _))
  refine q_op (.string ((⟨#[115, 105, 122, 101, 32]⟩ : ByteArray) ++ A)) (by kernel_rfl) (fun W1 hW1 => by simp [go_sem] <;> omega) ?_
  try simp only [Act.put, List.setIfInBounds_toArray, List.set_cons_zero, List.set_cons_succ]
  refine q_op (.string (((⟨#[115, 105, 122, 101, 32]⟩ : ByteArray) ++ A) ++ ⟨#[10, 115, 116, 101, 112, 115, 32]⟩)) (by kernel_rfl) (fun W1 hW1 => by simp [go_sem] <;> omega) ?_
  try simp only [Act.put, List.setIfInBounds_toArray, List.set_cons_zero, List.set_cons_succ]
  go_big_quiet_step (fail)
  go_big_quiet_step (fail)
  go_big_quiet_step (exact quiet_same (HA2.out _))
  refine q_op (.string ((((⟨#[115, 105, 122, 101, 32]⟩ : ByteArray) ++ A) ++ ⟨#[10, 115, 116, 101, 112, 115, 32]⟩) ++ A2)) (by kernel_rfl) (fun W1 hW1 => by simp [go_sem] <;> omega) ?_
  try simp only [Act.put, List.setIfInBounds_toArray, List.set_cons_zero, List.set_cons_succ]
  refine q_op (.string (((((⟨#[115, 105, 122, 101, 32]⟩ : ByteArray) ++ A) ++ ⟨#[10, 115, 116, 101, 112, 115, 32]⟩) ++ A2) ++ ⟨#[10]⟩)) (by kernel_rfl) (fun W1 hW1 => by simp [go_sem] <;> omega) ?_
  try simp only [Act.put, List.setIfInBounds_toArray, List.set_cons_zero, List.set_cons_succ]
  go_big_quiet_step (fail)
  refine wpQuiet_nil ?_
  rintro w9 ⟨nq, hw9⟩
  obtain ⟨S0, HS0⟩ : ∃ S0, Hid ((((((⟨#[115, 105, 122, 101, 32]⟩ : ByteArray) ++ A) ++ ⟨#[10, 115, 116, 101, 112, 115, 32]⟩) ++ A2) ++ ⟨#[10]⟩) = S0) := ⟨_, rfl⟩
  have hS0 : Hid (bl S0 = headT z n) := by
    show _ = _
    rw [← HS0.out, hA.out, hA2.out]; simp [bl, headT, mk]
  have HK9 : Hid (Kept No W w9) := by show Kept _ _ _; rw [hw9]; exact (Kept.refl _ _).drewN nq
  rw [HS0.out]
  clear hw9 HS0 hA hA2 HA HA2 HDz HDn sA sA2 b0 b1 b2 b3
  obtain ⟨b0, b1, b2, b3⟩ := HX.out w9 HK9.out
  have HC : Hid (∀ j (hj : j < L.length), ∃ b off, ao = some ⟨b, off, none⟩ ∧ w.cell? ⟨b, off + j * 2, none⟩ = some (.int .i64 L[j].1) ∧ w.cell? ⟨b, off + j * 2 + 1, none⟩ = some (.int .i64 L[j].2)) := by
    obtain ⟨_, _, e1, _, hc⟩ := HL0.out
    injection e1 with e1 e2 e3
    subst e1
    exact hc
  have HS0 : S0.size ≤ 100 := by
    have := head_len z n (by omega) (by omega) (by omega) (by omega)
    rw [← bl_len, hS0.out]; omega
  go_wp2_with fail
  go_loopw [2, 3, 4, 5, 6] (fun v2 v3 v4 v5 v6 wr => ∃ (S : ByteArray) (k j : Nat), v4 = .string S ∧ v5 = .int .i64 k ∧ v6 = .int .i64 j ∧ j ≤ L.length ∧ k ≤ j ∧ S.size ≤ 100 + 100 * j ∧ Hid ((bl S ++ bodyR k (L.drop j) = headT z n ++ bodyR 0 L ∧ (k ≠ 0 → 0 < (L.drop j).length)) ∧ tailP ⟨z, n, L, bl src⟩ (L.drop j) = P ∧ Kept No W wr)) (fun _ _ _ _ v6 _ => L.length - (intOf v6).toNat)
  case atStart => exact ⟨S0, 0, 0, rfl, rfl, rfl, Nat.zero_le _, Nat.le_refl _, HS0, ⟨by rw [hS0.out]; rfl, fun e => absurd rfl e⟩, HP2.out, HK9.out⟩
  case round =>
    clear b0 b1 b2 b3 hS0 HS0
    obtain ⟨S, k, j, rfl, rfl, rfl, hj, hkj, hS, HJ⟩ := hrel
    obtain ⟨b0, b1, b2, b3⟩ := HX.out wr HJ.out.2.2
    by_cases hlt : j < L.length
    · have ij : (j : Int) < (L.length : Int) := by omega
      obtain ⟨ab, aoff, hao, x0, x1⟩ := HC.out j hlt
      subst hao
      have k0 := cell_kept x0 (HK.out.trans HJ.out.2.2)
      have k1 := cell_kept x1 (HK.out.trans HJ.out.2.2)
      have hd : L.drop j = L[j] :: L.drop (j + 1) := List.drop_eq_getElem_cons hlt
      have HT : Hid (bl S ++ bodyR k (L[j] :: L.drop (j + 1)) = headT z n ++ bodyR 0 L) := by rw [← hd]; exact HJ.out.1.1
      have HE : Hid ((if (fitsP L[j] && (L.drop (j + 1)).all fitsP) = false then .inl 6 else if 8192 < (bl src).length then .inl 3 else .inr (textF ⟨z, n, L, bl src⟩)) = P) := by
        have := HJ.out.2.1
        unfold tailP at this
        rw [hd, List.all_cons] at this; exact this
      have HKr : Hid (Kept No W wr) := HJ.out.2.2
      have HN : Hid (∀ q, (L.drop (j + 1)).head? = some q → ∃ h : j + 1 < L.length, L[j + 1] = q) := fun q hq => by
        rw [List.head?_drop] at hq
        obtain ⟨h, e⟩ := List.getElem?_eq_some_iff.1 hq
        exact ⟨h, e⟩
      have HNi : Hid (j + 1 < L.length → ∃ q, (L.drop (j + 1)).head? = some q ∧ wr.cell? ⟨ab, aoff + (j + 1) * 2, none⟩ = some (.int .i64 q.1) ∧ wr.cell? ⟨ab, aoff + (j + 1) * 2 + 1, none⟩ = some (.int .i64 q.2)) := fun h => by
        obtain ⟨ab', aoff', e, y0, y1⟩ := HC.out (j + 1) h
        injection e with e
        injection e with e1 e2
        subst e1 e2
        exact ⟨L[j + 1], by rw [List.head?_drop]; exact List.getElem?_eq_getElem h, cell_kept y0 (HK.out.trans HKr.out), cell_kept y1 (HK.out.trans HKr.out)⟩
      have HDl : Hid ((L.drop (j + 1)).length = L.length - (j + 1)) := List.length_drop
      obtain ⟨D, hDe⟩ : ∃ D, Hid (L.drop (j + 1) = D) := ⟨_, rfl⟩
      rw [hDe.out] at HT HE HN HNi HDl
      generalize L[j] = pp at k0 k1 HT HE
      obtain ⟨p1, p2⟩ := pp
      obtain ⟨W3, HW3⟩ : ∃ W3, Hid (W3 = wr.alloc (.cells #[.int .i64 p1, .int .i64 p2] 45)) := ⟨_, rfl⟩
      obtain ⟨pb, Hpb⟩ : ∃ b, Hid (wr.heap.size = b) := ⟨_, rfl⟩
      have HK3 : Hid (Kept No W W3 ∧ Kept No wr W3) := by rw [HW3.out]; exact ⟨HKr.out.alloc _, (Kept.refl _ _).alloc _⟩
      have HFt : Hid (Calls Tryd.prog 33 #[.agg #[.int .i64 p1, .int .i64 p2]] W3 fun e w' => e = .returned (.bool (fitsP (p1, p2))) ∧ Kept No W3 w') := Fits_any p1 p2 W3
      clear HJ hd x0 x1
      go_wp2_with fail
      rw [← HW3.out, Hpb.out]
      refine Calls.mono HFt.out ?_
      rintro e w4 ⟨rfl, hk4⟩
      have HK4 : Hid (Kept No W w4 ∧ Kept No wr w4) := ⟨HK3.out.1.trans hk4, HK3.out.2.trans hk4⟩
      have HpC : Hid (∀ X, Kept No w4 X → X.cell? ⟨pb, 0, none⟩ = some (.int .i64 p1) ∧ X.cell? ⟨pb, 1, none⟩ = some (.int .i64 p2)) := fun X hX => by
        have hb : W3.heap[pb]? = some (.cells #[.int .i64 p1, .int .i64 p2] 45 (0, 0)) := by rw [HW3.out, ← Hpb.out]; exact World.alloc_heap_new wr _
        have hb := (hk4.trans hX).heap hb id
        exact ⟨by rw [cell_of hb]; rfl, by rw [cell_of hb]; rfl⟩
      obtain ⟨d0, d1⟩ := HpC.out w4 (Kept.refl _ _)
      obtain ⟨b0, b1, b2, b3⟩ := HX.out w4 HK4.out.1
      clear hk4 HFt HK3 HW3 Hpb k0 k1
      cases hfp : fitsP (p1, p2) with
      | false =>
        rw [hfp] at HE
        have hP : P = .inl 6 := by rw [← HE.out, Bool.false_and, if_pos rfl]
        subst hP
        clear HE HP2
        have HKe : Hid (Kept No w w4) := HK.out.trans HK4.out.1
        go_wp2_with fail
        go_ret2
        exact ⟨rfl, HKe.out⟩
      | true =>
        have HE2 : Hid (tailP ⟨z, n, L, bl src⟩ D = P) := by
          have := HE.out
          rw [hfp, Bool.true_and] at this; exact this
        have HLt : Hid (fitsP (p1, p2) = true) := hfp
        clear HE HP2 hfp
        by_cases hj1 : j + 1 < L.length
        · have ij1 : (j : Int) + 1 < (L.length : Int) := by omega
          obtain ⟨⟨q1, q2⟩, hq, y0, y1⟩ := HNi.out hj1
          replace y0 := cell_kept y0 HK4.out.2
          replace y1 := cell_kept y1 HK4.out.2
          dsimp only at y0 y1
          by_cases e1 : q1 = p1
          · rw [e1] at y0 hq
            by_cases e2 : q2 = p2
            · rw [e2] at y1 hq
              have HR1 : Hid (bl S ++ bodyR (k + 1) D = headT z n ++ bodyR 0 L) := by
                have := HT.out
                rw [bodyR, if_pos hq] at this; exact this
              have hDl : 0 < D.length := by rw [HDl.out]; omega
              clear hq
              go_wp2_with fail
              go_quiet (fail)
              go_wp2_with fail
              go_roundw
              case rel => exact ⟨S, k + 1, j + 1, rfl, by go_num, by go_num, by omega, by omega, by omega, ⟨by rw [hDe.out]; exact HR1.out, fun _ => by rw [hDe.out]; exact hDl⟩, by rw [hDe.out]; exact HE2.out, HK4.out.1.drewN nq⟩
              case measure => simp [intOf] <;> omega
            · have e2' : (q2 == p2) = false := by rw [beq_eq_false_iff_ne]; exact e2
              have HR2 : Hid (bl S ++ (lineT (p1, p2) (k + 1) ++ (10 :: bodyR 0 D)) = headT z n ++ bodyR 0 L) := by
                have := HT.out
                rw [bodyR, if_neg (by rw [hq]; intro e; injection e with e; injection e with _ e; exact e2 e)] at this; exact this
              clear HT HN HNi
              go_wp2_with fail
              go_quiet (fail)
              have HKz : Hid (Kept No W (w4.drewN nq) ∧ Kept No w4 (w4.drewN nq)) := ⟨HK4.out.1.drewN nq, (Kept.refl _ _).drewN nq⟩
              generalize w4.drewN nq = wz at HKz ⊢
              obtain ⟨d0, d1⟩ := HpC.out wz HKz.out.2
              obtain ⟨kd, hkd, hkd6, hp2, HLn⟩ := line_kd HLt.out (k + 1)
              replace hp2 : Hid _ := hp2
              have ikd : (kd : Int) < 6 := by omega
              obtain ⟨wd, hwd⟩ : ∃ wd, Hid (mk (rowsL.getD kd lineT.r0').word = wd) := ⟨_, rfl⟩
              dsimp only at hkd
              have swd : wd.size ≤ 7 := by rw [← hwd.out, mk_size]; exact words_len kd hkd6
              replace HLn : Hid _ := HLn
              rw [hkd] at d0
              rw [hkd]
              go_wp2_with fail
              refine wp_region_held_drew (S := fun X => X.cell? ⟨pb, 0, none⟩ = some (.int .i64 (kd : Int))) mixed d0 (fun hSS => ?_)
              have HKy : Hid (Kept No W wz.drew) := HKz.out.1.drew
              have HKy2 : Hid (Kept No w4 wz.drew) := HKz.out.2.drew
              generalize wz.drew = wy at HKy HKy2 hSS ⊢
              refine wpAnyH_take (i := 0) (v := .string S) rfl (by kernel_rfl) (by kernel_rfl) (by kernel_rfl) (fun _ _ _ h => h) (Or.inl ⟨by rfl, by intro w' hw; go_simp⟩) hSS ?_
              try simp only [Act.put, List.setIfInBounds_toArray, List.set_cons_zero, List.set_cons_succ, List.getElem_toArray, List.getElem_cons_zero, List.getElem_cons_succ]
              refine wpAnyH_take (i := 2) (v := .pointer (some ⟨pb, 0, none⟩)) rfl (by kernel_rfl) (by kernel_rfl) (by kernel_rfl) (fun _ _ _ h => h) (Or.inl ⟨by rfl, by intro w' hw; go_simp⟩) hSS ?_
              try simp only [Act.put, List.setIfInBounds_toArray, List.set_cons_zero, List.set_cons_succ, List.getElem_toArray, List.getElem_cons_zero, List.getElem_cons_succ]
              refine wpAnyH_take (i := 3) (v := .int .i64 kd) rfl (by kernel_rfl) (by kernel_rfl) (by kernel_rfl) (fun _ _ _ h => h) (Or.inl ⟨by rfl, by intro w' hw; have q0 := hw; go_simp⟩) hSS ?_
              try simp only [Act.put, List.setIfInBounds_toArray, List.set_cons_zero, List.set_cons_succ, List.getElem_toArray, List.getElem_cons_zero, List.getElem_cons_succ]
              refine wpAnyH_ready (rs := [1]) (by kernel_rfl) (by simp) ?_
              refine AllReadyH.cons rfl (fun K hK => ?_) AllReadyH.nil
              go_simp
              refine Calls.mono (Rwords_any wy) ?_
              rintro e X9 ⟨rfl, hX9⟩
              have HX9 : Hid (Kept No wy X9 ∧ X9.heap[wy.heap.size]? = some (.cells wordsB 9 (0, 0))) := by rw [hX9]; exact ⟨(Kept.refl _ _).alloc _, World.alloc_heap_new wy _⟩
              have hwc : X9.cell? ⟨wy.heap.size, kd, none⟩ = some (.string wd) := by rw [cell_of HX9.out.2, ← hwd.out]; exact words_at kd hkd6
              have HK9' : Hid (Kept No W X9 ∧ Kept No w4 X9) := ⟨HKy.out.trans HX9.out.1, HKy2.out.trans HX9.out.1⟩
              have d09 : X9.cell? ⟨pb, 0, none⟩ = some (.int .i64 (kd : Int)) := by rw [← hkd]; exact (HpC.out X9 HK9'.out.2).1
              clear hX9
              generalize wy.heap.size = wbk at hwc ⊢
              go_simp
              refine hK.out _ _ d09 (fun hSS => ?_)
              clear hK K
              try simp only [Act.put, List.setIfInBounds_toArray, List.set_cons_zero, List.set_cons_succ, List.getElem_toArray, List.getElem_cons_zero, List.getElem_cons_succ]
              refine wpAnyH_take (i := 4) (v := .pointer (some ⟨wbk, kd, none⟩)) rfl (by kernel_rfl) (by kernel_rfl) (by kernel_rfl) (fun _ _ _ h => h) (Or.inl ⟨by rfl, by intro w' hw; go_simp⟩) hSS ?_
              try simp only [Act.put, List.setIfInBounds_toArray, List.set_cons_zero, List.set_cons_succ, List.getElem_toArray, List.getElem_cons_zero, List.getElem_cons_succ]
              refine wpAnyH_ready (rs := [5]) (by kernel_rfl) (by simp) ?_
              refine AllReadyH.cons rfl (fun K hK => ?_) AllReadyH.nil
              go_simp
              refine hK.out _ _ d09 (fun hSS => ?_)
              clear hK K
              try simp only [Act.put, List.setIfInBounds_toArray, List.set_cons_zero, List.set_cons_succ, List.getElem_toArray, List.getElem_cons_zero, List.getElem_cons_succ]
              refine wpAnyH_take (i := 6) (v := .string (S ++ wd)) rfl (by kernel_rfl) (by kernel_rfl) (by kernel_rfl) (fun _ _ _ h => h) (Or.inl ⟨by rfl, by intro w' hw; go_simp <;> omega⟩) hSS ?_
              try simp only [Act.put, List.setIfInBounds_toArray, List.set_cons_zero, List.set_cons_succ, List.getElem_toArray, List.getElem_cons_zero, List.getElem_cons_succ]
              refine wpAnyH_take (i := 7) (v := .string (S ++ wd)) rfl (by kernel_rfl) (by kernel_rfl) (by kernel_rfl) (fun _ _ _ h => h) (Or.inl ⟨by rfl, by intro w' hw; go_simp⟩) hSS ?_
              try simp only [Act.put, List.setIfInBounds_toArray, List.set_cons_zero, List.set_cons_succ, List.getElem_toArray, List.getElem_cons_zero, List.getElem_cons_succ]
              refine wpAnyH_done (by kernel_rfl) ?_ _
              have hKf : Hid (Kept No W X9) := HK9'.out.1
              have d19 : X9.cell? ⟨pb, 1, none⟩ = some (.int .i64 p2) := (HpC.out X9 HK9'.out.2).2
              have HKf := hKf
              have im0 : 0 < k → (1 : Int) < (k : Int) + 1 := fun h => by omega
              have im1 : ¬ 0 < k → ¬ (1 : Int) < (k : Int) + 1 := fun h => by omega
              obtain ⟨N3, HN3⟩ : ∃ N3, Hid (mk (Lib.itoa ((k + 1 : Nat) : Int)) = N3) := ⟨_, rfl⟩
              have sN3 : N3.size ≤ 20 := by rw [← HN3.out, mk_size]; exact itoa_size (by omega) (by omega)
              have HD3 : Hid (∀ X, Calls Tryd.prog 32 #[.int .i64 ((k : Int) + 1)] X fun e w' => e = .returned (.string N3) ∧ X = w') := fun X => by
                rw [← HN3.out]; exact dec_any ((k + 1 : Nat) : Int) (by omega) (by omega) X
              obtain ⟨N2, HN2⟩ : ∃ N2, Hid (mk (Lib.itoa p2) = N2) := ⟨_, rfl⟩
              have sN2 : N2.size ≤ 20 := by rw [← HN2.out, mk_size]; exact itoa_size hp2.out.1 hp2.out.2
              have HD2 : Hid (∀ X, Calls Tryd.prog 32 #[.int .i64 p2] X fun e w' => e = .returned (.string N2) ∧ X = w') := fun X => by
                rw [← HN2.out]; exact dec_any p2 hp2.out.1 hp2.out.2 X
              clear hKf hwc HK9' HX9 HKy HKy2 hSS d0 d1 b0 b1 b2 b3 y0 y1
              by_cases g1 : kd = 1
              · by_cases hk0 : 0 < k
                · have hmany : 1 < k + 1 := by omega
                  have im := im0 hk0
                  clear im0 im1
                  have hnum : kd = 1 ∨ kd = 4 := .inl g1
                  have e1g : ((kd : Int) == 1) = true := by rw [beq_iff_eq]; omega
                  have HF : Hid (bl ((((S ++ wd) ++ ⟨#[32]⟩ ++ N2) ++ ⟨#[32, 120]⟩ ++ N3) ++ ⟨#[10]⟩) ++ bodyR 0 D = headT z n ++ bodyR 0 L) := by
                    show _ = _
                    rw [← HR2.out, HLn.out, if_pos hnum, if_pos hmany, ← hwd.out, ← HN2.out, ← HN3.out]
                    simp [bl, mk]
                  have HSf : ((((S ++ wd) ++ ⟨#[32]⟩ ++ N2) ++ ⟨#[32, 120]⟩ ++ N3) ++ ⟨#[10]⟩).size ≤ 100 + 100 * (j + 1) := by go_size
                  go_wp2_with fail
                  refine Calls.mono (HD2.out _) ?_
                  rintro e X10 ⟨rfl, rfl⟩
                  go_wp2_with fail
                  refine Calls.mono (HD3.out _) ?_
                  rintro e X10 ⟨rfl, rfl⟩
                  go_wp2_with fail
                  go_roundw
                  case rel => exact ⟨_, 0, j + 1, rfl, rfl, by go_num, by omega, by omega, HSf, ⟨by rw [hDe.out]; exact HF.out, fun e => absurd rfl e⟩, by rw [hDe.out]; exact HE2.out, HKf.out⟩
                  case measure => simp [intOf] <;> omega
                · have hmany : ¬ 1 < k + 1 := by omega
                  have im := im1 hk0
                  clear im0 im1
                  have hnum : kd = 1 ∨ kd = 4 := .inl g1
                  have e1g : ((kd : Int) == 1) = true := by rw [beq_iff_eq]; omega
                  have HF : Hid (bl (((S ++ wd) ++ ⟨#[32]⟩ ++ N2) ++ ⟨#[10]⟩) ++ bodyR 0 D = headT z n ++ bodyR 0 L) := by
                    show _ = _
                    rw [← HR2.out, HLn.out, if_pos hnum, if_neg hmany, ← hwd.out, ← HN2.out]
                    simp [bl, mk]
                  have HSf : (((S ++ wd) ++ ⟨#[32]⟩ ++ N2) ++ ⟨#[10]⟩).size ≤ 100 + 100 * (j + 1) := by go_size
                  go_wp2_with fail
                  refine Calls.mono (HD2.out _) ?_
                  rintro e X10 ⟨rfl, rfl⟩
                  go_wp2_with fail
                  go_roundw
                  case rel => exact ⟨_, 0, j + 1, rfl, rfl, by go_num, by omega, by omega, HSf, ⟨by rw [hDe.out]; exact HF.out, fun e => absurd rfl e⟩, by rw [hDe.out]; exact HE2.out, HKf.out⟩
                  case measure => simp [intOf] <;> omega
              by_cases g4 : kd = 4
              · by_cases hk0 : 0 < k
                · have hmany : 1 < k + 1 := by omega
                  have im := im0 hk0
                  clear im0 im1
                  have hnum : kd = 1 ∨ kd = 4 := .inr g4
                  have e1g : ((kd : Int) == 1) = false := by rw [beq_eq_false_iff_ne]; omega
                  have e4g : ((kd : Int) == 4) = true := by rw [beq_iff_eq]; omega
                  have HF : Hid (bl ((((S ++ wd) ++ ⟨#[32]⟩ ++ N2) ++ ⟨#[32, 120]⟩ ++ N3) ++ ⟨#[10]⟩) ++ bodyR 0 D = headT z n ++ bodyR 0 L) := by
                    show _ = _
                    rw [← HR2.out, HLn.out, if_pos hnum, if_pos hmany, ← hwd.out, ← HN2.out, ← HN3.out]
                    simp [bl, mk]
                  have HSf : ((((S ++ wd) ++ ⟨#[32]⟩ ++ N2) ++ ⟨#[32, 120]⟩ ++ N3) ++ ⟨#[10]⟩).size ≤ 100 + 100 * (j + 1) := by go_size
                  go_wp2_with fail
                  refine Calls.mono (HD2.out _) ?_
                  rintro e X10 ⟨rfl, rfl⟩
                  go_wp2_with fail
                  refine Calls.mono (HD3.out _) ?_
                  rintro e X10 ⟨rfl, rfl⟩
                  go_wp2_with fail
                  go_roundw
                  case rel => exact ⟨_, 0, j + 1, rfl, rfl, by go_num, by omega, by omega, HSf, ⟨by rw [hDe.out]; exact HF.out, fun e => absurd rfl e⟩, by rw [hDe.out]; exact HE2.out, HKf.out⟩
                  case measure => simp [intOf] <;> omega
                · have hmany : ¬ 1 < k + 1 := by omega
                  have im := im1 hk0
                  clear im0 im1
                  have hnum : kd = 1 ∨ kd = 4 := .inr g4
                  have e1g : ((kd : Int) == 1) = false := by rw [beq_eq_false_iff_ne]; omega
                  have e4g : ((kd : Int) == 4) = true := by rw [beq_iff_eq]; omega
                  have HF : Hid (bl (((S ++ wd) ++ ⟨#[32]⟩ ++ N2) ++ ⟨#[10]⟩) ++ bodyR 0 D = headT z n ++ bodyR 0 L) := by
                    show _ = _
                    rw [← HR2.out, HLn.out, if_pos hnum, if_neg hmany, ← hwd.out, ← HN2.out]
                    simp [bl, mk]
                  have HSf : (((S ++ wd) ++ ⟨#[32]⟩ ++ N2) ++ ⟨#[10]⟩).size ≤ 100 + 100 * (j + 1) := by go_size
                  go_wp2_with fail
                  refine Calls.mono (HD2.out _) ?_
                  rintro e X10 ⟨rfl, rfl⟩
                  go_wp2_with fail
                  go_roundw
                  case rel => exact ⟨_, 0, j + 1, rfl, rfl, by go_num, by omega, by omega, HSf, ⟨by rw [hDe.out]; exact HF.out, fun e => absurd rfl e⟩, by rw [hDe.out]; exact HE2.out, HKf.out⟩
                  case measure => simp [intOf] <;> omega
              by_cases hk0 : 0 < k
              · have hmany : 1 < k + 1 := by omega
                have im := im0 hk0
                clear im0 im1
                have hnum : ¬ (kd = 1 ∨ kd = 4) := by omega
                have e1g : ((kd : Int) == 1) = false := by rw [beq_eq_false_iff_ne]; omega
                have e4g : ((kd : Int) == 4) = false := by rw [beq_eq_false_iff_ne]; omega
                have HF : Hid (bl (((S ++ wd) ++ ⟨#[32, 120]⟩ ++ N3) ++ ⟨#[10]⟩) ++ bodyR 0 D = headT z n ++ bodyR 0 L) := by
                  show _ = _
                  rw [← HR2.out, HLn.out, if_neg hnum, if_pos hmany, ← hwd.out, ← HN3.out]
                  simp [bl, mk]
                have HSf : (((S ++ wd) ++ ⟨#[32, 120]⟩ ++ N3) ++ ⟨#[10]⟩).size ≤ 100 + 100 * (j + 1) := by go_size
                go_wp2_with fail
                refine Calls.mono (HD3.out _) ?_
                rintro e X10 ⟨rfl, rfl⟩
                go_wp2_with fail
                go_roundw
                case rel => exact ⟨_, 0, j + 1, rfl, rfl, by go_num, by omega, by omega, HSf, ⟨by rw [hDe.out]; exact HF.out, fun e => absurd rfl e⟩, by rw [hDe.out]; exact HE2.out, HKf.out⟩
                case measure => simp [intOf] <;> omega
              · have hmany : ¬ 1 < k + 1 := by omega
                have im := im1 hk0
                clear im0 im1
                have hnum : ¬ (kd = 1 ∨ kd = 4) := by omega
                have e1g : ((kd : Int) == 1) = false := by rw [beq_eq_false_iff_ne]; omega
                have e4g : ((kd : Int) == 4) = false := by rw [beq_eq_false_iff_ne]; omega
                have HF : Hid (bl ((S ++ wd) ++ ⟨#[10]⟩) ++ bodyR 0 D = headT z n ++ bodyR 0 L) := by
                  show _ = _
                  rw [← HR2.out, HLn.out, if_neg hnum, if_neg hmany, ← hwd.out]
                  simp [bl, mk]
                have HSf : ((S ++ wd) ++ ⟨#[10]⟩).size ≤ 100 + 100 * (j + 1) := by go_size
                go_wp2_with fail
                go_roundw
                case rel => exact ⟨_, 0, j + 1, rfl, rfl, by go_num, by omega, by omega, HSf, ⟨by rw [hDe.out]; exact HF.out, fun e => absurd rfl e⟩, by rw [hDe.out]; exact HE2.out, HKf.out⟩
                case measure => simp [intOf] <;> omega
          · have e1' : (q1 == p1) = false := by rw [beq_eq_false_iff_ne]; exact e1
            have HR2 : Hid (bl S ++ (lineT (p1, p2) (k + 1) ++ (10 :: bodyR 0 D)) = headT z n ++ bodyR 0 L) := by
              have := HT.out
              rw [bodyR, if_neg (by rw [hq]; intro e; injection e with e; injection e with e _; exact e1 e)] at this; exact this
            clear HT HN HNi
            go_wp2_with fail
            go_quiet (fail)
            have HKz : Hid (Kept No W (w4.drewN nq) ∧ Kept No w4 (w4.drewN nq)) := ⟨HK4.out.1.drewN nq, (Kept.refl _ _).drewN nq⟩
            generalize w4.drewN nq = wz at HKz ⊢
            obtain ⟨d0, d1⟩ := HpC.out wz HKz.out.2
            obtain ⟨kd, hkd, hkd6, hp2, HLn⟩ := line_kd HLt.out (k + 1)
            replace hp2 : Hid _ := hp2
            have ikd : (kd : Int) < 6 := by omega
            obtain ⟨wd, hwd⟩ : ∃ wd, Hid (mk (rowsL.getD kd lineT.r0').word = wd) := ⟨_, rfl⟩
            dsimp only at hkd
            have swd : wd.size ≤ 7 := by rw [← hwd.out, mk_size]; exact words_len kd hkd6
            replace HLn : Hid _ := HLn
            rw [hkd] at d0
            rw [hkd]
            go_wp2_with fail
            refine wp_region_held_drew (S := fun X => X.cell? ⟨pb, 0, none⟩ = some (.int .i64 (kd : Int))) mixed d0 (fun hSS => ?_)
            have HKy : Hid (Kept No W wz.drew) := HKz.out.1.drew
            have HKy2 : Hid (Kept No w4 wz.drew) := HKz.out.2.drew
            generalize wz.drew = wy at HKy HKy2 hSS ⊢
            refine wpAnyH_take (i := 0) (v := .string S) rfl (by kernel_rfl) (by kernel_rfl) (by kernel_rfl) (fun _ _ _ h => h) (Or.inl ⟨by rfl, by intro w' hw; go_simp⟩) hSS ?_
            try simp only [Act.put, List.setIfInBounds_toArray, List.set_cons_zero, List.set_cons_succ, List.getElem_toArray, List.getElem_cons_zero, List.getElem_cons_succ]
            refine wpAnyH_take (i := 2) (v := .pointer (some ⟨pb, 0, none⟩)) rfl (by kernel_rfl) (by kernel_rfl) (by kernel_rfl) (fun _ _ _ h => h) (Or.inl ⟨by rfl, by intro w' hw; go_simp⟩) hSS ?_
            try simp only [Act.put, List.setIfInBounds_toArray, List.set_cons_zero, List.set_cons_succ, List.getElem_toArray, List.getElem_cons_zero, List.getElem_cons_succ]
            refine wpAnyH_take (i := 3) (v := .int .i64 kd) rfl (by kernel_rfl) (by kernel_rfl) (by kernel_rfl) (fun _ _ _ h => h) (Or.inl ⟨by rfl, by intro w' hw; have q0 := hw; go_simp⟩) hSS ?_
            try simp only [Act.put, List.setIfInBounds_toArray, List.set_cons_zero, List.set_cons_succ, List.getElem_toArray, List.getElem_cons_zero, List.getElem_cons_succ]
            refine wpAnyH_ready (rs := [1]) (by kernel_rfl) (by simp) ?_
            refine AllReadyH.cons rfl (fun K hK => ?_) AllReadyH.nil
            go_simp
            refine Calls.mono (Rwords_any wy) ?_
            rintro e X9 ⟨rfl, hX9⟩
            have HX9 : Hid (Kept No wy X9 ∧ X9.heap[wy.heap.size]? = some (.cells wordsB 9 (0, 0))) := by rw [hX9]; exact ⟨(Kept.refl _ _).alloc _, World.alloc_heap_new wy _⟩
            have hwc : X9.cell? ⟨wy.heap.size, kd, none⟩ = some (.string wd) := by rw [cell_of HX9.out.2, ← hwd.out]; exact words_at kd hkd6
            have HK9' : Hid (Kept No W X9 ∧ Kept No w4 X9) := ⟨HKy.out.trans HX9.out.1, HKy2.out.trans HX9.out.1⟩
            have d09 : X9.cell? ⟨pb, 0, none⟩ = some (.int .i64 (kd : Int)) := by rw [← hkd]; exact (HpC.out X9 HK9'.out.2).1
            clear hX9
            generalize wy.heap.size = wbk at hwc ⊢
            go_simp
            refine hK.out _ _ d09 (fun hSS => ?_)
            clear hK K
            try simp only [Act.put, List.setIfInBounds_toArray, List.set_cons_zero, List.set_cons_succ, List.getElem_toArray, List.getElem_cons_zero, List.getElem_cons_succ]
            refine wpAnyH_take (i := 4) (v := .pointer (some ⟨wbk, kd, none⟩)) rfl (by kernel_rfl) (by kernel_rfl) (by kernel_rfl) (fun _ _ _ h => h) (Or.inl ⟨by rfl, by intro w' hw; go_simp⟩) hSS ?_
            try simp only [Act.put, List.setIfInBounds_toArray, List.set_cons_zero, List.set_cons_succ, List.getElem_toArray, List.getElem_cons_zero, List.getElem_cons_succ]
            refine wpAnyH_ready (rs := [5]) (by kernel_rfl) (by simp) ?_
            refine AllReadyH.cons rfl (fun K hK => ?_) AllReadyH.nil
            go_simp
            refine hK.out _ _ d09 (fun hSS => ?_)
            clear hK K
            try simp only [Act.put, List.setIfInBounds_toArray, List.set_cons_zero, List.set_cons_succ, List.getElem_toArray, List.getElem_cons_zero, List.getElem_cons_succ]
            refine wpAnyH_take (i := 6) (v := .string (S ++ wd)) rfl (by kernel_rfl) (by kernel_rfl) (by kernel_rfl) (fun _ _ _ h => h) (Or.inl ⟨by rfl, by intro w' hw; go_simp <;> omega⟩) hSS ?_
            try simp only [Act.put, List.setIfInBounds_toArray, List.set_cons_zero, List.set_cons_succ, List.getElem_toArray, List.getElem_cons_zero, List.getElem_cons_succ]
            refine wpAnyH_take (i := 7) (v := .string (S ++ wd)) rfl (by kernel_rfl) (by kernel_rfl) (by kernel_rfl) (fun _ _ _ h => h) (Or.inl ⟨by rfl, by intro w' hw; go_simp⟩) hSS ?_
            try simp only [Act.put, List.setIfInBounds_toArray, List.set_cons_zero, List.set_cons_succ, List.getElem_toArray, List.getElem_cons_zero, List.getElem_cons_succ]
            refine wpAnyH_done (by kernel_rfl) ?_ _
            have hKf : Hid (Kept No W X9) := HK9'.out.1
            have d19 : X9.cell? ⟨pb, 1, none⟩ = some (.int .i64 p2) := (HpC.out X9 HK9'.out.2).2
            have HKf := hKf
            have im0 : 0 < k → (1 : Int) < (k : Int) + 1 := fun h => by omega
            have im1 : ¬ 0 < k → ¬ (1 : Int) < (k : Int) + 1 := fun h => by omega
            obtain ⟨N3, HN3⟩ : ∃ N3, Hid (mk (Lib.itoa ((k + 1 : Nat) : Int)) = N3) := ⟨_, rfl⟩
            have sN3 : N3.size ≤ 20 := by rw [← HN3.out, mk_size]; exact itoa_size (by omega) (by omega)
            have HD3 : Hid (∀ X, Calls Tryd.prog 32 #[.int .i64 ((k : Int) + 1)] X fun e w' => e = .returned (.string N3) ∧ X = w') := fun X => by
              rw [← HN3.out]; exact dec_any ((k + 1 : Nat) : Int) (by omega) (by omega) X
            obtain ⟨N2, HN2⟩ : ∃ N2, Hid (mk (Lib.itoa p2) = N2) := ⟨_, rfl⟩
            have sN2 : N2.size ≤ 20 := by rw [← HN2.out, mk_size]; exact itoa_size hp2.out.1 hp2.out.2
            have HD2 : Hid (∀ X, Calls Tryd.prog 32 #[.int .i64 p2] X fun e w' => e = .returned (.string N2) ∧ X = w') := fun X => by
              rw [← HN2.out]; exact dec_any p2 hp2.out.1 hp2.out.2 X
            clear hKf hwc HK9' HX9 HKy HKy2 hSS d0 d1 b0 b1 b2 b3 y0 y1
            by_cases g1 : kd = 1
            · by_cases hk0 : 0 < k
              · have hmany : 1 < k + 1 := by omega
                have im := im0 hk0
                clear im0 im1
                have hnum : kd = 1 ∨ kd = 4 := .inl g1
                have e1g : ((kd : Int) == 1) = true := by rw [beq_iff_eq]; omega
                have HF : Hid (bl ((((S ++ wd) ++ ⟨#[32]⟩ ++ N2) ++ ⟨#[32, 120]⟩ ++ N3) ++ ⟨#[10]⟩) ++ bodyR 0 D = headT z n ++ bodyR 0 L) := by
                  show _ = _
                  rw [← HR2.out, HLn.out, if_pos hnum, if_pos hmany, ← hwd.out, ← HN2.out, ← HN3.out]
                  simp [bl, mk]
                have HSf : ((((S ++ wd) ++ ⟨#[32]⟩ ++ N2) ++ ⟨#[32, 120]⟩ ++ N3) ++ ⟨#[10]⟩).size ≤ 100 + 100 * (j + 1) := by go_size
                go_wp2_with fail
                refine Calls.mono (HD2.out _) ?_
                rintro e X10 ⟨rfl, rfl⟩
                go_wp2_with fail
                refine Calls.mono (HD3.out _) ?_
                rintro e X10 ⟨rfl, rfl⟩
                go_wp2_with fail
                go_roundw
                case rel => exact ⟨_, 0, j + 1, rfl, rfl, by go_num, by omega, by omega, HSf, ⟨by rw [hDe.out]; exact HF.out, fun e => absurd rfl e⟩, by rw [hDe.out]; exact HE2.out, HKf.out⟩
                case measure => simp [intOf] <;> omega
              · have hmany : ¬ 1 < k + 1 := by omega
                have im := im1 hk0
                clear im0 im1
                have hnum : kd = 1 ∨ kd = 4 := .inl g1
                have e1g : ((kd : Int) == 1) = true := by rw [beq_iff_eq]; omega
                have HF : Hid (bl (((S ++ wd) ++ ⟨#[32]⟩ ++ N2) ++ ⟨#[10]⟩) ++ bodyR 0 D = headT z n ++ bodyR 0 L) := by
                  show _ = _
                  rw [← HR2.out, HLn.out, if_pos hnum, if_neg hmany, ← hwd.out, ← HN2.out]
                  simp [bl, mk]
                have HSf : (((S ++ wd) ++ ⟨#[32]⟩ ++ N2) ++ ⟨#[10]⟩).size ≤ 100 + 100 * (j + 1) := by go_size
                go_wp2_with fail
                refine Calls.mono (HD2.out _) ?_
                rintro e X10 ⟨rfl, rfl⟩
                go_wp2_with fail
                go_roundw
                case rel => exact ⟨_, 0, j + 1, rfl, rfl, by go_num, by omega, by omega, HSf, ⟨by rw [hDe.out]; exact HF.out, fun e => absurd rfl e⟩, by rw [hDe.out]; exact HE2.out, HKf.out⟩
                case measure => simp [intOf] <;> omega
            by_cases g4 : kd = 4
            · by_cases hk0 : 0 < k
              · have hmany : 1 < k + 1 := by omega
                have im := im0 hk0
                clear im0 im1
                have hnum : kd = 1 ∨ kd = 4 := .inr g4
                have e1g : ((kd : Int) == 1) = false := by rw [beq_eq_false_iff_ne]; omega
                have e4g : ((kd : Int) == 4) = true := by rw [beq_iff_eq]; omega
                have HF : Hid (bl ((((S ++ wd) ++ ⟨#[32]⟩ ++ N2) ++ ⟨#[32, 120]⟩ ++ N3) ++ ⟨#[10]⟩) ++ bodyR 0 D = headT z n ++ bodyR 0 L) := by
                  show _ = _
                  rw [← HR2.out, HLn.out, if_pos hnum, if_pos hmany, ← hwd.out, ← HN2.out, ← HN3.out]
                  simp [bl, mk]
                have HSf : ((((S ++ wd) ++ ⟨#[32]⟩ ++ N2) ++ ⟨#[32, 120]⟩ ++ N3) ++ ⟨#[10]⟩).size ≤ 100 + 100 * (j + 1) := by go_size
                go_wp2_with fail
                refine Calls.mono (HD2.out _) ?_
                rintro e X10 ⟨rfl, rfl⟩
                go_wp2_with fail
                refine Calls.mono (HD3.out _) ?_
                rintro e X10 ⟨rfl, rfl⟩
                go_wp2_with fail
                go_roundw
                case rel => exact ⟨_, 0, j + 1, rfl, rfl, by go_num, by omega, by omega, HSf, ⟨by rw [hDe.out]; exact HF.out, fun e => absurd rfl e⟩, by rw [hDe.out]; exact HE2.out, HKf.out⟩
                case measure => simp [intOf] <;> omega
              · have hmany : ¬ 1 < k + 1 := by omega
                have im := im1 hk0
                clear im0 im1
                have hnum : kd = 1 ∨ kd = 4 := .inr g4
                have e1g : ((kd : Int) == 1) = false := by rw [beq_eq_false_iff_ne]; omega
                have e4g : ((kd : Int) == 4) = true := by rw [beq_iff_eq]; omega
                have HF : Hid (bl (((S ++ wd) ++ ⟨#[32]⟩ ++ N2) ++ ⟨#[10]⟩) ++ bodyR 0 D = headT z n ++ bodyR 0 L) := by
                  show _ = _
                  rw [← HR2.out, HLn.out, if_pos hnum, if_neg hmany, ← hwd.out, ← HN2.out]
                  simp [bl, mk]
                have HSf : (((S ++ wd) ++ ⟨#[32]⟩ ++ N2) ++ ⟨#[10]⟩).size ≤ 100 + 100 * (j + 1) := by go_size
                go_wp2_with fail
                refine Calls.mono (HD2.out _) ?_
                rintro e X10 ⟨rfl, rfl⟩
                go_wp2_with fail
                go_roundw
                case rel => exact ⟨_, 0, j + 1, rfl, rfl, by go_num, by omega, by omega, HSf, ⟨by rw [hDe.out]; exact HF.out, fun e => absurd rfl e⟩, by rw [hDe.out]; exact HE2.out, HKf.out⟩
                case measure => simp [intOf] <;> omega
            by_cases hk0 : 0 < k
            · have hmany : 1 < k + 1 := by omega
              have im := im0 hk0
              clear im0 im1
              have hnum : ¬ (kd = 1 ∨ kd = 4) := by omega
              have e1g : ((kd : Int) == 1) = false := by rw [beq_eq_false_iff_ne]; omega
              have e4g : ((kd : Int) == 4) = false := by rw [beq_eq_false_iff_ne]; omega
              have HF : Hid (bl (((S ++ wd) ++ ⟨#[32, 120]⟩ ++ N3) ++ ⟨#[10]⟩) ++ bodyR 0 D = headT z n ++ bodyR 0 L) := by
                show _ = _
                rw [← HR2.out, HLn.out, if_neg hnum, if_pos hmany, ← hwd.out, ← HN3.out]
                simp [bl, mk]
              have HSf : (((S ++ wd) ++ ⟨#[32, 120]⟩ ++ N3) ++ ⟨#[10]⟩).size ≤ 100 + 100 * (j + 1) := by go_size
              go_wp2_with fail
              refine Calls.mono (HD3.out _) ?_
              rintro e X10 ⟨rfl, rfl⟩
              go_wp2_with fail
              go_roundw
              case rel => exact ⟨_, 0, j + 1, rfl, rfl, by go_num, by omega, by omega, HSf, ⟨by rw [hDe.out]; exact HF.out, fun e => absurd rfl e⟩, by rw [hDe.out]; exact HE2.out, HKf.out⟩
              case measure => simp [intOf] <;> omega
            · have hmany : ¬ 1 < k + 1 := by omega
              have im := im1 hk0
              clear im0 im1
              have hnum : ¬ (kd = 1 ∨ kd = 4) := by omega
              have e1g : ((kd : Int) == 1) = false := by rw [beq_eq_false_iff_ne]; omega
              have e4g : ((kd : Int) == 4) = false := by rw [beq_eq_false_iff_ne]; omega
              have HF : Hid (bl ((S ++ wd) ++ ⟨#[10]⟩) ++ bodyR 0 D = headT z n ++ bodyR 0 L) := by
                show _ = _
                rw [← HR2.out, HLn.out, if_neg hnum, if_neg hmany, ← hwd.out]
                simp [bl, mk]
              have HSf : ((S ++ wd) ++ ⟨#[10]⟩).size ≤ 100 + 100 * (j + 1) := by go_size
              go_wp2_with fail
              go_roundw
              case rel => exact ⟨_, 0, j + 1, rfl, rfl, by go_num, by omega, by omega, HSf, ⟨by rw [hDe.out]; exact HF.out, fun e => absurd rfl e⟩, by rw [hDe.out]; exact HE2.out, HKf.out⟩
              case measure => simp [intOf] <;> omega
        · have ij1 : ¬ (j : Int) + 1 < (L.length : Int) := by omega
          have dj1 : decide ((j : Int) + 1 < (L.length : Int)) = false := decide_eq_false ij1
          have HR2 : Hid (bl S ++ (lineT (p1, p2) (k + 1) ++ (10 :: bodyR 0 D)) = headT z n ++ bodyR 0 L) := by
            have := HT.out
            rw [bodyR, if_neg (by intro e; have := HDl.out; rw [List.length_eq_zero_iff.1 (show D.length = 0 by omega)] at e; cases e)] at this; exact this
          clear HT HN HNi
          go_wp2_with fail
          go_quiet (fail)
          have HKz : Hid (Kept No W (w4.drewN nq) ∧ Kept No w4 (w4.drewN nq)) := ⟨HK4.out.1.drewN nq, (Kept.refl _ _).drewN nq⟩
          generalize w4.drewN nq = wz at HKz ⊢
          obtain ⟨d0, d1⟩ := HpC.out wz HKz.out.2
          obtain ⟨kd, hkd, hkd6, hp2, HLn⟩ := line_kd HLt.out (k + 1)
          replace hp2 : Hid _ := hp2
          have ikd : (kd : Int) < 6 := by omega
          obtain ⟨wd, hwd⟩ : ∃ wd, Hid (mk (rowsL.getD kd lineT.r0').word = wd) := ⟨_, rfl⟩
          dsimp only at hkd
          have swd : wd.size ≤ 7 := by rw [← hwd.out, mk_size]; exact words_len kd hkd6
          replace HLn : Hid _ := HLn
          rw [hkd] at d0
          rw [hkd]
          go_wp2_with fail
          refine wp_region_held_drew (S := fun X => X.cell? ⟨pb, 0, none⟩ = some (.int .i64 (kd : Int))) mixed d0 (fun hSS => ?_)
          have HKy : Hid (Kept No W wz.drew) := HKz.out.1.drew
          have HKy2 : Hid (Kept No w4 wz.drew) := HKz.out.2.drew
          generalize wz.drew = wy at HKy HKy2 hSS ⊢
          refine wpAnyH_take (i := 0) (v := .string S) rfl (by kernel_rfl) (by kernel_rfl) (by kernel_rfl) (fun _ _ _ h => h) (Or.inl ⟨by rfl, by intro w' hw; go_simp⟩) hSS ?_
          try simp only [Act.put, List.setIfInBounds_toArray, List.set_cons_zero, List.set_cons_succ, List.getElem_toArray, List.getElem_cons_zero, List.getElem_cons_succ]
          refine wpAnyH_take (i := 2) (v := .pointer (some ⟨pb, 0, none⟩)) rfl (by kernel_rfl) (by kernel_rfl) (by kernel_rfl) (fun _ _ _ h => h) (Or.inl ⟨by rfl, by intro w' hw; go_simp⟩) hSS ?_
          try simp only [Act.put, List.setIfInBounds_toArray, List.set_cons_zero, List.set_cons_succ, List.getElem_toArray, List.getElem_cons_zero, List.getElem_cons_succ]
          refine wpAnyH_take (i := 3) (v := .int .i64 kd) rfl (by kernel_rfl) (by kernel_rfl) (by kernel_rfl) (fun _ _ _ h => h) (Or.inl ⟨by rfl, by intro w' hw; have q0 := hw; go_simp⟩) hSS ?_
          try simp only [Act.put, List.setIfInBounds_toArray, List.set_cons_zero, List.set_cons_succ, List.getElem_toArray, List.getElem_cons_zero, List.getElem_cons_succ]
          refine wpAnyH_ready (rs := [1]) (by kernel_rfl) (by simp) ?_
          refine AllReadyH.cons rfl (fun K hK => ?_) AllReadyH.nil
          go_simp
          refine Calls.mono (Rwords_any wy) ?_
          rintro e X9 ⟨rfl, hX9⟩
          have HX9 : Hid (Kept No wy X9 ∧ X9.heap[wy.heap.size]? = some (.cells wordsB 9 (0, 0))) := by rw [hX9]; exact ⟨(Kept.refl _ _).alloc _, World.alloc_heap_new wy _⟩
          have hwc : X9.cell? ⟨wy.heap.size, kd, none⟩ = some (.string wd) := by rw [cell_of HX9.out.2, ← hwd.out]; exact words_at kd hkd6
          have HK9' : Hid (Kept No W X9 ∧ Kept No w4 X9) := ⟨HKy.out.trans HX9.out.1, HKy2.out.trans HX9.out.1⟩
          have d09 : X9.cell? ⟨pb, 0, none⟩ = some (.int .i64 (kd : Int)) := by rw [← hkd]; exact (HpC.out X9 HK9'.out.2).1
          clear hX9
          generalize wy.heap.size = wbk at hwc ⊢
          go_simp
          refine hK.out _ _ d09 (fun hSS => ?_)
          clear hK K
          try simp only [Act.put, List.setIfInBounds_toArray, List.set_cons_zero, List.set_cons_succ, List.getElem_toArray, List.getElem_cons_zero, List.getElem_cons_succ]
          refine wpAnyH_take (i := 4) (v := .pointer (some ⟨wbk, kd, none⟩)) rfl (by kernel_rfl) (by kernel_rfl) (by kernel_rfl) (fun _ _ _ h => h) (Or.inl ⟨by rfl, by intro w' hw; go_simp⟩) hSS ?_
          try simp only [Act.put, List.setIfInBounds_toArray, List.set_cons_zero, List.set_cons_succ, List.getElem_toArray, List.getElem_cons_zero, List.getElem_cons_succ]
          refine wpAnyH_ready (rs := [5]) (by kernel_rfl) (by simp) ?_
          refine AllReadyH.cons rfl (fun K hK => ?_) AllReadyH.nil
          go_simp
          refine hK.out _ _ d09 (fun hSS => ?_)
          clear hK K
          try simp only [Act.put, List.setIfInBounds_toArray, List.set_cons_zero, List.set_cons_succ, List.getElem_toArray, List.getElem_cons_zero, List.getElem_cons_succ]
          refine wpAnyH_take (i := 6) (v := .string (S ++ wd)) rfl (by kernel_rfl) (by kernel_rfl) (by kernel_rfl) (fun _ _ _ h => h) (Or.inl ⟨by rfl, by intro w' hw; go_simp <;> omega⟩) hSS ?_
          try simp only [Act.put, List.setIfInBounds_toArray, List.set_cons_zero, List.set_cons_succ, List.getElem_toArray, List.getElem_cons_zero, List.getElem_cons_succ]
          refine wpAnyH_take (i := 7) (v := .string (S ++ wd)) rfl (by kernel_rfl) (by kernel_rfl) (by kernel_rfl) (fun _ _ _ h => h) (Or.inl ⟨by rfl, by intro w' hw; go_simp⟩) hSS ?_
          try simp only [Act.put, List.setIfInBounds_toArray, List.set_cons_zero, List.set_cons_succ, List.getElem_toArray, List.getElem_cons_zero, List.getElem_cons_succ]
          refine wpAnyH_done (by kernel_rfl) ?_ _
          have hKf : Hid (Kept No W X9) := HK9'.out.1
          have d19 : X9.cell? ⟨pb, 1, none⟩ = some (.int .i64 p2) := (HpC.out X9 HK9'.out.2).2
          have HKf := hKf
          have im0 : 0 < k → (1 : Int) < (k : Int) + 1 := fun h => by omega
          have im1 : ¬ 0 < k → ¬ (1 : Int) < (k : Int) + 1 := fun h => by omega
          obtain ⟨N3, HN3⟩ : ∃ N3, Hid (mk (Lib.itoa ((k + 1 : Nat) : Int)) = N3) := ⟨_, rfl⟩
          have sN3 : N3.size ≤ 20 := by rw [← HN3.out, mk_size]; exact itoa_size (by omega) (by omega)
          have HD3 : Hid (∀ X, Calls Tryd.prog 32 #[.int .i64 ((k : Int) + 1)] X fun e w' => e = .returned (.string N3) ∧ X = w') := fun X => by
            rw [← HN3.out]; exact dec_any ((k + 1 : Nat) : Int) (by omega) (by omega) X
          obtain ⟨N2, HN2⟩ : ∃ N2, Hid (mk (Lib.itoa p2) = N2) := ⟨_, rfl⟩
          have sN2 : N2.size ≤ 20 := by rw [← HN2.out, mk_size]; exact itoa_size hp2.out.1 hp2.out.2
          have HD2 : Hid (∀ X, Calls Tryd.prog 32 #[.int .i64 p2] X fun e w' => e = .returned (.string N2) ∧ X = w') := fun X => by
            rw [← HN2.out]; exact dec_any p2 hp2.out.1 hp2.out.2 X
          clear hKf hwc HK9' HX9 HKy HKy2 hSS d0 d1 b0 b1 b2 b3
          by_cases g1 : kd = 1
          · by_cases hk0 : 0 < k
            · have hmany : 1 < k + 1 := by omega
              have im := im0 hk0
              clear im0 im1
              have hnum : kd = 1 ∨ kd = 4 := .inl g1
              have e1g : ((kd : Int) == 1) = true := by rw [beq_iff_eq]; omega
              have HF : Hid (bl ((((S ++ wd) ++ ⟨#[32]⟩ ++ N2) ++ ⟨#[32, 120]⟩ ++ N3) ++ ⟨#[10]⟩) ++ bodyR 0 D = headT z n ++ bodyR 0 L) := by
                show _ = _
                rw [← HR2.out, HLn.out, if_pos hnum, if_pos hmany, ← hwd.out, ← HN2.out, ← HN3.out]
                simp [bl, mk]
              have HSf : ((((S ++ wd) ++ ⟨#[32]⟩ ++ N2) ++ ⟨#[32, 120]⟩ ++ N3) ++ ⟨#[10]⟩).size ≤ 100 + 100 * (j + 1) := by go_size
              go_wp2_with fail
              refine Calls.mono (HD2.out _) ?_
              rintro e X10 ⟨rfl, rfl⟩
              go_wp2_with fail
              refine Calls.mono (HD3.out _) ?_
              rintro e X10 ⟨rfl, rfl⟩
              go_wp2_with fail
              go_roundw
              case rel => exact ⟨_, 0, j + 1, rfl, rfl, by go_num, by omega, by omega, HSf, ⟨by rw [hDe.out]; exact HF.out, fun e => absurd rfl e⟩, by rw [hDe.out]; exact HE2.out, HKf.out⟩
              case measure => simp [intOf] <;> omega
            · have hmany : ¬ 1 < k + 1 := by omega
              have im := im1 hk0
              clear im0 im1
              have hnum : kd = 1 ∨ kd = 4 := .inl g1
              have e1g : ((kd : Int) == 1) = true := by rw [beq_iff_eq]; omega
              have HF : Hid (bl (((S ++ wd) ++ ⟨#[32]⟩ ++ N2) ++ ⟨#[10]⟩) ++ bodyR 0 D = headT z n ++ bodyR 0 L) := by
                show _ = _
                rw [← HR2.out, HLn.out, if_pos hnum, if_neg hmany, ← hwd.out, ← HN2.out]
                simp [bl, mk]
              have HSf : (((S ++ wd) ++ ⟨#[32]⟩ ++ N2) ++ ⟨#[10]⟩).size ≤ 100 + 100 * (j + 1) := by go_size
              go_wp2_with fail
              refine Calls.mono (HD2.out _) ?_
              rintro e X10 ⟨rfl, rfl⟩
              go_wp2_with fail
              go_roundw
              case rel => exact ⟨_, 0, j + 1, rfl, rfl, by go_num, by omega, by omega, HSf, ⟨by rw [hDe.out]; exact HF.out, fun e => absurd rfl e⟩, by rw [hDe.out]; exact HE2.out, HKf.out⟩
              case measure => simp [intOf] <;> omega
          by_cases g4 : kd = 4
          · by_cases hk0 : 0 < k
            · have hmany : 1 < k + 1 := by omega
              have im := im0 hk0
              clear im0 im1
              have hnum : kd = 1 ∨ kd = 4 := .inr g4
              have e1g : ((kd : Int) == 1) = false := by rw [beq_eq_false_iff_ne]; omega
              have e4g : ((kd : Int) == 4) = true := by rw [beq_iff_eq]; omega
              have HF : Hid (bl ((((S ++ wd) ++ ⟨#[32]⟩ ++ N2) ++ ⟨#[32, 120]⟩ ++ N3) ++ ⟨#[10]⟩) ++ bodyR 0 D = headT z n ++ bodyR 0 L) := by
                show _ = _
                rw [← HR2.out, HLn.out, if_pos hnum, if_pos hmany, ← hwd.out, ← HN2.out, ← HN3.out]
                simp [bl, mk]
              have HSf : ((((S ++ wd) ++ ⟨#[32]⟩ ++ N2) ++ ⟨#[32, 120]⟩ ++ N3) ++ ⟨#[10]⟩).size ≤ 100 + 100 * (j + 1) := by go_size
              go_wp2_with fail
              refine Calls.mono (HD2.out _) ?_
              rintro e X10 ⟨rfl, rfl⟩
              go_wp2_with fail
              refine Calls.mono (HD3.out _) ?_
              rintro e X10 ⟨rfl, rfl⟩
              go_wp2_with fail
              go_roundw
              case rel => exact ⟨_, 0, j + 1, rfl, rfl, by go_num, by omega, by omega, HSf, ⟨by rw [hDe.out]; exact HF.out, fun e => absurd rfl e⟩, by rw [hDe.out]; exact HE2.out, HKf.out⟩
              case measure => simp [intOf] <;> omega
            · have hmany : ¬ 1 < k + 1 := by omega
              have im := im1 hk0
              clear im0 im1
              have hnum : kd = 1 ∨ kd = 4 := .inr g4
              have e1g : ((kd : Int) == 1) = false := by rw [beq_eq_false_iff_ne]; omega
              have e4g : ((kd : Int) == 4) = true := by rw [beq_iff_eq]; omega
              have HF : Hid (bl (((S ++ wd) ++ ⟨#[32]⟩ ++ N2) ++ ⟨#[10]⟩) ++ bodyR 0 D = headT z n ++ bodyR 0 L) := by
                show _ = _
                rw [← HR2.out, HLn.out, if_pos hnum, if_neg hmany, ← hwd.out, ← HN2.out]
                simp [bl, mk]
              have HSf : (((S ++ wd) ++ ⟨#[32]⟩ ++ N2) ++ ⟨#[10]⟩).size ≤ 100 + 100 * (j + 1) := by go_size
              go_wp2_with fail
              refine Calls.mono (HD2.out _) ?_
              rintro e X10 ⟨rfl, rfl⟩
              go_wp2_with fail
              go_roundw
              case rel => exact ⟨_, 0, j + 1, rfl, rfl, by go_num, by omega, by omega, HSf, ⟨by rw [hDe.out]; exact HF.out, fun e => absurd rfl e⟩, by rw [hDe.out]; exact HE2.out, HKf.out⟩
              case measure => simp [intOf] <;> omega
          by_cases hk0 : 0 < k
          · have hmany : 1 < k + 1 := by omega
            have im := im0 hk0
            clear im0 im1
            have hnum : ¬ (kd = 1 ∨ kd = 4) := by omega
            have e1g : ((kd : Int) == 1) = false := by rw [beq_eq_false_iff_ne]; omega
            have e4g : ((kd : Int) == 4) = false := by rw [beq_eq_false_iff_ne]; omega
            have HF : Hid (bl (((S ++ wd) ++ ⟨#[32, 120]⟩ ++ N3) ++ ⟨#[10]⟩) ++ bodyR 0 D = headT z n ++ bodyR 0 L) := by
              show _ = _
              rw [← HR2.out, HLn.out, if_neg hnum, if_pos hmany, ← hwd.out, ← HN3.out]
              simp [bl, mk]
            have HSf : (((S ++ wd) ++ ⟨#[32, 120]⟩ ++ N3) ++ ⟨#[10]⟩).size ≤ 100 + 100 * (j + 1) := by go_size
            go_wp2_with fail
            refine Calls.mono (HD3.out _) ?_
            rintro e X10 ⟨rfl, rfl⟩
            go_wp2_with fail
            go_roundw
            case rel => exact ⟨_, 0, j + 1, rfl, rfl, by go_num, by omega, by omega, HSf, ⟨by rw [hDe.out]; exact HF.out, fun e => absurd rfl e⟩, by rw [hDe.out]; exact HE2.out, HKf.out⟩
            case measure => simp [intOf] <;> omega
          · have hmany : ¬ 1 < k + 1 := by omega
            have im := im1 hk0
            clear im0 im1
            have hnum : ¬ (kd = 1 ∨ kd = 4) := by omega
            have e1g : ((kd : Int) == 1) = false := by rw [beq_eq_false_iff_ne]; omega
            have e4g : ((kd : Int) == 4) = false := by rw [beq_eq_false_iff_ne]; omega
            have HF : Hid (bl ((S ++ wd) ++ ⟨#[10]⟩) ++ bodyR 0 D = headT z n ++ bodyR 0 L) := by
              show _ = _
              rw [← HR2.out, HLn.out, if_neg hnum, if_neg hmany, ← hwd.out]
              simp [bl, mk]
            have HSf : ((S ++ wd) ++ ⟨#[10]⟩).size ≤ 100 + 100 * (j + 1) := by go_size
            go_wp2_with fail
            go_roundw
            case rel => exact ⟨_, 0, j + 1, rfl, rfl, by go_num, by omega, by omega, HSf, ⟨by rw [hDe.out]; exact HF.out, fun e => absurd rfl e⟩, by rw [hDe.out]; exact HE2.out, HKf.out⟩
            case measure => simp [intOf] <;> omega
    · obtain rfl : j = L.length := by omega
      have hSx : Hid (bl S = headT z n ++ bodyR 0 L) := by
        have := HJ.out.1.1
        rw [List.drop_length] at this
        show _ = _
        simpa [bodyR] using this
      have hPx : Hid ((if 8192 < src.size then .inl 3 else .inr (textF ⟨z, n, L, bl src⟩)) = P) := by
        have := HJ.out.2.1
        rw [List.drop_length] at this
        unfold tailP at this
        rw [if_neg (by simp)] at this
        rw [← bl_len]; exact this
      have HKe : Hid (Kept No w wr) := HK.out.trans HJ.out.2.2
      clear HJ HP2
      by_cases h8 : 8192 < src.size
      · have i8 : (8192 : Int) < (src.size : Int) := by omega
        have hP : P = .inl 3 := by rw [← hPx.out, if_pos h8]
        subst hP
        clear hPx
        go_wp2_with fail
        go_ret2
        exact ⟨rfl, HKe.out⟩
      · have i8 : ¬ (8192 : Int) < (src.size : Int) := by omega
        have hP : P = .inr (textF ⟨z, n, L, bl src⟩) := by rw [← hPx.out, if_neg h8]
        subst hP
        clear hPx
        obtain ⟨TX, hTX⟩ : ∃ TX, Hid (TX = mk (textF ⟨z, n, L, bl src⟩)) := ⟨_, rfl⟩
        have hcat : S ++ (⟨#[115, 111, 117, 114, 99, 101, 10]⟩ : ByteArray) ++ src = mk (textF ⟨z, n, L, bl src⟩) := by
          apply bl_inj
          rw [bl_mk]
          unfold textF
          dsimp only
          rw [← hSx.out]; simp [bl]
        go_wp2_with fail
        go_ret2
        exact ⟨by first | rfl | exact congrArg (fun s => Ending.returned (.tuple #[.string s, .int .i64 0])) hcat, HKe.out⟩
end Go.Proofs.YtbhmgmbgplkkeaaDoor
