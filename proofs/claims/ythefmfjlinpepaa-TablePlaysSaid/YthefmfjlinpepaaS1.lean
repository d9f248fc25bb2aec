/- Set's function: put of a key as it is taken. -/
import Derived.Test.YthefmfjlinpepaaP2
import Derived.Test.YthefmfjlinpepaaQ0
namespace Go.Proofs.Ythefmfjlinpepaa
open Go.RowKit Go.Shelf
set_option linter.unusedSimpArgs false
set_option linter.unusedVariables false
attribute [local go_sem] Oper.semAt_some

set_option maxRecDepth 20000 in
set_option maxHeartbeats 2000000 in
theorem Set1_any {w : World} {P : Nat} {most : Int} {a n nn : Nat} {sl : Sl} (h : Tb w P most a n nn sl) (hn : nn ≤ 999990) {Bs Bk Bv : Nat} (k1 k2 v1 v2 : Int) (hk : I64 k2)
    (b0 : w.heap[Bs]? = some (.cells #[MI P] 81 (0, 0))) (b1 : w.heap[Bk]? = some (.cells #[.int .i64 k1, .int .i64 k2] 33 (0, 0))) (b2 : w.heap[Bv]? = some (.cells #[.int .i64 v1, .int .i64 v2] 33 (0, 0))) (hv : ¬ FP w P Bs ∧ ¬ FP w P Bk ∧ ¬ FP w P Bv) :
    Calls Try.prog 47 #[.pointer (some ⟨Bs, 0, none⟩), .pointer (some ⟨Bk, 0, none⟩), .pointer (some ⟨Bv, 0, none⟩)] w fun e w' => e = .returned (.bool (putR a n sl (kyT k1 k2, kyN k1 k2) (v1, v2)).1) ∧ (∃ nn', nn' ≤ nn + 2 ∧ Tb w' P most a n nn' (putR a n sl (kyT k1 k2, kyN k1 k2) (v1, v2)).2) ∧ Own w P w' := by
  have hlt := h.lt
  have HT : Hid (Tb w P most a n nn sl) := h
  have HKy : Hid (∀ W, Calls Try.prog 44 #[AV k1 k2] W fun e w' => e = .returned (AV (kyT k1 k2) (kyN k1 k2)) ∧ Below W.heap.size W w') := fun W => Key_any k1 k2 W hk.1 hk.2
  have HPu : Hid (∀ W, Kept No w W → Calls Try.prog 48 #[MI P, AV (kyT k1 k2) (kyN k1 k2), AV v1 v2] W fun e w' => e = .returned (.bool (putR a n sl (kyT k1 k2, kyN k1 k2) (v1, v2)).1) ∧ (∃ nn', nn' ≤ nn + 2 ∧ Tb w' P most a n nn' (putR a n sl (kyT k1 k2, kyN k1 k2) (v1, v2)).2) ∧ Own w P w') :=
    fun W hW => (put_any (HT.out.no hW) hn _ _ v1 v2).mono (fun e w' hh => ⟨hh.1, hh.2.1, (Own.of_no hW hlt).trans hh.2.2⟩)
  have HB : Hid (w.heap[Bs]? = some (.cells #[MI P] 81 (0, 0)) ∧ w.heap[Bk]? = some (.cells #[.int .i64 k1, .int .i64 k2] 33 (0, 0)) ∧ w.heap[Bv]? = some (.cells #[.int .i64 v1, .int .i64 v2] 33 (0, 0))) := ⟨b0, b1, b2⟩
  have HFv : Hid (¬ FP w P Bs ∧ ¬ FP w P Bk ∧ ¬ FP w P Bv) := hv
  have HS : Hid (∀ W, Kept (FP w P) w W → W.cell? ⟨Bs, 0, none⟩ = some (MI P) ∧ W.cell? ⟨Bk, 0, none⟩ = some (.int .i64 k1) ∧ W.cell? ⟨Bk, 1, none⟩ = some (.int .i64 k2) ∧ W.cell? ⟨Bv, 0, none⟩ = some (.int .i64 v1) ∧ W.cell? ⟨Bv, 1, none⟩ = some (.int .i64 v2)) := fun W hW => by
    have p0 := hW.heap b0 hv.1
    have p1 := hW.heap b1 hv.2.1
    have p2 := hW.heap b2 hv.2.2
    refine ⟨?_, ?_, ?_, ?_, ?_⟩
    · rw [cell_of p0]; rfl
    · rw [cell_of p1]; rfl
    · rw [cell_of p1]; rfl
    · rw [cell_of p2]; rfl
    · rw [cell_of p2]; rfl
  clear h hk b0 b1 b2 hv
  generalize putR a n sl (kyT k1 k2, kyN k1 k2) (v1, v2) = r at HPu ⊢
  generalize kyT k1 k2 = y1 at HKy HPu
  generalize kyN k1 k2 = y2 at HKy HPu
  go_enter Try.func47, Try.ntmps47
  go_wp2_with fail
  have hkd : Kept No w w.drew := (Kept.refl _ _).drew
  refine wp_region_held_drew (S := fun W => W.cell? ⟨Bs, 0, none⟩ = some (MI P) ∧ W.cell? ⟨Bk, 0, none⟩ = some (.int .i64 k1) ∧ W.cell? ⟨Bk, 1, none⟩ = some (.int .i64 k2) ∧ W.cell? ⟨Bv, 0, none⟩ = some (.int .i64 v1) ∧ W.cell? ⟨Bv, 1, none⟩ = some (.int .i64 v2)) (by kernel_rfl) (HS.out _ hkd.no) (fun hS => ?_)
  generalize w.drew = W1 at hkd hS ⊢
  refine wpAnyH_take (i := 0) (v := MI P) rfl (by kernel_rfl) (by kernel_rfl) (by kernel_rfl) (fun _ _ _ h => h) (Or.inl ⟨by kernel_rfl, ?_⟩) hS ?_
  · rintro w' ⟨g0, g1, g2, g3, g4⟩; simp [go_sem, g0]
  try simp only [Act.put, List.setIfInBounds_toArray, List.set_cons_zero, List.set_cons_succ, List.getElem_toArray, List.getElem_cons_zero, List.getElem_cons_succ]
  refine wpAnyH_take (i := 1) (v := AV k1 k2) rfl (by kernel_rfl) (by kernel_rfl) (by kernel_rfl) (fun _ _ _ h => h) (Or.inl ⟨by kernel_rfl, ?_⟩) hS ?_
  · rintro w' ⟨g0, g1, g2, g3, g4⟩; simp [go_sem, g1, g2]
  try simp only [Act.put, List.setIfInBounds_toArray, List.set_cons_zero, List.set_cons_succ, List.getElem_toArray, List.getElem_cons_zero, List.getElem_cons_succ]
  refine wpAnyH_take (i := 3) (v := AV v1 v2) rfl (by kernel_rfl) (by kernel_rfl) (by kernel_rfl) (fun _ _ _ h => h) (Or.inl ⟨by kernel_rfl, ?_⟩) hS ?_
  · rintro w' ⟨g0, g1, g2, g3, g4⟩; simp [go_sem, g3, g4]
  try simp only [Act.put, List.setIfInBounds_toArray, List.set_cons_zero, List.set_cons_succ, List.getElem_toArray, List.getElem_cons_zero, List.getElem_cons_succ]
  refine wpAnyH_ready (rs := [2]) (by kernel_rfl) (by simp) ?_
  refine AllReadyH.cons rfl (fun K hK => ?_) AllReadyH.nil
  go_simp
  refine (HKy.out _).mono ?_
  rintro e W2 ⟨rfl, hb2⟩
  have hk2 : Kept No w W2 := hkd.trans (Kept.of_below hb2)
  clear hb2 hkd hS
  refine hK.out _ _ (HS.out _ hk2.no) (fun _ => ?_)
  clear hK
  try simp only [Act.put, List.setIfInBounds_toArray, List.set_cons_zero, List.set_cons_succ, List.getElem_toArray, List.getElem_cons_zero, List.getElem_cons_succ]
  refine wpAnyH_ready (rs := [4]) (by kernel_rfl) (by simp) ?_
  refine AllReadyH.cons rfl (fun K hK => ?_) AllReadyH.nil
  go_simp
  refine (HPu.out _ hk2).mono ?_
  rintro e W3 ⟨rfl, ht3, ho3⟩
  have HE : Hid ((∃ nn', nn' ≤ nn + 2 ∧ Tb W3 P most a n nn' r.2) ∧ Own w P W3) := ⟨ht3, ho3⟩
  refine hK.out _ _ (HS.out _ ho3.kp) (fun hS3 => ?_)
  clear hK ht3 ho3 hk2
  try simp only [Act.put, List.setIfInBounds_toArray, List.set_cons_zero, List.set_cons_succ, List.getElem_toArray, List.getElem_cons_zero, List.getElem_cons_succ]
  refine wpAnyH_ready (rs := [5]) (by kernel_rfl) (by simp) ?_
  refine AllReadyH.cons rfl (fun K hK => ?_) AllReadyH.nil
  go_simp
  refine hK.out _ _ hS3 (fun _ => ?_)
  clear hK
  try simp only [Act.put, List.setIfInBounds_toArray, List.set_cons_zero, List.set_cons_succ, List.getElem_toArray, List.getElem_cons_zero, List.getElem_cons_succ]
  refine wpAnyH_done (by kernel_rfl) ?_ _
  go_wp2
  go_ret
  exact ⟨rfl, HE.out⟩
end Go.Proofs.Ythefmfjlinpepaa
