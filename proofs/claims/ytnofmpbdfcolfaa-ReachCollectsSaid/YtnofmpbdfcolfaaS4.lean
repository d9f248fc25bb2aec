/- The document's Strong. -/
import Derived.Test.YtnofmpbdfcolfaaS3
import Derived.Test.YtnofmpbdfcolfaaQ0
namespace Go.Proofs.Ytnofmpbdfcolfaa
open Go.RowKit Go.Shelf
set_option linter.unusedSimpArgs false
set_option linter.unusedVariables false

/-- Which objects are needed so far, in memory. -/
structure RS (w : World) (nb : Nat) (T : List Th) (R : List V) (M : List Int) (g : Obj) (W : World) (l : List Bool) : Prop where
  kp : Kept No w W
  gx : W.heap[w.heap.size]? = some g
  bx : W.heap[nb]? = some (.cells (bc l).toArray 4 (0, 0))
  len : l.length = T.length
  snd : ∀ i, i < T.length → l.getD i true = true → Nd T R M i
theorem RS.no {w : World} {nb : Nat} {T : List Th} {R : List V} {M : List Int} {g : Obj} {W W' : World} {l : List Bool} (h : RS w nb T R M g W l) (hk : Kept No W W') : RS w nb T R M g W' l :=
  ⟨h.kp.trans hk, hk.heap h.gx id, hk.heap h.bx id, h.len, h.snd⟩
theorem RS.cell {w : World} {nb : Nat} {T : List Th} {R : List V} {M : List Int} {g : Obj} {W : World} {l : List Bool} (h : RS w nb T R M g W l) {m : Nat} (hm : m < T.length) : W.cell? ⟨nb, m, none⟩ = some (.bool (l.getD m true)) ∧ W.frozen? ⟨nb, m, none⟩ = false :=
  ⟨by rw [cell_of h.bx]; exact bc_get l m (by rw [h.len]; exact hm), frozen_of h.bx _⟩
theorem RS.set {w : World} {nb : Nat} {T : List Th} {R : List V} {M : List Int} {g : Obj} {W : World} {l : List Bool} (h : RS w nb T R M g W l) (hnb : w.heap.size < nb) {m : Nat} (hN : Nd T R M m) (hm : m < T.length) : RS w nb T R M g (W.setCell ⟨nb, m, none⟩ (.bool true)) (l.set m true) := by
  refine ⟨h.kp.set _ _ _ (.inr (by omega)), hp_set_other h.gx _ _ (by omega), ?_, by rw [List.length_set]; exact h.len, fun i hi hl => ?_⟩
  · rw [hp_set_same h.bx, bc_set]
  · rw [getD_setB l m i (by rw [h.len]; exact hm)] at hl
    by_cases e : m = i
    · rw [← e]; exact hN
    · rw [if_neg e] at hl; exact h.snd i hi hl

/-- Roots and handles are needed. -/
def Bs (T : List Th) (R : List V) (M : List Int) (l : List Bool) : Prop := (∀ v ∈ R, obj T v = true → l.getD (ix v) true = true) ∧ ∀ x ∈ M, 1 ≤ x → x ≤ (T.length : Int) → l.getD (x.toNat - 1) true = true
theorem getD_setT (l : List Bool) (m i : Nat) (h : l.getD i true = true) : (l.set m true).getD i true = true := by
  by_cases hm : m < l.length
  · rw [getD_setB l m i hm]; split
    · rfl
    · exact h
  · rw [List.set_eq_of_length_le (Nat.le_of_not_lt hm)]; exact h
theorem Bs.set {T : List Th} {R : List V} {M : List Int} {l : List Bool} {m : Nat} (h : Bs T R M l) : Bs T R M (l.set m true) :=
  ⟨fun v hv ho => getD_setT _ _ _ (h.1 v hv ho), fun x hx h1 h2 => getD_setT _ _ _ (h.2 x hx h1 h2)⟩
def isFv : Value → Bool
  | .bool b => !b
  | _ => false
/-- How many are not needed so far. -/
def cF (W : World) (nb : Nat) : Nat := match W.heap[nb]? with
  | some (.cells c _ _) => c.toList.countP isFv
  | _ => 0
def agN : Value → Nat
  | .bool true => 1
  | _ => 0
theorem cF_eq {W : World} {nb : Nat} {l : List Bool} (h : W.heap[nb]? = some (.cells (bc l).toArray 4 (0, 0))) : cF W nb = l.count false := by
  unfold cF
  rw [h]
  show List.countP isFv (bc l) = _
  unfold bc
  rw [List.countP_map, List.count]
  congr 1
  funext b
  cases b <;> rfl

set_option maxRecDepth 20000 in
set_option maxHeartbeats 8000000 in
theorem RStrong_any {w : World} {ao ro ma : Option Addr} {cap rc mc : Nat} {T : List Th} {R : List V} {M : List Int} (hT : RdT w (.slice ao T.length cap) T) (hR : RdV w (.slice ro R.length rc) R) (hM : RdI w (.slice ma M.length mc) M) (hn : T.length ≤ 100) (hs : ∀ t ∈ T, t.sl.length ≤ 1000) (hRn : R.length ≤ 1000000) (hMn : M.length ≤ 1000000) :
    Calls Try.prog 14 #[AG ao T.length cap ro R.length rc, .slice ma M.length mc] w fun e w' => ∃ nb, e = .returned (SLN nb T.length) ∧ w'.heap[nb]? = some (.cells (bc (strong T R M)).toArray 4 (0, 0)) ∧ w.heap.size ≤ nb ∧ Kept No w w' := by
  have HT : Hid (RdT w (.slice ao T.length cap) T) := hT
  have HSl : Hid (∀ t ∈ T, t.sl.length ≤ 1000) := hs
  have HG : Hid (∀ X : World, Kept No w X → X.heap[w.heap.size]? = some (.cells #[.slice ao T.length cap, .slice ro R.length rc] 25 (0, 0)) → X.cell? ⟨w.heap.size, 0, none⟩ = some (.slice ao T.length cap) ∧ X.cell? ⟨w.heap.size, 1, none⟩ = some (.slice ro R.length rc)) := fun X _ h => ⟨by rw [cell_of h]; rfl, by rw [cell_of h]; rfl⟩
  have HRr : Hid (∀ j (hj : j < R.length), ∃ b off, ro = some ⟨b, off, none⟩ ∧ ∀ W, Kept No w W → W.cell? ⟨b, off + j * 2, none⟩ = some (.int .i64 R[j].1) ∧ W.cell? ⟨b, off + j * 2 + 1, none⟩ = some (.int .i64 R[j].2)) := fun j hj => by
    obtain ⟨ao', cap', e, h⟩ := hR
    injection e with e1 e2 e3
    subst e1
    obtain ⟨b, off, e2, h1, h2⟩ := h j hj
    exact ⟨b, off, e2, fun W hW => ⟨by rw [cell_al hW h1]; exact h1, by rw [cell_al hW h2]; exact h2⟩⟩
  have HMm : Hid (∀ j (hj : j < M.length), ∃ b off, ma = some ⟨b, off, none⟩ ∧ ∀ W, Kept No w W → W.cell? ⟨b, off + j, none⟩ = some (.int .i64 M[j])) := fun j hj => by
    obtain ⟨ao', cap', e, h⟩ := hM
    injection e with e1 e2 e3
    subst e1
    obtain ⟨b, off, e2, h1⟩ := h j hj
    exact ⟨b, off, e2, fun W hW => by rw [cell_al hW h1]; exact h1⟩
  have HTh : Hid (∀ h (hh : h < T.length), ∃ b off sa sc', ao = some ⟨b, off, none⟩ ∧ ∀ X, Kept No w X → (X.cell? ⟨b, off + h * 5, none⟩ = some (.int .i64 T[h].kind) ∧ X.cell? ⟨b, off + h * 5 + 1, none⟩ = some (.int .i64 T[h].weak) ∧ X.cell? ⟨b, off + h * 5 + 2, none⟩ = some (.int .i64 T[h].arr) ∧ X.cell? ⟨b, off + h * 5 + 3, none⟩ = some (.slice sa T[h].sl.length sc') ∧ X.cell? ⟨b, off + h * 5 + 4, none⟩ = some (.int .i64 T[h].fin)) ∧ RdV X (.slice sa T[h].sl.length sc') T[h].sl) := fun h hh => by
    obtain ⟨ao', cap', e, hq⟩ := hT
    injection e with e1 e2 e3
    subst e1
    obtain ⟨b, off, sv, e2, h1, h2, h3, h4, h5, h6⟩ := hq h hh
    obtain ⟨sa, sc', rfl, h7⟩ := h6
    exact ⟨b, off, sa, sc', e2, fun X hX => ⟨⟨by rw [cell_al hX h1]; exact h1, by rw [cell_al hX h2]; exact h2, by rw [cell_al hX h3]; exact h3, by rw [cell_al hX h4]; exact h4, by rw [cell_al hX h5]; exact h5⟩, RdV.no ⟨sa, sc', rfl, h7⟩ hX⟩⟩
  have hmN : ∀ w : World, (Instr.makeSlice 30 (.int .i64 (T.length : Int)) (.int .i64 (T.length : Int))).run Try.prog w = .ok (SLN w.heap.size T.length) (w.alloc (mkN T.length)) := run_mk30 _ (by omega)
  obtain ⟨W, HWd⟩ : ∃ W, Hid (W = (w.alloc (.cells #[.slice ao T.length cap, .slice ro R.length rc] 25 (0, 0))).alloc (mkN T.length)) := ⟨_, rfl⟩
  have HR0 : Hid (RS w (w.heap.size + 1) T R M (.cells #[.slice ao T.length cap, .slice ro R.length rc] 25 (0, 0)) W (List.replicate T.length false)) := by
    show RS _ _ _ _ _ _ _ _
    rw [HWd.out]
    refine ⟨((Kept.refl _ _).alloc _).alloc _, (Below.heap_alloc _ _ _ (by simp)).trans (World.alloc_heap_new w _), ?_, by simp, fun i hi h => ?_⟩
    · have := World.alloc_heap_new (w.alloc (.cells #[.slice ao T.length cap, .slice ro R.length rc] 25 (0, 0))) (mkN T.length)
      rw [World.size_alloc] at this
      exact this
    · simp [List.getD, hi] at h
  clear hT hs hR hM
  go_enter Try.func14, Try.ntmps14
  go_wp2_with (first | rw [← HWd.out])
  obtain ⟨nb, hnb⟩ : ∃ nb, w.heap.size + 1 = nb := ⟨_, rfl⟩
  have HNb : Hid (w.heap.size < nb) := by show _ < _; omega
  rw [hnb] at HR0 ⊢
  clear hnb hmN HWd
  obtain ⟨g, hg⟩ : ∃ g : Obj, (.cells #[.slice ao T.length cap, .slice ro R.length rc] 25 (0, 0)) = g := ⟨_, rfl⟩
  rw [hg] at HR0 HG
  clear hg
  go_loopw [6, 17, 18, 19, 20, 21, 22, 23, 24, 25, 26, 27, 28, 29, 30, 31, 32, 33, 34, 35, 36, 37, 38, 39, 40, 41] (fun i _ _ _ _ _ _ _ _ _ _ _ _ _ _ _ _ _ _ _ _ _ _ _ _ _ wr => ∃ j : Nat, j ≤ R.length ∧ i = .int .i64 j ∧ Hid (∃ l, RS w nb T R M g wr l ∧ ∀ v ∈ R.take j, obj T v = true → l.getD (ix v) true = true)) (fun i _ _ _ _ _ _ _ _ _ _ _ _ _ _ _ _ _ _ _ _ _ _ _ _ _ _ => R.length - (intOf i).toNat)
  case atStart => exact ⟨0, by omega, rfl, _, HR0.out, by simp⟩
  case round =>
    obtain ⟨j, hj, rfl, HJ⟩ := hrel
    obtain ⟨l, hrs, hbs⟩ := HJ.out
    have HRs : Hid (RS w nb T R M g wr l) := hrs
    have HBs : Hid (∀ v ∈ R.take j, obj T v = true → l.getD (ix v) true = true) := hbs
    clear hrs hbs HJ
    have g1 := (HG.out wr HRs.out.kp HRs.out.gx).2
    by_cases hlt : j < R.length
    · have k1 : (j : Int) < (R.length : Int) := by omega
      obtain ⟨b, off, hro, hv⟩ := HRr.out j hlt
      have HTk : Hid (∀ v ∈ R.take (j + 1), v ∈ R.take j ∨ v = R[j]) := fun v hv => by
        rw [List.take_succ_eq_append_getElem hlt] at hv
        rcases List.mem_append.1 hv with h | h
        · exact .inl h
        · exact .inr (by simpa using h)
      have HMem : Hid (R[j] ∈ R) := List.getElem_mem hlt
      generalize R[j] = v at hv HTk HMem
      obtain ⟨v1, v2⟩ := v
      dsimp only at hv
      have HC : Hid (∀ X, Kept No w X → X.heap[w.heap.size]? = some g → (X.cell? ⟨w.heap.size, 0, none⟩ = some (.slice ao T.length cap) ∧ X.cell? ⟨w.heap.size, 1, none⟩ = some (.slice (some ⟨b, off, none⟩) R.length rc)) ∧ X.cell? ⟨b, off + j * 2, none⟩ = some (.int .i64 v1) ∧ X.cell? ⟨b, off + j * 2 + 1, none⟩ = some (.int .i64 v2)) := fun X h1 h2 => ⟨⟨(HG.out X h1 h2).1, by rw [(HG.out X h1 h2).2, hro]⟩, hv X h1⟩
      have HOb : Hid (∀ X, Kept No w X → Calls Try.prog 21 #[AG ao T.length cap (some ⟨b, off, none⟩) R.length rc, AV (v1, v2)] X fun e w' => e = .returned (.int .i64 (objN T (v1, v2))) ∧ Kept No X w') := fun X hX => RObject_any (HT.out.no hX) (by omega) (v1, v2)
      rw [hro] at g1
      clear hv hro
      go_wp2_with fail
      refine region_quiet_class (C := fun w' => Kept No wr w') mixed (by kernel_rfl) (Kept.refl _ _).drew ?_
      have HCw : Hid (∀ X, Kept No wr X → (X.cell? ⟨w.heap.size, 0, none⟩ = some (.slice ao T.length cap) ∧ X.cell? ⟨w.heap.size, 1, none⟩ = some (.slice (some ⟨b, off, none⟩) R.length rc)) ∧ X.cell? ⟨b, off + j * 2, none⟩ = some (.int .i64 v1) ∧ X.cell? ⟨b, off + j * 2 + 1, none⟩ = some (.int .i64 v2)) := fun X hX => HC.out X (HRs.out.kp.trans hX) (hX.heap HRs.out.gx id)
      refine q_op (AG ao T.length cap (some ⟨b, off, none⟩) R.length rc) (by kernel_rfl) (fun W1 hW1 => by obtain ⟨⟨a0, a1⟩, a2, a3⟩ := HCw.out W1 hW1; simp [go_sem, a0, a1]) ?_
      try simp only [Act.put, List.setIfInBounds_toArray, List.set_cons_zero, List.set_cons_succ, List.getElem_toArray, List.getElem_cons_zero, List.getElem_cons_succ]
      refine q_op (.pointer (some ⟨w.heap.size, 1, none⟩)) (by kernel_rfl) (fun W1 hW1 => by simp [go_sem]) ?_
      try simp only [Act.put, List.setIfInBounds_toArray, List.set_cons_zero, List.set_cons_succ, List.getElem_toArray, List.getElem_cons_zero, List.getElem_cons_succ]
      refine q_op (.slice (some ⟨b, off, none⟩) R.length rc) (by kernel_rfl) (fun W1 hW1 => by obtain ⟨⟨a0, a1⟩, a2, a3⟩ := HCw.out W1 hW1; simp [go_sem, a1]) ?_
      try simp only [Act.put, List.setIfInBounds_toArray, List.set_cons_zero, List.set_cons_succ, List.getElem_toArray, List.getElem_cons_zero, List.getElem_cons_succ]
      refine q_op (.int .i64 j) (by kernel_rfl) (fun W1 hW1 => by simp [go_sem]) ?_
      try simp only [Act.put, List.setIfInBounds_toArray, List.set_cons_zero, List.set_cons_succ, List.getElem_toArray, List.getElem_cons_zero, List.getElem_cons_succ]
      refine q_op (.pointer (some ⟨b, off + j * 2, none⟩)) (by kernel_rfl) (fun W1 hW1 => by simp [go_sem, k1]) ?_
      try simp only [Act.put, List.setIfInBounds_toArray, List.set_cons_zero, List.set_cons_succ, List.getElem_toArray, List.getElem_cons_zero, List.getElem_cons_succ]
      refine q_op (AV (v1, v2)) (by kernel_rfl) (fun W1 hW1 => by obtain ⟨⟨a0, a1⟩, a2, a3⟩ := HCw.out W1 hW1; simp [go_sem, a2, a3]) ?_
      try simp only [Act.put, List.setIfInBounds_toArray, List.set_cons_zero, List.set_cons_succ, List.getElem_toArray, List.getElem_cons_zero, List.getElem_cons_succ]
      refine q_call 21 #[AG ao T.length cap (some ⟨b, off, none⟩) R.length rc, AV (v1, v2)] (.int .i64 (objN T (v1, v2))) (by kernel_rfl) (fun W1 hW1 => by simp [go_sem]) (fun W1 hW1 => (HOb.out W1 (HRs.out.kp.trans hW1)).mono (fun e w' ⟨h1, h2⟩ => ⟨h1, hW1.trans h2⟩)) ?_
      try simp only [Act.put, List.setIfInBounds_toArray, List.set_cons_zero, List.set_cons_succ, List.getElem_toArray, List.getElem_cons_zero, List.getElem_cons_succ]
      refine q_op (.bool (decide (0 < objN T (v1, v2)))) (by kernel_rfl) (fun W1 hW1 => by simp [go_sem]) ?_
      try simp only [Act.put, List.setIfInBounds_toArray, List.set_cons_zero, List.set_cons_succ, List.getElem_toArray, List.getElem_cons_zero, List.getElem_cons_succ]
      refine wpQuiet_nil ?_
      intro X3 hX3
      have HRs3 : Hid (RS w nb T R M g X3 l) := HRs.out.no hX3
      clear hX3 HCw HRs
      have hop := objN_pos (T := T) (v := (v1, v2))
      cases hob : obj T (v1, v2) with
      | false =>
        rw [hob] at hop
        have HBn : Hid (∀ v ∈ R.take (j + 1), obj T v = true → l.getD (ix v) true = true) := fun v hv ho => by
          rcases HTk.out v hv with h | h
          · exact HBs.out v h ho
          · rw [h, hob] at ho; cases ho
        clear HTk HBs hob
        rw [hop]
        go_wp2_with fail
        go_roundw
        case rel => exact ⟨j + 1, by omega, by go_num, l, HRs3.out, HBn.out⟩
        case measure => simp [intOf]; omega
      | true =>
        rw [hob] at hop
        have hoi := obj_ix hob
        have hoN : objN T (v1, v2) = v2 := by unfold objN; rw [if_pos hob]
        rw [hoN] at hop HOb ⊢
        rw [hop]
        clear hop
        have hixd : ix (v1, v2) = v2.toNat - 1 := rfl
        rw [hixd] at hoi
        dsimp only at hoi
        obtain ⟨o1, o2, o3⟩ := hoi
        obtain ⟨m, rfl⟩ : ∃ m : Nat, v2 = (m : Int) + 1 := ⟨(v2 - 1).toNat, by omega⟩
        have em : ((m : Int) + 1).toNat - 1 = m := by omega
        rw [em] at o1
        have hm' : (m : Int) < (T.length : Int) := by omega
        have e1 : (m : Int) + 1 - 1 = (m : Int) := by omega
        have HNm : Hid (Nd T R M m) := by have := Nd.root (M := M) _ HMem.out hob; rw [hixd, em] at this; exact this
        have HBn : Hid (∀ v ∈ R.take (j + 1), obj T v = true → (l.set m true).getD (ix v) true = true) := fun v hv ho => by
          rw [getD_setB l m _ (by rw [HRs3.out.len]; omega)]
          split
          · rfl
          · rename_i hne
            rcases HTk.out v hv with h | h
            · exact HBs.out v h ho
            · rw [h, hixd, em] at hne; exact absurd rfl hne
        clear HTk HBs hob hoN hixd o1 o2 o3
        go_wp2_with fail
        refine wp_region_held_drew (S := fun X => Kept No w X ∧ X.heap[w.heap.size]? = some g) mixed ⟨HRs3.out.kp.drew, HRs3.out.gx⟩ (fun hSS => ?_)
        have HRd : Hid (RS w nb T R M g X3.drew l) := HRs3.out.no ((Kept.refl No _).drew)
        clear HRs3
        generalize X3.drew = X4 at hSS HRd ⊢
        refine wpAnyH_take (i := 0) (v := SLN nb T.length) rfl (by kernel_rfl) (by kernel_rfl) (by kernel_rfl) (fun _ _ _ h => h) (Or.inl ⟨by rfl, by intro w' hw; go_simp⟩) hSS ?_
        try simp only [Act.put, List.setIfInBounds_toArray, List.set_cons_zero, List.set_cons_succ, List.getElem_toArray, List.getElem_cons_zero, List.getElem_cons_succ]
        refine wpAnyH_take (i := 1) (v := AG ao T.length cap (some ⟨b, off, none⟩) R.length rc) rfl (by kernel_rfl) (by kernel_rfl) (by kernel_rfl) (fun _ _ _ h => h) (Or.inl ⟨by rfl, by intro w' hw; obtain ⟨⟨a0, a1⟩, a2, a3⟩ := HC.out w' hw.1 hw.2; go_simp⟩) hSS ?_
        try simp only [Act.put, List.setIfInBounds_toArray, List.set_cons_zero, List.set_cons_succ, List.getElem_toArray, List.getElem_cons_zero, List.getElem_cons_succ]
        refine wpAnyH_take (i := 2) (v := .pointer (some ⟨w.heap.size, 1, none⟩)) rfl (by kernel_rfl) (by kernel_rfl) (by kernel_rfl) (fun _ _ _ h => h) (Or.inl ⟨by rfl, by intro w' hw; go_simp⟩) hSS ?_
        try simp only [Act.put, List.setIfInBounds_toArray, List.set_cons_zero, List.set_cons_succ, List.getElem_toArray, List.getElem_cons_zero, List.getElem_cons_succ]
        refine wpAnyH_take (i := 3) (v := .slice (some ⟨b, off, none⟩) R.length rc) rfl (by kernel_rfl) (by kernel_rfl) (by kernel_rfl) (fun _ _ _ h => h) (Or.inl ⟨by rfl, by intro w' hw; obtain ⟨⟨a0, a1⟩, a2, a3⟩ := HC.out w' hw.1 hw.2; go_simp⟩) hSS ?_
        try simp only [Act.put, List.setIfInBounds_toArray, List.set_cons_zero, List.set_cons_succ, List.getElem_toArray, List.getElem_cons_zero, List.getElem_cons_succ]
        refine wpAnyH_take (i := 4) (v := .int .i64 j) rfl (by kernel_rfl) (by kernel_rfl) (by kernel_rfl) (fun _ _ _ h => h) (Or.inl ⟨by rfl, by intro w' hw; go_simp⟩) hSS ?_
        try simp only [Act.put, List.setIfInBounds_toArray, List.set_cons_zero, List.set_cons_succ, List.getElem_toArray, List.getElem_cons_zero, List.getElem_cons_succ]
        refine wpAnyH_take (i := 5) (v := .pointer (some ⟨b, off + j * 2, none⟩)) rfl (by kernel_rfl) (by kernel_rfl) (by kernel_rfl) (fun _ _ _ h => h) (Or.inl ⟨by rfl, by intro w' hw; go_simp⟩) hSS ?_
        try simp only [Act.put, List.setIfInBounds_toArray, List.set_cons_zero, List.set_cons_succ, List.getElem_toArray, List.getElem_cons_zero, List.getElem_cons_succ]
        refine wpAnyH_take (i := 6) (v := AV (v1, (m : Int) + 1)) rfl (by kernel_rfl) (by kernel_rfl) (by kernel_rfl) (fun _ _ _ h => h) (Or.inl ⟨by rfl, by intro w' hw; obtain ⟨⟨a0, a1⟩, a2, a3⟩ := HC.out w' hw.1 hw.2; go_simp⟩) hSS ?_
        try simp only [Act.put, List.setIfInBounds_toArray, List.set_cons_zero, List.set_cons_succ, List.getElem_toArray, List.getElem_cons_zero, List.getElem_cons_succ]
        refine wpAnyH_ready (rs := [7]) (by kernel_rfl) (by simp) ?_
        refine AllReadyH.cons rfl (fun K hK => ?_) AllReadyH.nil
        go_simp
        refine Calls.mono (HOb.out X4 HRd.out.kp) ?_
        rintro e X5 ⟨rfl, hk5⟩
        have HR5 : Hid (RS w nb T R M g X5 l) := HRd.out.no hk5
        refine hK.out _ _ ⟨HR5.out.kp, HR5.out.gx⟩ (fun hSS => ?_)
        clear hK K hk5 HRd
        try simp only [Act.put, List.setIfInBounds_toArray, List.set_cons_zero, List.set_cons_succ, List.getElem_toArray, List.getElem_cons_zero, List.getElem_cons_succ]
        refine wpAnyH_take (i := 8) (v := .int .i64 m) rfl (by kernel_rfl) (by kernel_rfl) (by kernel_rfl) (fun _ _ _ h => h) (Or.inl ⟨by rfl, by intro w' hw; go_simp; rw [IntKind.wrap_i64]; omega⟩) hSS ?_
        try simp only [Act.put, List.setIfInBounds_toArray, List.set_cons_zero, List.set_cons_succ, List.getElem_toArray, List.getElem_cons_zero, List.getElem_cons_succ]
        refine wpAnyH_take (i := 9) (v := .pointer (some ⟨nb, m, none⟩)) rfl (by kernel_rfl) (by kernel_rfl) (by kernel_rfl) (fun _ _ _ h => h) (Or.inl ⟨by rfl, by intro w' hw; go_simp⟩) hSS ?_
        try simp only [Act.put, List.setIfInBounds_toArray, List.set_cons_zero, List.set_cons_succ, List.getElem_toArray, List.getElem_cons_zero, List.getElem_cons_succ]
        obtain ⟨c5, z5⟩ := HR5.out.cell (show m < T.length by omega)
        refine wpAnyH_ready (rs := [10]) (by kernel_rfl) (by simp) ?_
        refine AllReadyH.cons rfl (fun K hK => ?_) AllReadyH.nil
        go_simp
        have HR6 : Hid (RS w nb T R M g (X5.setCell ⟨nb, m, none⟩ (.bool true)) (l.set m true)) := HR5.out.set HNb.out HNm.out (by omega)
        refine hK.out _ _ ⟨HR6.out.kp, HR6.out.gx⟩ (fun hSS => ?_)
        clear hK K hSS c5 z5 HR5
        generalize X5.setCell ⟨nb, m, none⟩ (.bool true) = X6 at HR6 ⊢
        try simp only [Act.put, List.setIfInBounds_toArray, List.set_cons_zero, List.set_cons_succ, List.getElem_toArray, List.getElem_cons_zero, List.getElem_cons_succ]
        refine wpAnyH_done (by kernel_rfl) ?_ _
        go_wp2_with fail
        go_roundw
        case rel => exact ⟨j + 1, by omega, by go_num, _, HR6.out, HBn.out⟩
        case measure => simp [intOf]; omega
    · have k1 : ¬ (j : Int) < (R.length : Int) := by omega
      obtain rfl : j = R.length := by omega
      rw [List.take_length] at HBs
      obtain ⟨Xa, hXa⟩ : ∃ Xa, Xa = wr := ⟨_, rfl⟩
      subst hXa
      go_wp2_with fail
      clear g1
      go_loopw [7, 42, 43, 44, 45, 46, 47, 48, 49, 50, 51, 52, 53, 54, 55, 56, 57, 58, 59, 60, 61, 62, 63, 64, 65, 66, 67, 68, 69] (fun i _ _ _ _ _ _ _ _ _ _ _ _ _ _ _ _ _ _ _ _ _ _ _ _ _ _ _ _ wr => ∃ j : Nat, j ≤ M.length ∧ i = .int .i64 j ∧ Hid (∃ l, RS w nb T R M g wr l ∧ (∀ v ∈ R, obj T v = true → l.getD (ix v) true = true) ∧ ∀ x ∈ M.take j, 1 ≤ x → x ≤ (T.length : Int) → l.getD (x.toNat - 1) true = true)) (fun i _ _ _ _ _ _ _ _ _ _ _ _ _ _ _ _ _ _ _ _ _ _ _ _ _ _ _ _ _ => M.length - (intOf i).toNat)
      case atStart => exact ⟨0, by omega, rfl, _, HRs.out, HBs.out, by simp⟩
      case round =>
        clear HRs HBs
        obtain ⟨j, hj, rfl, HJ⟩ := hrel
        obtain ⟨l, hrs, hbs, hms⟩ := HJ.out
        have HRs : Hid (RS w nb T R M g wr l) := hrs
        have HBs : Hid (∀ v ∈ R, obj T v = true → l.getD (ix v) true = true) := hbs
        have HMs : Hid (∀ x ∈ M.take j, 1 ≤ x → x ≤ (T.length : Int) → l.getD (x.toNat - 1) true = true) := hms
        clear hrs hbs hms HJ
        by_cases hlt : j < M.length
        · have k2 : (j : Int) < (M.length : Int) := by omega
          obtain ⟨b, off, rfl, hv⟩ := HMm.out j hlt
          have HTk : Hid (∀ v ∈ M.take (j + 1), v ∈ M.take j ∨ v = M[j]) := fun v hv => by
            rw [List.take_succ_eq_append_getElem hlt] at hv
            rcases List.mem_append.1 hv with h | h
            · exact .inl h
            · exact .inr (by simpa using h)
          have HMem : Hid (M[j] ∈ M) := List.getElem_mem hlt
          generalize M[j] = x at hv HTk HMem
          have x0 := hv wr HRs.out.kp
          have g0 := (HG.out wr HRs.out.kp HRs.out.gx).1
          by_cases h1 : 1 ≤ x
          · by_cases h2 : x ≤ (T.length : Int)
            · have d1 : decide (1 ≤ x) = true := by simpa using h1
              have d2 : decide (x ≤ (T.length : Int)) = true := by simpa using h2
              obtain ⟨m, rfl⟩ : ∃ m : Nat, x = (m : Int) + 1 := ⟨(x - 1).toNat, by omega⟩
              have em : ((m : Int) + 1).toNat - 1 = m := by omega
              have hm' : (m : Int) < (T.length : Int) := by omega
              have e1 : (m : Int) + 1 - 1 = (m : Int) := by omega
              have HNm : Hid (Nd T R M m) := by have := Nd.more (T := T) (R := R) _ HMem.out h1 h2; rw [em] at this; exact this
              have HBn : Hid (∀ v ∈ R, obj T v = true → (l.set m true).getD (ix v) true = true) := fun v hv ho => by
                rw [getD_setB l m _ (by rw [HRs.out.len]; omega)]
                split
                · rfl
                · exact HBs.out v hv ho
              have HMn : Hid (∀ x ∈ M.take (j + 1), 1 ≤ x → x ≤ (T.length : Int) → (l.set m true).getD (x.toNat - 1) true = true) := fun v hv a1 a2 => by
                rw [getD_setB l m _ (by rw [HRs.out.len]; omega)]
                split
                · rfl
                · rename_i hne
                  rcases HTk.out v hv with h | h
                  · exact HMs.out v h a1 a2
                  · rw [h, em] at hne; exact absurd rfl hne
              clear HTk HBs HMs
              go_wp2_with fail
              go_quiet (fail)
              have HR4 : Hid (RS w nb T R M g (wr.drewN nq) l) := HRs.out.no ((Kept.refl No _).drewN nq)
              have x0' := hv _ HR4.out.kp
              clear HRs x0 g0 hv d1 d2
              generalize wr.drewN nq = X5 at HR4 x0' ⊢
              obtain ⟨c5, z5⟩ := HR4.out.cell (show m < T.length by omega)
              have HR6 : Hid (RS w nb T R M g (X5.setCell ⟨nb, m, none⟩ (.bool true)) (l.set m true)) := HR4.out.set HNb.out HNm.out (by omega)
              go_wp2_with fail
              go_roundw
              case rel => exact ⟨j + 1, by omega, by go_num, _, HR6.out, HBn.out, HMn.out⟩
              case measure => simp [intOf]; omega
            · have d1 : decide (1 ≤ x) = true := by simpa using h1
              have d2 : decide (x ≤ (T.length : Int)) = false := by simpa using h2
              have HMn : Hid (∀ x ∈ M.take (j + 1), 1 ≤ x → x ≤ (T.length : Int) → l.getD (x.toNat - 1) true = true) := fun v hv a1 a2 => by
                rcases HTk.out v hv with h | h
                · exact HMs.out v h a1 a2
                · rw [h] at a2; exact absurd a2 h2
              clear HTk HMs hv
              go_wp2_with fail
              go_quiet (fail)
              have HR4 : Hid (RS w nb T R M g (wr.drewN nq) l) := HRs.out.no ((Kept.refl No _).drewN nq)
              clear HRs x0 g0 d1 d2
              generalize wr.drewN nq = X5 at HR4 ⊢
              go_wp2_with fail
              go_roundw
              case rel => exact ⟨j + 1, by omega, by go_num, _, HR4.out, HBs.out, HMn.out⟩
              case measure => simp [intOf]; omega
          · have d1 : decide (1 ≤ x) = false := by simpa using h1
            have HMn : Hid (∀ x ∈ M.take (j + 1), 1 ≤ x → x ≤ (T.length : Int) → l.getD (x.toNat - 1) true = true) := fun v hv a1 a2 => by
              rcases HTk.out v hv with h | h
              · exact HMs.out v h a1 a2
              · rw [h] at a1; exact absurd a1 h1
            clear HTk HMs hv
            go_wp2_with fail
            go_quiet (fail)
            have HR4 : Hid (RS w nb T R M g (wr.drewN nq) l) := HRs.out.no ((Kept.refl No _).drewN nq)
            clear HRs x0 g0 d1
            generalize wr.drewN nq = X5 at HR4 ⊢
            go_wp2_with fail
            go_roundw
            case rel => exact ⟨j + 1, by omega, by go_num, _, HR4.out, HBs.out, HMn.out⟩
            case measure => simp [intOf]; omega
        · have k2 : ¬ (j : Int) < (M.length : Int) := by omega
          obtain rfl : j = M.length := by omega
          rw [List.take_length] at HMs
          obtain ⟨Xb, hXb⟩ : ∃ Xb, Xb = wr := ⟨_, rfl⟩
          subst hXb
          go_wp2_with fail
          go_loopw [8, 9, 10, 11, 12, 70, 71, 72, 73, 74, 75, 76, 77, 78, 79, 80, 81, 82, 83, 84, 85, 86, 87, 88, 89, 90, 91, 92, 93, 94, 95, 96, 97, 98, 99, 100, 101, 102, 103, 104, 105, 106, 107, 108, 109, 110, 111, 112, 113, 114, 115, 116, 117, 118, 119, 120, 121, 122, 123] (fun ag _ _ _ _ _ _ _ _ _ _ _ _ _ _ _ _ _ _ _ _ _ _ _ _ _ _ _ _ _ _ _ _ _ _ _ _ _ _ _ _ _ _ _ _ _ _ _ _ _ _ _ _ _ _ _ _ _ _ wr => ∃ agb : Bool, ag = .bool agb ∧ Hid (∃ l, RS w nb T R M g wr l ∧ Bs T R M l ∧ (agb = false → ∀ h, h < T.length → ∀ i, ClAt T l h i))) (fun ag _ _ _ _ _ _ _ _ _ _ _ _ _ _ _ _ _ _ _ _ _ _ _ _ _ _ _ _ _ _ _ _ _ _ _ _ _ _ _ _ _ _ _ _ _ _ _ _ _ _ _ _ _ _ _ _ _ _ wr => cF wr nb + agN ag)
          case atStart => exact ⟨true, rfl, _, HRs.out, ⟨HBs.out, HMs.out⟩, fun e => by cases e⟩
          case round =>
            clear HRs HBs HMs
            obtain ⟨agb, rfl, HJ⟩ := hrel
            obtain ⟨l, hrs, hba, hcl⟩ := HJ.out
            have HRs : Hid (RS w nb T R M g wr l) := hrs
            have HBa : Hid (Bs T R M l) := hba
            have HCl : Hid (agb = false → ∀ h, h < T.length → ∀ i, ClAt T l h i) := hcl
            clear hrs hba hcl HJ
            cases agb
            · have HEq : Hid (l = strong T R M) := strong_eq HRs.out.len HRs.out.snd (fun i hi hN => closed_all HBa.out.1 HBa.out.2 (HCl.out rfl) hN)
              go_wp2
              go_ret
              exact ⟨nb, rfl, by rw [← HEq.out]; exact HRs.out.bx, by have := HNb.out; omega, HRs.out.kp⟩
            · obtain ⟨wc, hwc⟩ : ∃ wc, wc = wr := ⟨_, rfl⟩
              subst hwc
              obtain ⟨c0, hc0⟩ : ∃ c0, l.count false = c0 := ⟨_, rfl⟩
              have HC0 : Hid (l.count false = c0) := hc0
              have HCw : Hid (cF wc nb = c0) := by show _ = _; rw [cF_eq HRs.out.bx]; exact hc0
              clear hc0
              go_wp2_with fail
              go_loopw [9, 8, 10, 11, 12, 71, 72, 73, 74, 75, 76, 77, 78, 79, 80, 81, 82, 83, 84, 85, 86, 87, 88, 89, 90, 91, 92, 93, 94, 95, 96, 97, 98, 99, 100, 101, 102, 103, 104, 105, 106, 107, 108, 109, 110, 111, 112, 113, 114, 115, 116, 117, 118, 119, 120, 121, 122, 123] (fun hh ag _ _ _ _ _ _ _ _ _ _ _ _ _ _ _ _ _ _ _ _ _ _ _ _ _ _ _ _ _ _ _ _ _ _ _ _ _ _ _ _ _ _ _ _ _ _ _ _ _ _ _ _ _ _ _ _ wr => ∃ (h : Nat) (agb : Bool), h ≤ T.length ∧ hh = .int .i64 h ∧ ag = .bool agb ∧ Hid (∃ l, RS w nb T R M g wr l ∧ Bs T R M l ∧ (agb = false → (∀ h', h' < h → ∀ i, ClAt T l h' i) ∧ l.count false = c0) ∧ (agb = true → l.count false < c0))) (fun hh _ _ _ _ _ _ _ _ _ _ _ _ _ _ _ _ _ _ _ _ _ _ _ _ _ _ _ _ _ _ _ _ _ _ _ _ _ _ _ _ _ _ _ _ _ _ _ _ _ _ _ _ _ _ _ _ _ _ => T.length - (intOf hh).toNat)
              case atStart => exact ⟨0, false, by omega, rfl, rfl, _, HRs.out, HBa.out, fun _ => ⟨fun h' hh' => absurd hh' (by omega), HC0.out⟩, fun e => by cases e⟩
              case round =>
                clear HRs HBa HCl HC0
                obtain ⟨h, agb0, hh, rfl, rfl, HJ⟩ := hrel
                obtain ⟨l, hrs, hba, hag⟩ := HJ.out
                have HRs : Hid (RS w nb T R M g wr l) := hrs
                have HBa : Hid (Bs T R M l) := hba
                have HA : Hid ((agb0 = false → (∀ h', h' < h → ∀ i, ClAt T l h' i) ∧ l.count false = c0) ∧ (agb0 = true → l.count false < c0)) := hag
                clear hrs hba hag HJ
                have g0 := (HG.out wr HRs.out.kp HRs.out.gx).1
                by_cases hlt : h < T.length
                · have kh : (h : Int) < (T.length : Int) := by omega
                  obtain ⟨b, off, sa, sc', rfl, hall⟩ := HTh.out h hlt
                  obtain ⟨⟨t0, t1, t2, t3, t4⟩, _⟩ := hall wr HRs.out.kp
                  have HThA : Hid (thAt T h = T[h]) := by show _ = _; unfold thAt; simp only [List.getD, List.getElem?_eq_getElem hlt, Option.getD_some]
                  have hle := HSl.out T[h] (List.getElem_mem hlt)
                  have HRdv : Hid (∀ X, Kept No w X → RdV X (.slice sa T[h].sl.length sc') T[h].sl) := fun X hX => (hall X hX).2
                  clear hall
                  generalize T[h] = t at t0 t1 t2 t3 t4 HThA hle HRdv
                  obtain ⟨tk, tw, ta, sl, tf⟩ := t
                  dsimp only at t0 t1 t2 t3 t4 hle HRdv
                  have HSv : Hid (∀ k, k < sl.length → ∃ b2 off2, sa = some ⟨b2, off2, none⟩ ∧ ∀ X, Kept No w X → X.cell? ⟨b2, off2 + k * 2, none⟩ = some (.int .i64 (sl.getD k (0, 0)).1) ∧ X.cell? ⟨b2, off2 + k * 2 + 1, none⟩ = some (.int .i64 (sl.getD k (0, 0)).2)) := fun k hk => by
                    obtain ⟨ao9, cap9, e9, h9⟩ := HRdv.out w (Kept.refl _ _)
                    injection e9 with e9
                    subst e9
                    obtain ⟨b2, off2, e2, a1, a2⟩ := h9 k hk
                    have : sl.getD k (0, 0) = sl[k] := by simp [List.getD, hk]
                    rw [this]
                    exact ⟨b2, off2, e2, fun X hX => ⟨by rw [cell_al hX a1]; exact a1, by rw [cell_al hX a2]; exact a2⟩⟩
                  obtain ⟨ln, hln⟩ : ∃ ln, sl.length = ln := ⟨_, rfl⟩
                  have HLn : Hid (sl.length = ln) := hln
                  rw [hln] at t3 hle HRdv HSv
                  clear hln
                  obtain ⟨W5, HW5⟩ : ∃ W5, Hid (W5 = wr.alloc (.cells #[.int .i64 tk, .int .i64 tw, .int .i64 ta, .slice sa ln sc', .int .i64 tf] 43)) := ⟨_, rfl⟩
                  have hk5 : Kept No wr W5 := by rw [HW5.out]; exact (Kept.refl _ _).alloc _
                  have HT4 : Hid (W5.heap[wr.heap.size]? = some (.cells #[.int .i64 tk, .int .i64 tw, .int .i64 ta, .slice sa ln sc', .int .i64 tf] 43 (0, 0))) := by show _ = _; rw [HW5.out]; exact World.alloc_heap_new wr _
                  have HR4 : Hid (RS w nb T R M g W5 l) := HRs.out.no hk5
                  have HB4 : Hid (Bs T R M l) := HBa.out
                  have HA4 : Hid ((agb0 = false → (∀ h', h' < h → ∀ i, ClAt T l h' i) ∧ l.count false = c0) ∧ (agb0 = true → l.count false < c0)) := HA.out
                  clear hk5 HRs HBa HA
                  go_wp2_with (first | rw [← HW5.out])
                  clear t0 t1 t2 t3 t4 g0
                  generalize wr.heap.size = tb at HT4 ⊢
                  obtain ⟨wd, hwd⟩ : ∃ wd, wd = wr := ⟨_, rfl⟩
                  subst hwd
                  go_loopw [11, 8, 12, 83, 84, 85, 86, 87, 88, 89, 90, 91, 92, 93, 94, 95, 96, 97, 98, 99, 100, 101, 102, 103, 104, 105, 106, 107, 108, 109, 110, 111, 112, 113, 114, 115, 116, 117, 118, 119, 120, 121, 122, 123] (fun ii ag _ _ _ _ _ _ _ _ _ _ _ _ _ _ _ _ _ _ _ _ _ _ _ _ _ _ _ _ _ _ _ _ _ _ _ _ _ _ _ _ _ _ wr => ∃ (i : Nat) (agb : Bool), i ≤ ln ∧ ii = .int .i64 i ∧ ag = .bool agb ∧ Hid (∃ l, RS w nb T R M g wr l ∧ Bs T R M l ∧ wr.heap[tb]? = some (.cells #[.int .i64 tk, .int .i64 tw, .int .i64 ta, .slice sa ln sc', .int .i64 tf] 43 (0, 0)) ∧ (agb = false → ((∀ h', h' < h → ∀ i, ClAt T l h' i) ∧ ∀ i', i' < i → ClAt T l h i') ∧ l.count false = c0) ∧ (agb = true → l.count false < c0))) (fun ii _ _ _ _ _ _ _ _ _ _ _ _ _ _ _ _ _ _ _ _ _ _ _ _ _ _ _ _ _ _ _ _ _ _ _ _ _ _ _ _ _ _ _ _ => ln - (intOf ii).toNat)
                  case atStart => exact ⟨0, agb0, by omega, rfl, rfl, _, HR4.out, HB4.out, HT4.out, fun e => ⟨⟨(HA4.out.1 e).1, fun i' hi' => absurd hi' (by omega)⟩, (HA4.out.1 e).2⟩, HA4.out.2⟩
                  case round =>
                    clear HR4 HB4 HT4 HA4
                    obtain ⟨i, agb, hi, rfl, rfl, HJ⟩ := hrel
                    obtain ⟨l, hrs, hba, hbt, hag⟩ := HJ.out
                    have HR5 : Hid (RS w nb T R M g wr l) := hrs
                    have HBa : Hid (Bs T R M l) := hba
                    have HB5 : Hid (wr.heap[tb]? = some (.cells #[.int .i64 tk, .int .i64 tw, .int .i64 ta, .slice sa ln sc', .int .i64 tf] 43 (0, 0))) := hbt
                    have HA : Hid ((agb = false → ((∀ h', h' < h → ∀ i, ClAt T l h' i) ∧ ∀ i', i' < i → ClAt T l h i') ∧ l.count false = c0) ∧ (agb = true → l.count false < c0)) := hag
                    clear hrs hba hbt hag HJ
                    have n0 := (HR5.out.cell hlt).1
                    have s3 : wr.cell? ⟨tb, 3, none⟩ = some (.slice sa ln sc') := by rw [cell_of HB5.out]; rfl
                    cases hbh : l.getD h true with
                    | false =>
                      rw [hbh] at n0
                      have HE : Hid (∃ l, RS w nb T R M g wr l ∧ Bs T R M l ∧ (agb = false → (∀ h', h' < h + 1 → ∀ i, ClAt T l h' i) ∧ l.count false = c0) ∧ (agb = true → l.count false < c0)) := by
                        refine ⟨l, HR5.out, HBa.out, fun e => ⟨fun h' hh' i' => ?_, (HA.out.1 e).2⟩, HA.out.2⟩
                        rcases Nat.lt_succ_iff_lt_or_eq.1 hh' with hq | hq
                        · exact (HA.out.1 e).1.1 h' hq i'
                        · subst hq
                          intro h1; rw [hbh] at h1; cases h1
                      clear HA HB5 HBa HR5 hbh
                      go_wp2_with fail
                      go_roundw
                      case rel => exact ⟨h + 1, agb, by omega, by go_num, rfl, HE.out⟩
                      case measure => simp [intOf]; omega
                    | true =>
                      rw [hbh] at n0
                      by_cases hil : i < ln
                      · have ki : (i : Int) < (ln : Int) := by omega
                        obtain ⟨b2, off2, rfl, hv⟩ := HSv.out i hil
                        generalize hvv : sl.getD i (0, 0) = v at hv
                        obtain ⟨v1, v2⟩ := v
                        dsimp only at hv
                        have HCw : Hid (∀ X, Kept No wr X → (X.cell? ⟨w.heap.size, 0, none⟩ = some (.slice (some ⟨b, off, none⟩) T.length cap) ∧ X.cell? ⟨w.heap.size, 1, none⟩ = some (.slice ro R.length rc)) ∧ X.cell? ⟨tb, 3, none⟩ = some (.slice (some ⟨b2, off2, none⟩) ln sc') ∧ X.cell? ⟨b2, off2 + i * 2, none⟩ = some (.int .i64 v1) ∧ X.cell? ⟨b2, off2 + i * 2 + 1, none⟩ = some (.int .i64 v2)) := fun X hX => ⟨HG.out X (HR5.out.kp.trans hX) (hX.heap HR5.out.gx id), by rw [cell_of (hX.heap HB5.out id)]; rfl, hv X (HR5.out.kp.trans hX)⟩
                        have HOb : Hid (∀ X, Kept No w X → Calls Try.prog 21 #[AG (some ⟨b, off, none⟩) T.length cap ro R.length rc, AV (v1, v2)] X fun e w' => e = .returned (.int .i64 (objN T (v1, v2))) ∧ Kept No X w') := fun X hX => RObject_any (HT.out.no hX) (by omega) (v1, v2)
                        have HVv : Hid ((thAt T h).sl.getD i (0, 0) = (v1, v2)) := by show _ = _; rw [HThA.out]; exact hvv
                        clear hv hvv
                        go_wp2_with fail
                        refine region_quiet_class (C := fun w' => Kept No wr w') mixed (by kernel_rfl) (Kept.refl _ _).drew ?_
                        refine q_op (AG (some ⟨b, off, none⟩) T.length cap ro R.length rc) (by kernel_rfl) (fun W1 hW1 => by obtain ⟨⟨a0, a1⟩, a2, a3, a4⟩ := HCw.out W1 hW1; simp [go_sem, a0, a1]) ?_
                        try simp only [Act.put, List.setIfInBounds_toArray, List.set_cons_zero, List.set_cons_succ, List.getElem_toArray, List.getElem_cons_zero, List.getElem_cons_succ]
                        refine q_op (.pointer (some ⟨tb, 3, none⟩)) (by kernel_rfl) (fun W1 hW1 => by simp [go_sem]) ?_
                        try simp only [Act.put, List.setIfInBounds_toArray, List.set_cons_zero, List.set_cons_succ, List.getElem_toArray, List.getElem_cons_zero, List.getElem_cons_succ]
                        refine q_op (.slice (some ⟨b2, off2, none⟩) ln sc') (by kernel_rfl) (fun W1 hW1 => by obtain ⟨⟨a0, a1⟩, a2, a3, a4⟩ := HCw.out W1 hW1; simp [go_sem, a2]) ?_
                        try simp only [Act.put, List.setIfInBounds_toArray, List.set_cons_zero, List.set_cons_succ, List.getElem_toArray, List.getElem_cons_zero, List.getElem_cons_succ]
                        refine q_op (.int .i64 i) (by kernel_rfl) (fun W1 hW1 => by simp [go_sem]) ?_
                        try simp only [Act.put, List.setIfInBounds_toArray, List.set_cons_zero, List.set_cons_succ, List.getElem_toArray, List.getElem_cons_zero, List.getElem_cons_succ]
                        refine q_op (.pointer (some ⟨b2, off2 + i * 2, none⟩)) (by kernel_rfl) (fun W1 hW1 => by simp [go_sem, ki]) ?_
                        try simp only [Act.put, List.setIfInBounds_toArray, List.set_cons_zero, List.set_cons_succ, List.getElem_toArray, List.getElem_cons_zero, List.getElem_cons_succ]
                        refine q_op (AV (v1, v2)) (by kernel_rfl) (fun W1 hW1 => by obtain ⟨⟨a0, a1⟩, a2, a3, a4⟩ := HCw.out W1 hW1; simp [go_sem, a3, a4]) ?_
                        try simp only [Act.put, List.setIfInBounds_toArray, List.set_cons_zero, List.set_cons_succ, List.getElem_toArray, List.getElem_cons_zero, List.getElem_cons_succ]
                        refine q_call 21 #[AG (some ⟨b, off, none⟩) T.length cap ro R.length rc, AV (v1, v2)] (.int .i64 (objN T (v1, v2))) (by kernel_rfl) (fun W1 hW1 => by simp [go_sem]) (fun W1 hW1 => (HOb.out W1 (HR5.out.kp.trans hW1)).mono (fun e w' ⟨h1, h2⟩ => ⟨h1, hW1.trans h2⟩)) ?_
                        try simp only [Act.put, List.setIfInBounds_toArray, List.set_cons_zero, List.set_cons_succ, List.getElem_toArray, List.getElem_cons_zero, List.getElem_cons_succ]
                        refine q_op (.int .i64 (objN T (v1, v2))) (by kernel_rfl) (fun W1 hW1 => by simp [go_sem]) ?_
                        try simp only [Act.put, List.setIfInBounds_toArray, List.set_cons_zero, List.set_cons_succ, List.getElem_toArray, List.getElem_cons_zero, List.getElem_cons_succ]
                        refine wpQuiet_nil ?_
                        intro X3 hX3
                        have HRs3 : Hid (RS w nb T R M g X3 l) := HR5.out.no hX3
                        have HB3 : Hid (X3.heap[tb]? = some (.cells #[.int .i64 tk, .int .i64 tw, .int .i64 ta, .slice (some ⟨b2, off2, none⟩) ln sc', .int .i64 tf] 43 (0, 0))) := hX3.heap HB5.out id
                        clear hX3 HCw HR5 HB5 HOb n0 s3
                        have hop := objN_pos (T := T) (v := (v1, v2))
                        cases hob : obj T (v1, v2) with
                        | false =>
                          rw [hob] at hop
                          have hoN : objN T (v1, v2) = 0 := by unfold objN; rw [if_neg (by rw [hob]; decide)]
                          have HClN : Hid (ClAt T l h i) := fun _ _ h3 => by rw [HVv.out, hob] at h3; cases h3
                          rw [hoN]
                          clear hob hop hoN HVv hbh
                          go_wp2_with fail
                          go_roundw
                          case rel => exact ⟨i + 1, agb, by omega, by go_num, rfl, l, HRs3.out, HBa.out, HB3.out, fun e => ⟨⟨(HA.out.1 e).1.1, fun i' hi' => by
                            rcases Nat.lt_succ_iff_lt_or_eq.1 hi' with h | h
                            · exact (HA.out.1 e).1.2 i' h
                            · rw [h]; exact HClN.out⟩, (HA.out.1 e).2⟩, HA.out.2⟩
                          case measure => simp [intOf]; omega
                        | true =>
                          have hoi := obj_ix hob
                          have hoN : objN T (v1, v2) = v2 := by unfold objN; rw [if_pos hob]
                          have hixd : ix (v1, v2) = v2.toNat - 1 := rfl
                          rw [hoN]
                          rw [hixd] at hoi
                          dsimp only at hoi
                          obtain ⟨o1, o2, o3⟩ := hoi
                          have HHi : Hid (ix ((thAt T h).sl.getD i (0, 0)) = v2.toNat - 1) := by show _ = _; rw [HVv.out]; rfl
                          have HHo : Hid (obj T ((thAt T h).sl.getD i (0, 0)) = true) := by show _ = _; rw [HVv.out]; exact hob
                          clear hop hoN hixd hob HVv
                          obtain ⟨m, rfl⟩ : ∃ m : Nat, v2 = (m : Int) + 1 := ⟨(v2 - 1).toNat, by omega⟩
                          have em : ((m : Int) + 1).toNat - 1 = m := by omega
                          rw [em] at o1 HHi
                          have hm' : (m : Int) < (T.length : Int) := by omega
                          have hm0 : (0 : Int) < (m : Int) + 1 := by omega
                          have e1 : (m : Int) + 1 - 1 = (m : Int) := by omega
                          obtain ⟨c3, z3⟩ := HRs3.out.cell o1
                          cases hbm : l.getD m true with
                          | true =>
                            rw [hbm] at c3
                            have HClN : Hid (ClAt T l h i) := fun _ _ _ => .inl (by rw [HHi.out]; exact hbm)
                            clear hbm z3 HHi HHo o2 o3 hbh
                            go_wp2_with fail
                            go_roundw
                            case rel => exact ⟨i + 1, agb, by omega, by go_num, rfl, l, HRs3.out, HBa.out, HB3.out, fun e => ⟨⟨(HA.out.1 e).1.1, fun i' hi' => by
                              rcases Nat.lt_succ_iff_lt_or_eq.1 hi' with h | h
                              · exact (HA.out.1 e).1.2 i' h
                              · rw [h]; exact HClN.out⟩, (HA.out.1 e).2⟩, HA.out.2⟩
                            case measure => simp [intOf]; omega
                          | false =>
                            rw [hbm] at c3
                            have HLd : Hid (Calls Try.prog 31 #[AG (some ⟨b, off, none⟩) T.length cap ro R.length rc, AT ⟨tk, tw, ta, sl, tf⟩ (.slice (some ⟨b2, off2, none⟩) ln sc'), .int .i64 i, SLN nb T.length] X3 fun e w' => e = .returned (.bool (leadsB T (thAt T h) i l)) ∧ Kept No X3 w') := by
                              have := Rleads_any (ro := ro) (rn := R.length) (rc := rc) (HT.out.no HRs3.out.kp) (by omega) ⟨tk, tw, ta, sl, tf⟩ (some ⟨b2, off2, none⟩) sc' (by rw [HLn.out]; exact HRdv.out X3 HRs3.out.kp) (by rw [HLn.out]; omega) i (by rw [HLn.out]; exact hil) nb l HRs3.out.len HRs3.out.bx
                              rw [HLn.out] at this
                              rw [HThA.out]
                              exact this
                            obtain ⟨a0, a1⟩ := HG.out X3 HRs3.out.kp HRs3.out.gx
                            have b0 : X3.cell? ⟨tb, 0, none⟩ = some (.int .i64 tk) := by rw [cell_of HB3.out]; rfl
                            have b1 : X3.cell? ⟨tb, 1, none⟩ = some (.int .i64 tw) := by rw [cell_of HB3.out]; rfl
                            have b3 : X3.cell? ⟨tb, 2, none⟩ = some (.int .i64 ta) := by rw [cell_of HB3.out]; rfl
                            have b4 : X3.cell? ⟨tb, 3, none⟩ = some (.slice (some ⟨b2, off2, none⟩) ln sc') := by rw [cell_of HB3.out]; rfl
                            have b5 : X3.cell? ⟨tb, 4, none⟩ = some (.int .i64 tf) := by rw [cell_of HB3.out]; rfl
                            obtain ⟨lb, hlb⟩ : ∃ lb, leadsB T (thAt T h) i l = lb := ⟨_, rfl⟩
                            have HLb : Hid (leadsB T (thAt T h) i l = lb) := hlb
                            rw [hlb] at HLd
                            clear hlb z3
                            go_wp2_with fail
                            go_at_call 31
                            refine Calls.mono HLd.out ?_
                            rintro e X4 ⟨rfl, hk4⟩
                            have HRs4 : Hid (RS w nb T R M g X4 l) := HRs3.out.no hk4
                            have HB4 : Hid (X4.heap[tb]? = some (.cells #[.int .i64 tk, .int .i64 tw, .int .i64 ta, .slice (some ⟨b2, off2, none⟩) ln sc', .int .i64 tf] 43 (0, 0))) := hk4.heap HB3.out id
                            clear hk4 HLd a0 a1 b0 b1 b3 b4 b5 HRs3 HB3 c3
                            cases lb
                            · have HClN : Hid (ClAt T l h i) := fun _ _ _ => .inr HLb.out
                              have HRs3 := HRs4
                              have HB3 := HB4
                              clear hbm HHi HHo o2 o3 HLb HRs4 HB4 hbh
                              go_wp2_with fail
                              go_roundw
                              case rel => exact ⟨i + 1, agb, by omega, by go_num, rfl, l, HRs3.out, HBa.out, HB3.out, fun e => ⟨⟨(HA.out.1 e).1.1, fun i' hi' => by
                                rcases Nat.lt_succ_iff_lt_or_eq.1 hi' with h | h
                                · exact (HA.out.1 e).1.2 i' h
                                · rw [h]; exact HClN.out⟩, (HA.out.1 e).2⟩, HA.out.2⟩
                              case measure => simp [intOf]; omega
                            · have HNm : Hid (Nd T R M m) := by
                                have hNh := HRs4.out.snd h hlt hbh
                                have := leads_sound HRs4.out.snd hNh hlt (show i < (thAt T h).sl.length by rw [HThA.out]; show i < sl.length; rw [HLn.out]; exact hil) HHo.out HLb.out
                                rw [HHi.out] at this; exact this
                              have HR6 : Hid (RS w nb T R M g (X4.setCell ⟨nb, m, none⟩ (.bool true)) (l.set m true)) := HRs4.out.set HNb.out HNm.out o1
                              have HB6 : Hid ((X4.setCell ⟨nb, m, none⟩ (.bool true)).heap[tb]? = some (.cells #[.int .i64 tk, .int .i64 tw, .int .i64 ta, .slice (some ⟨b2, off2, none⟩) ln sc', .int .i64 tf] 43 (0, 0))) := hp_set_other HB4.out _ _ (ne_ty HB4.out HRs4.out.bx (by decide))
                              have HBa6 : Hid (Bs T R M (l.set m true)) := HBa.out.set
                              have HC6 : Hid ((l.set m true).count false < c0) := by
                                have hc := count_set l m (by rw [HRs4.out.len]; exact o1) hbm
                                cases agb with
                                | false => have := (HA.out.1 rfl).2; show _ < _; omega
                                | true => have := HA.out.2 rfl; show _ < _; omega
                              obtain ⟨c4, z4⟩ := HRs4.out.cell o1
                              clear hbm HHi HHo o2 o3 HLb HNm HA HBa HB4 HRs4
                              go_wp2_with fail
                              go_roundw
                              case rel => exact ⟨i + 1, true, by omega, by go_num, rfl, _, HR6.out, HBa6.out, HB6.out, (fun e => by cases e), fun _ => HC6.out⟩
                              case measure => simp [intOf]; omega
                      · have ki : ¬ (i : Int) < (ln : Int) := by omega
                        obtain rfl : i = ln := by omega
                        have HE : Hid (∃ l, RS w nb T R M g wr l ∧ Bs T R M l ∧ (agb = false → (∀ h', h' < h + 1 → ∀ i, ClAt T l h' i) ∧ l.count false = c0) ∧ (agb = true → l.count false < c0)) := by
                          refine ⟨l, HR5.out, HBa.out, fun e => ⟨fun h' hh' i' => ?_, (HA.out.1 e).2⟩, HA.out.2⟩
                          rcases Nat.lt_succ_iff_lt_or_eq.1 hh' with hq | hq
                          · exact (HA.out.1 e).1.1 h' hq i'
                          · subst hq
                            by_cases hi' : i' < i
                            · exact (HA.out.1 e).1.2 i' hi'
                            · intro _ h2
                              rw [HThA.out] at h2
                              have := HLn.out
                              dsimp only at h2
                              omega
                        clear HA HB5 HBa HR5 hbh
                        go_wp2_with fail
                        go_roundw
                        case rel => exact ⟨h + 1, agb, by omega, by go_num, rfl, HE.out⟩
                        case measure => simp [intOf]; omega
                · have kh : ¬ (h : Int) < (T.length : Int) := by omega
                  obtain rfl : h = T.length := by omega
                  have HMs : Hid (cF wr nb + agN (.bool agb0) < cF wc nb + agN (.bool true)) := by
                    show _ < _
                    rw [cF_eq HRs.out.bx, HCw.out]
                    cases agb0 with
                    | false => have := (HA.out.1 rfl).2; simp [agN]; omega
                    | true => have := HA.out.2 rfl; simp [agN]; omega
                  go_wp2_with fail
                  go_roundw
                  case rel => exact ⟨agb0, rfl, l, HRs.out, HBa.out, fun e => (HA.out.1 e).1⟩
                  case measure => exact HMs.out
end Go.Proofs.Ytnofmpbdfcolfaa
