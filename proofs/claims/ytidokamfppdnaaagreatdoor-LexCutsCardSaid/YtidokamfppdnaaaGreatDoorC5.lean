/- A name, or a word. -/
import Derived.Test.YtidokamfppdnaaaGreatDoorC4
import Derived.Deep.RegionHeld3
import Derived.RangeFuncRecord
namespace Go.Proofs.YtidokamfppdnaaaGreatDoor
open Go.RowKit
set_option linter.unusedSimpArgs false
set_option linter.unusedVariables false

/-- A token's box. -/
def tb (x : Tk) : Obj := .cells #[.int .i64 x.k, .string x.t, .int .i64 x.vt, .int .i64 x.vn, .string x.sy, .int .i64 x.a, .int .i64 x.e] 38 (0, 0)
theorem tb_cells {w : World} {b : Nat} {x : Tk} (h : w.heap[b]? = some (tb x)) : w.cell? ⟨b, 0, none⟩ = some (.int .i64 x.k) ∧ w.cell? ⟨b, 1, none⟩ = some (.string x.t) ∧ w.cell? ⟨b, 2, none⟩ = some (.int .i64 x.vt) ∧ w.cell? ⟨b, 3, none⟩ = some (.int .i64 x.vn) ∧ w.cell? ⟨b, 4, none⟩ = some (.string x.sy) ∧ w.cell? ⟨b, 5, none⟩ = some (.int .i64 x.a) ∧ w.cell? ⟨b, 6, none⟩ = some (.int .i64 x.e) :=
  ⟨by rw [cell_of h]; rfl, by rw [cell_of h]; rfl, by rw [cell_of h]; rfl, by rw [cell_of h]; rfl, by rw [cell_of h]; rfl, by rw [cell_of h]; rfl, by rw [cell_of h]; rfl⟩
theorem frozen_of {w : World} {b : Nat} {c : Array Value} {e : TypeId} (h : w.heap[b]? = some (.cells c e (0, 0))) (o : Nat) : w.frozen? ⟨b, o, none⟩ = false := by
  simp [World.frozen?, h]
theorem tb_frozen {w : World} {b : Nat} {x : Tk} (h : w.heap[b]? = some (tb x)) (o : Nat) : w.frozen? ⟨b, o, none⟩ = false := frozen_of h o

/-- What name tells. -/
def nmK (s : ByteArray) (k : Nat) : Int := if isWd (s.extract k (k + nameL ((bl s).drop k))) then 2 else 1
def nmT (s : ByteArray) (k : Nat) : Tk := if isLt ((bl s).getD k 0) then ⟨nmK s k, s.extract k (k + nameL ((bl s).drop k)), 0, 0, ⟨#[]⟩, k, (k + nameL ((bl s).drop k) : Nat)⟩ else t0
theorem bl_getD (s : ByteArray) {k : Nat} (h : k < s.size) : (bl s).getD k 0 = s[k] := by
  rw [List.getD_eq_getElem?_getD, List.getElem?_eq_getElem (by rw [bl_len]; exact h), bl_at s h]; rfl

set_option maxRecDepth 20000 in
set_option maxHeartbeats 2000000 in
theorem name_not {w : World} {c : Nat} {s : ByteArray} (h : Cu w c s) (k : Nat) (hk : k < s.size) (hs : s.size ≤ 8192) (hl : isLt s[k] = false) :
    Calls Tryz.prog 16 #[.pointer (some ⟨c, 0, none⟩), .int .i64 (k : Int)] w fun r w' => r = .returned (.tuple #[tv t0, .int .i64 0]) ∧ Kept No w w' := by
  have c1 : ∀ o, (w.alloc o).cell? ⟨c, 0, none⟩ = some (.string s) := fun o => (h.no ((Kept.refl No w).alloc o)).src
  have HL : Hid (∀ w, Calls Tryz.prog 29 #[.int .u8 (s[k].toNat : Int)] w fun e w' => e = .returned (.bool false) ∧ w = w') := fun w => by have := isLetter_any s[k] w; rw [hl] at this; exact this
  clear h hl
  go_enter Tryz.func16, Tryz.ntmps16
  go_wp2_with (go_at_call 29; refine Calls.mono (HL.out _) ?_; rintro e w' ⟨rfl, rfl⟩)
  refine bodyPost_ret (v := .tuple #[tv t0, .int .i64 0]) (by simp [results, Tryz.results16, go_sem, tv, t0]) rfl ⟨rfl, ?_⟩
  exact (Kept.refl No w).alloc _

set_option maxRecDepth 20000 in
set_option maxHeartbeats 4000000 in
theorem name_is {w : World} {c : Nat} {s : ByteArray} (h : Cu w c s) (k : Nat) (hk : k < s.size) (hs : s.size ≤ 8192) (hl : isLt s[k] = true) (b : Bool) (hb : isWd (s.extract k (k + nameL ((bl s).drop k))) = b) :
    Calls Tryz.prog 16 #[.pointer (some ⟨c, 0, none⟩), .int .i64 (k : Int)] w fun r w' => r = .returned (.tuple #[tv ⟨if b then 2 else 1, s.extract k (k + nameL ((bl s).drop k)), 0, 0, ⟨#[]⟩, k, (k + nameL ((bl s).drop k) : Nat)⟩, .int .i64 0]) ∧ Kept No w w' := by
  obtain ⟨W, HW⟩ : ∃ W, Hid (W = w.alloc (.cells #[.int .i64 0, .string ⟨#[]⟩, .int .i64 0, .int .i64 0, .string ⟨#[]⟩, .int .i64 0, .int .i64 0] 38)) := ⟨_, show _ = _ from rfl⟩
  have HC : Hid (Cu W c s) := by show Cu _ _ _; rw [HW.out]; exact h.no ((Kept.refl No w).alloc _)
  have HK : Hid (Kept No w W) := by show Kept _ _ _; rw [HW.out]; exact (Kept.refl No w).alloc _
  have HR0 : Hid (W.heap[w.heap.size]? = some (tb t0)) := by show _ = _; rw [HW.out]; exact World.alloc_heap_new w _
  have HWF : Hid (∀ w, Calls Tryz.prog 29 #[.int .u8 (s[k].toNat : Int)] w fun e w' => e = .returned (.bool true) ∧ w = w') := fun w => by have := isLetter_any s[k] w; rw [hl] at this; exact this
  have c1 : ∀ o, (w.alloc o).cell? ⟨c, 0, none⟩ = some (.string s) := fun o => (h.no ((Kept.refl No w).alloc o)).src
  have c0 := HC.out.src
  have hnl := nameL_le ((bl s).drop k)
  rw [List.length_drop, bl_len] at hnl
  obtain ⟨E, HE⟩ : ∃ E, Hid (k + nameL ((bl s).drop k) = E) := ⟨_, show _ = _ from rfl⟩
  rw [HE.out] at hb ⊢
  have hkE : k ≤ E := by rw [← HE.out]; omega
  have hEs : E ≤ s.size := by rw [← HE.out]; omega
  have HB : Hid (isWd (s.extract k E) = b) := hb
  clear h hl hb hnl
  obtain ⟨R, HRR⟩ : ∃ R, Hid (w.heap.size = R) := ⟨_, show _ = _ from rfl⟩
  rw [HRR.out] at HR0
  go_enter Tryz.func16, Tryz.ntmps16
  go_wp2_with fail
  refine Calls.mono (HWF.out _) ?_
  rintro e w' ⟨rfl, rfl⟩
  rw [← HW.out]
  clear c1
  go_wp2_with fail
  go_loop [6] (fun i => ∃ j : Nat, k ≤ j ∧ j ≤ s.size ∧ i = .int .i64 j ∧ Hid (j + nameL ((bl s).drop j) = E)) (fun i => s.size - (intOf i).toNat)
  case atStart => exact ⟨k, Nat.le_refl _, by omega, rfl, HE.out⟩
  case round =>
    clear HE
    obtain ⟨j, hkj, hj, rfl, HJ⟩ := hrel
    by_cases hlt : j < s.size
    · have dlt : decide ((j : Int) < (s.size : Int)) = true := decide_eq_true (by omega)
      have hd := bl_drop s hlt
      have HN : Hid (∀ w, Calls Tryz.prog 30 #[.int .u8 (s[j].toNat : Int)] w fun e w' => e = .returned (.bool (isNm s[j])) ∧ w = w') := fun w => isInName_any _ w
      have HX := HJ.out
      rw [hd] at HX
      cases hnm : isNm s[j] with
      | true =>
        have HJ2 : Hid (j + 1 + nameL ((bl s).drop (j + 1)) = E) := by
          show _ = _
          rw [← HX, nameL, if_pos hnm]; omega
        rw [hnm] at HN
        clear HX hnm hd HJ
        go_wp2_with (go_at_call 30; refine Calls.mono (HN.out _) ?_; rintro e w' ⟨rfl, rfl⟩)
        go_round
        case rel => exact ⟨j + 1, by omega, by omega, by go_num, HJ2⟩
        case measure => simp [intOf] <;> omega
      | false =>
        have HJE : Hid (j = E) := by
          show _ = _
          rw [← HX, nameL, if_neg (by rw [hnm]; decide)]; rfl
        rw [hnm] at HN
        clear HX hnm hd HJ
        have hjE := HJE.out
        subst hjE
        go_wp2_with (go_at_call 30; refine Calls.mono (HN.out _) ?_; rintro e w' ⟨rfl, rfl⟩)
        refine (cut_any HC.out 1 k j hkj (by omega) (by omega)).mono ?_
        rintro e W1 ⟨rfl, hk1⟩
        have H1 : Hid (Cu W1 c s ∧ Kept No w W1 ∧ W1.heap[R]? = some (tb t0)) := ⟨HC.out.no hk1, HK.out.trans hk1, hk1.heap HR0.out id⟩
        clear hk1 c0
        obtain ⟨W2, HW2⟩ : ∃ W2, Hid (W1.alloc (tb ⟨1, s.extract k j , 0, 0, ⟨#[]⟩, k, j ⟩) = W2) := ⟨_, show _ = _ from rfl⟩
        have HT : Hid (W2.heap[W1.heap.size]? = some (tb ⟨1, s.extract k j , 0, 0, ⟨#[]⟩, k, j ⟩)) := by show _ = _; rw [← HW2.out]; exact World.alloc_heap_new W1 _
        have HK2 : Hid (Kept No W1 W2) := by show Kept _ _ _; rw [← HW2.out]; exact (Kept.refl No W1).alloc _
        unfold tb at HW2
        dsimp only at HW2
        unfold tv
        dsimp only
        go_wp2_with fail
        rw [HW2.out]
        clear HW2
        obtain ⟨T, HTT⟩ : ∃ T, Hid (W1.heap.size = T) := ⟨_, show _ = _ from rfl⟩
        rw [HTT.out] at HT ⊢
        rw [HRR.out]
        obtain ⟨H1a, H1b, H1c⟩ := H1.out
        obtain ⟨M, K, d1, d2, d3⟩ := H1a.ex
        have HF : Hid (W2.heap[c]? = _ ∧ WIs W2 M 18 wordsL ∧ Kept No w W2 ∧ W2.heap[R]? = some (tb t0) ∧ R < T ∧ T < W2.heap.size ∧ w.heap.size ≤ R) := ⟨HK2.out.heap d1 id, d3.no HK2.out, H1b.trans HK2.out, HK2.out.heap H1c id, by rw [← HTT.out]; exact hp_lt H1c, hp_lt HT.out, by rw [HRR.out]; exact Nat.le_refl _⟩
        clear H1a H1b H1c d1 d2 d3 H1 HK2 HTT
        have F1 : Hid (∀ w', Kept No W2 w' → w'.cell? ⟨c, 1, none⟩ = some (.map (some M))) := fun w' h => by rw [cell_of (h.heap HF.out.1 id)]; rfl
        have F2 : Hid (∀ w', Kept No W2 w' → w'.cell? ⟨T, 1, none⟩ = some (.string (s.extract k j ))) := fun w' h => (tb_cells (h.heap HT.out id)).2.1
        have F3 : Hid (∀ w', Kept No W2 w' → (Instr.lookup 43 (.map (some M)) (.string (s.extract k j )) true).run Tryz.prog w' = .ok (.tuple #[.agg #[], .bool b]) w') := fun w' h => by
          have := (HF.out.2.1.no h).look (s.extract k j ) (by simp [ByteArray.size_extract, maxLen]; omega)
          rw [this, ← HB.out]; rfl
        refine wp_region_held_drew (S := fun w' => Kept No W2 w') (by kernel_rfl) ((Kept.refl No W2).drew) (fun _ => ?_)
        have hSS : Kept No W2 W2.drew := (Kept.refl No W2).drew
        revert hSS
        generalize W2.drew = W3
        intro hSS
        refine wpAnyH_take (i := 0) (v := ?vTk1) rfl (by kernel_rfl) (by kernel_rfl) (by kernel_rfl) (fun _ _ _ h => h) (Or.inl ⟨by rfl, ?yTk1⟩) hSS ?rTk1
        case yTk1 => (intro w' hSw; have f1 := F1.out w' hSw; have f2 := F2.out w' hSw; have f3 := F3.out w' hSw; go_simp; try with_reducible rfl)
        case rTk1 =>
        try simp only [Act.put, List.setIfInBounds_toArray, List.set_cons_zero, List.set_cons_succ, List.getElem_toArray, List.getElem_cons_zero, List.getElem_cons_succ]
        refine wpAnyH_take (i := 1) (v := ?vTk2) rfl (by kernel_rfl) (by kernel_rfl) (by kernel_rfl) (fun _ _ _ h => h) (Or.inl ⟨by rfl, ?yTk2⟩) hSS ?rTk2
        case yTk2 => (intro w' hSw; have f1 := F1.out w' hSw; have f2 := F2.out w' hSw; have f3 := F3.out w' hSw; go_simp; try with_reducible rfl)
        case rTk2 =>
        try simp only [Act.put, List.setIfInBounds_toArray, List.set_cons_zero, List.set_cons_succ, List.getElem_toArray, List.getElem_cons_zero, List.getElem_cons_succ]
        refine wpAnyH_take (i := 2) (v := ?vTk3) rfl (by kernel_rfl) (by kernel_rfl) (by kernel_rfl) (fun _ _ _ h => h) (Or.inl ⟨by rfl, ?yTk3⟩) hSS ?rTk3
        case yTk3 => (intro w' hSw; have f1 := F1.out w' hSw; have f2 := F2.out w' hSw; have f3 := F3.out w' hSw; go_simp; try with_reducible rfl)
        case rTk3 =>
        try simp only [Act.put, List.setIfInBounds_toArray, List.set_cons_zero, List.set_cons_succ, List.getElem_toArray, List.getElem_cons_zero, List.getElem_cons_succ]
        refine wpAnyH_take (i := 3) (v := ?vTk4) rfl (by kernel_rfl) (by kernel_rfl) (by kernel_rfl) (fun _ _ _ h => h) (Or.inl ⟨by rfl, ?yTk4⟩) hSS ?rTk4
        case yTk4 => (intro w' hSw; have f1 := F1.out w' hSw; have f2 := F2.out w' hSw; have f3 := F3.out w' hSw; go_simp; try with_reducible rfl)
        case rTk4 =>
        try simp only [Act.put, List.setIfInBounds_toArray, List.set_cons_zero, List.set_cons_succ, List.getElem_toArray, List.getElem_cons_zero, List.getElem_cons_succ]
        refine wpAnyH_take (i := 4) (v := ?vTk5) rfl (by kernel_rfl) (by kernel_rfl) (by kernel_rfl) (fun _ _ _ h => h) (Or.inl ⟨by rfl, ?yTk5⟩) hSS ?rTk5
        case yTk5 => (intro w' hSw; have f1 := F1.out w' hSw; have f2 := F2.out w' hSw; have f3 := F3.out w' hSw; go_simp; try with_reducible rfl)
        case rTk5 =>
        try simp only [Act.put, List.setIfInBounds_toArray, List.set_cons_zero, List.set_cons_succ, List.getElem_toArray, List.getElem_cons_zero, List.getElem_cons_succ]
        refine wpAnyH_take (i := 5) (v := ?vTk6) rfl (by kernel_rfl) (by kernel_rfl) (by kernel_rfl) (fun _ _ _ h => h) (Or.inl ⟨by rfl, ?yTk6⟩) hSS ?rTk6
        case yTk6 => (intro w' hSw; have f1 := F1.out w' hSw; have f2 := F2.out w' hSw; have f3 := F3.out w' hSw; go_simp; try with_reducible rfl)
        case rTk6 =>
        try simp only [Act.put, List.setIfInBounds_toArray, List.set_cons_zero, List.set_cons_succ, List.getElem_toArray, List.getElem_cons_zero, List.getElem_cons_succ]
        refine wpAnyH_take (i := 6) (v := ?vTk7) rfl (by kernel_rfl) (by kernel_rfl) (by kernel_rfl) (fun _ _ _ h => h) (Or.inl ⟨by rfl, ?yTk7⟩) hSS ?rTk7
        case yTk7 => (intro w' hSw; have f1 := F1.out w' hSw; have f2 := F2.out w' hSw; have f3 := F3.out w' hSw; go_simp; try with_reducible rfl)
        case rTk7 =>
        try simp only [Act.put, List.setIfInBounds_toArray, List.set_cons_zero, List.set_cons_succ, List.getElem_toArray, List.getElem_cons_zero, List.getElem_cons_succ]
        refine wpAnyH_take (i := 7) (v := ?vTk8) rfl (by kernel_rfl) (by kernel_rfl) (by kernel_rfl) (fun _ _ _ h => h) (Or.inl ⟨by rfl, ?yTk8⟩) hSS ?rTk8
        case yTk8 => (intro w' hSw; have f1 := F1.out w' hSw; have f2 := F2.out w' hSw; have f3 := F3.out w' hSw; go_simp; try with_reducible rfl)
        case rTk8 =>
        try simp only [Act.put, List.setIfInBounds_toArray, List.set_cons_zero, List.set_cons_succ, List.getElem_toArray, List.getElem_cons_zero, List.getElem_cons_succ]
        refine wpAnyH_take (i := 8) (v := ?vTk9) rfl (by kernel_rfl) (by kernel_rfl) (by kernel_rfl) (fun _ _ _ h => h) (Or.inl ⟨by rfl, ?yTk9⟩) hSS ?rTk9
        case yTk9 => (intro w' hSw; have f1 := F1.out w' hSw; have f2 := F2.out w' hSw; have f3 := F3.out w' hSw; go_simp; try with_reducible rfl)
        case rTk9 =>
        try simp only [Act.put, List.setIfInBounds_toArray, List.set_cons_zero, List.set_cons_succ, List.getElem_toArray, List.getElem_cons_zero, List.getElem_cons_succ]
        refine wpAnyH_take (i := 9) (v := ?vTk10) rfl (by kernel_rfl) (by kernel_rfl) (by kernel_rfl) (fun _ _ _ h => h) (Or.inl ⟨by rfl, ?yTk10⟩) hSS ?rTk10
        case yTk10 => (intro w' hSw; have f1 := F1.out w' hSw; have f2 := F2.out w' hSw; have f3 := F3.out w' hSw; go_simp; try with_reducible rfl)
        case rTk10 =>
        try simp only [Act.put, List.setIfInBounds_toArray, List.set_cons_zero, List.set_cons_succ, List.getElem_toArray, List.getElem_cons_zero, List.getElem_cons_succ]
        refine wpAnyH_ready (rs := [10]) (by kernel_rfl) (by simp) ?_
        refine AllReadyH.cons rfl (fun K' hK => ?_) AllReadyH.nil
        go_simp
        refine hK.out _ _ (hSS.alloc _) (fun _ => ?_)
        clear hK K'
        obtain ⟨W4, HW4⟩ : ∃ W4, Hid (W3.alloc (.cells #[] 54) = W4) := ⟨_, show _ = _ from rfl⟩
        have HW4n : Hid (W4.heap[W3.heap.size]? = some (.cells #[] 54 (0, 0))) := by show _ = _; rw [← HW4.out]; exact World.alloc_heap_new W3 _
        have HS4 : Hid (Kept No W2 W4) := by show Kept _ _ _; rw [← HW4.out]; exact hSS.alloc _
        rw [HW4.out]
        clear HW4
        try simp only [Act.put, List.setIfInBounds_toArray, List.set_cons_zero, List.set_cons_succ, List.getElem_toArray, List.getElem_cons_zero, List.getElem_cons_succ]
        refine wpAnyH_ready (rs := [11]) (by kernel_rfl) (by simp) ?_
        refine AllReadyH.cons rfl (fun K' hK => ?_) AllReadyH.nil
        have hno := fun o => frozen_of HW4n.out o
        go_simp
        refine hK.out _ _ HS4.out (fun _ => ?_)
        clear hK K' hno hSS
        have hSS := HS4.out
        try simp only [Act.put, List.setIfInBounds_toArray, List.set_cons_zero, List.set_cons_succ, List.getElem_toArray, List.getElem_cons_zero, List.getElem_cons_succ]
        refine wpAnyH_take (i := 12) (v := ?vTk11) rfl (by kernel_rfl) (by kernel_rfl) (by kernel_rfl) (fun _ _ _ h => h) (Or.inl ⟨by rfl, ?yTk11⟩) hSS ?rTk11
        case yTk11 => (intro w' hSw; have f1 := F1.out w' hSw; have f2 := F2.out w' hSw; have f3 := F3.out w' hSw; go_simp; try with_reducible rfl)
        case rTk11 =>
        try simp only [Act.put, List.setIfInBounds_toArray, List.set_cons_zero, List.set_cons_succ, List.getElem_toArray, List.getElem_cons_zero, List.getElem_cons_succ]
        refine wpAnyH_done (by kernel_rfl) ?_ _
        have t0' := tb_cells (hSS.heap HT.out id)
        have t1' := fun o => tb_frozen (hSS.heap HT.out id) o
        have t2' := fun o => tb_frozen (hSS.heap HF.out.2.2.2.1 id) o
        obtain ⟨t3, t4, t5, t6, t7, t8, t9⟩ := t0'
        obtain ⟨r3, r4, r5, r6, r7, r8, r9⟩ := tb_cells (hSS.heap HF.out.2.2.2.1 id)
        dsimp only [t0] at t3 t4 t5 t6 t7 t8 t9 r3 r4 r5 r6 r7 r8 r9
        have nRT : R ≠ T := by have := HF.out.2.2.2.2.1; omega
        have nTR : T ≠ R := by have := HF.out.2.2.2.2.1; omega
        have HKf : Hid (Kept No w W4 ∧ w.heap.size ≤ R ∧ w.heap.size ≤ T) := ⟨HF.out.2.2.1.trans hSS, HF.out.2.2.2.2.2.2, by have := HF.out.2.2.2.2; omega⟩
        clear HS4 HW4n hSS
        cases b with
        | false =>
          clear F1 F2 F3 HB
          go_wp2_with fail
          refine bodyPost_ret (v := .tuple #[tv ⟨1, s.extract k j , 0, 0, ⟨#[]⟩, k, j ⟩, .int .i64 0]) (by simp [results, Tryz.results16, go_sem, tv, t3, t4, t5, t6, t7, t8, t9, r3, r4, r5, r6, r7, r8, r9, nRT, nTR]) rfl ⟨rfl, ?_⟩
          exact HKf.out.1.set _ _ _ (Or.inr HKf.out.2.1)|>.set _ _ _ (Or.inr HKf.out.2.1)|>.set _ _ _ (Or.inr HKf.out.2.1)|>.set _ _ _ (Or.inr HKf.out.2.1)|>.set _ _ _ (Or.inr HKf.out.2.1)|>.set _ _ _ (Or.inr HKf.out.2.1)|>.set _ _ _ (Or.inr HKf.out.2.1)
        | true =>
          clear F1 F2 F3 HB
          go_wp2_with fail
          refine bodyPost_ret (v := .tuple #[tv ⟨2, s.extract k j , 0, 0, ⟨#[]⟩, k, j ⟩, .int .i64 0]) (by simp [results, Tryz.results16, go_sem, tv, t3, t4, t5, t6, t7, t8, t9, r3, r4, r5, r6, r7, r8, r9, nRT, nTR]) rfl ⟨rfl, ?_⟩
          exact HKf.out.1.set _ _ _ (Or.inr HKf.out.2.2)|>.set _ _ _ (Or.inr HKf.out.2.1)|>.set _ _ _ (Or.inr HKf.out.2.1)|>.set _ _ _ (Or.inr HKf.out.2.1)|>.set _ _ _ (Or.inr HKf.out.2.1)|>.set _ _ _ (Or.inr HKf.out.2.1)|>.set _ _ _ (Or.inr HKf.out.2.1)|>.set _ _ _ (Or.inr HKf.out.2.1)
    · obtain rfl : j = s.size := by omega
      have dlt : decide ((s.size : Int) < (s.size : Int)) = false := decide_eq_false (by omega)
      have hjE : s.size = E := by
        rw [← HJ.out, List.drop_eq_nil_of_le (by rw [bl_len]; exact Nat.le_refl _)]; rfl
      subst hjE
      clear HJ
      go_wp2_with fail
      refine (cut_any HC.out 1 k s.size hkj (by omega) (by omega)).mono ?_
      rintro e W1 ⟨rfl, hk1⟩
      have H1 : Hid (Cu W1 c s ∧ Kept No w W1 ∧ W1.heap[R]? = some (tb t0)) := ⟨HC.out.no hk1, HK.out.trans hk1, hk1.heap HR0.out id⟩
      clear hk1 c0
      obtain ⟨W2, HW2⟩ : ∃ W2, Hid (W1.alloc (tb ⟨1, s.extract k s.size , 0, 0, ⟨#[]⟩, k, s.size ⟩) = W2) := ⟨_, show _ = _ from rfl⟩
      have HT : Hid (W2.heap[W1.heap.size]? = some (tb ⟨1, s.extract k s.size , 0, 0, ⟨#[]⟩, k, s.size ⟩)) := by show _ = _; rw [← HW2.out]; exact World.alloc_heap_new W1 _
      have HK2 : Hid (Kept No W1 W2) := by show Kept _ _ _; rw [← HW2.out]; exact (Kept.refl No W1).alloc _
      unfold tb at HW2
      dsimp only at HW2
      unfold tv
      dsimp only
      go_wp2_with fail
      rw [HW2.out]
      clear HW2
      obtain ⟨T, HTT⟩ : ∃ T, Hid (W1.heap.size = T) := ⟨_, show _ = _ from rfl⟩
      rw [HTT.out] at HT ⊢
      rw [HRR.out]
      obtain ⟨H1a, H1b, H1c⟩ := H1.out
      obtain ⟨M, K, d1, d2, d3⟩ := H1a.ex
      have HF : Hid (W2.heap[c]? = _ ∧ WIs W2 M 18 wordsL ∧ Kept No w W2 ∧ W2.heap[R]? = some (tb t0) ∧ R < T ∧ T < W2.heap.size ∧ w.heap.size ≤ R) := ⟨HK2.out.heap d1 id, d3.no HK2.out, H1b.trans HK2.out, HK2.out.heap H1c id, by rw [← HTT.out]; exact hp_lt H1c, hp_lt HT.out, by rw [HRR.out]; exact Nat.le_refl _⟩
      clear H1a H1b H1c d1 d2 d3 H1 HK2 HTT
      have F1 : Hid (∀ w', Kept No W2 w' → w'.cell? ⟨c, 1, none⟩ = some (.map (some M))) := fun w' h => by rw [cell_of (h.heap HF.out.1 id)]; rfl
      have F2 : Hid (∀ w', Kept No W2 w' → w'.cell? ⟨T, 1, none⟩ = some (.string (s.extract k s.size ))) := fun w' h => (tb_cells (h.heap HT.out id)).2.1
      have F3 : Hid (∀ w', Kept No W2 w' → (Instr.lookup 43 (.map (some M)) (.string (s.extract k s.size )) true).run Tryz.prog w' = .ok (.tuple #[.agg #[], .bool b]) w') := fun w' h => by
        have := (HF.out.2.1.no h).look (s.extract k s.size ) (by simp [ByteArray.size_extract, maxLen]; omega)
        rw [this, ← HB.out]; rfl
      refine wp_region_held_drew (S := fun w' => Kept No W2 w') (by kernel_rfl) ((Kept.refl No W2).drew) (fun _ => ?_)
      have hSS : Kept No W2 W2.drew := (Kept.refl No W2).drew
      revert hSS
      generalize W2.drew = W3
      intro hSS
      refine wpAnyH_take (i := 0) (v := ?vTk12) rfl (by kernel_rfl) (by kernel_rfl) (by kernel_rfl) (fun _ _ _ h => h) (Or.inl ⟨by rfl, ?yTk12⟩) hSS ?rTk12
      case yTk12 => (intro w' hSw; have f1 := F1.out w' hSw; have f2 := F2.out w' hSw; have f3 := F3.out w' hSw; go_simp; try with_reducible rfl)
      case rTk12 =>
      try simp only [Act.put, List.setIfInBounds_toArray, List.set_cons_zero, List.set_cons_succ, List.getElem_toArray, List.getElem_cons_zero, List.getElem_cons_succ]
      refine wpAnyH_take (i := 1) (v := ?vTk13) rfl (by kernel_rfl) (by kernel_rfl) (by kernel_rfl) (fun _ _ _ h => h) (Or.inl ⟨by rfl, ?yTk13⟩) hSS ?rTk13
      case yTk13 => (intro w' hSw; have f1 := F1.out w' hSw; have f2 := F2.out w' hSw; have f3 := F3.out w' hSw; go_simp; try with_reducible rfl)
      case rTk13 =>
      try simp only [Act.put, List.setIfInBounds_toArray, List.set_cons_zero, List.set_cons_succ, List.getElem_toArray, List.getElem_cons_zero, List.getElem_cons_succ]
      refine wpAnyH_take (i := 2) (v := ?vTk14) rfl (by kernel_rfl) (by kernel_rfl) (by kernel_rfl) (fun _ _ _ h => h) (Or.inl ⟨by rfl, ?yTk14⟩) hSS ?rTk14
      case yTk14 => (intro w' hSw; have f1 := F1.out w' hSw; have f2 := F2.out w' hSw; have f3 := F3.out w' hSw; go_simp; try with_reducible rfl)
      case rTk14 =>
      try simp only [Act.put, List.setIfInBounds_toArray, List.set_cons_zero, List.set_cons_succ, List.getElem_toArray, List.getElem_cons_zero, List.getElem_cons_succ]
      refine wpAnyH_take (i := 3) (v := ?vTk15) rfl (by kernel_rfl) (by kernel_rfl) (by kernel_rfl) (fun _ _ _ h => h) (Or.inl ⟨by rfl, ?yTk15⟩) hSS ?rTk15
      case yTk15 => (intro w' hSw; have f1 := F1.out w' hSw; have f2 := F2.out w' hSw; have f3 := F3.out w' hSw; go_simp; try with_reducible rfl)
      case rTk15 =>
      try simp only [Act.put, List.setIfInBounds_toArray, List.set_cons_zero, List.set_cons_succ, List.getElem_toArray, List.getElem_cons_zero, List.getElem_cons_succ]
      refine wpAnyH_take (i := 4) (v := ?vTk16) rfl (by kernel_rfl) (by kernel_rfl) (by kernel_rfl) (fun _ _ _ h => h) (Or.inl ⟨by rfl, ?yTk16⟩) hSS ?rTk16
      case yTk16 => (intro w' hSw; have f1 := F1.out w' hSw; have f2 := F2.out w' hSw; have f3 := F3.out w' hSw; go_simp; try with_reducible rfl)
      case rTk16 =>
      try simp only [Act.put, List.setIfInBounds_toArray, List.set_cons_zero, List.set_cons_succ, List.getElem_toArray, List.getElem_cons_zero, List.getElem_cons_succ]
      refine wpAnyH_take (i := 5) (v := ?vTk17) rfl (by kernel_rfl) (by kernel_rfl) (by kernel_rfl) (fun _ _ _ h => h) (Or.inl ⟨by rfl, ?yTk17⟩) hSS ?rTk17
      case yTk17 => (intro w' hSw; have f1 := F1.out w' hSw; have f2 := F2.out w' hSw; have f3 := F3.out w' hSw; go_simp; try with_reducible rfl)
      case rTk17 =>
      try simp only [Act.put, List.setIfInBounds_toArray, List.set_cons_zero, List.set_cons_succ, List.getElem_toArray, List.getElem_cons_zero, List.getElem_cons_succ]
      refine wpAnyH_take (i := 6) (v := ?vTk18) rfl (by kernel_rfl) (by kernel_rfl) (by kernel_rfl) (fun _ _ _ h => h) (Or.inl ⟨by rfl, ?yTk18⟩) hSS ?rTk18
      case yTk18 => (intro w' hSw; have f1 := F1.out w' hSw; have f2 := F2.out w' hSw; have f3 := F3.out w' hSw; go_simp; try with_reducible rfl)
      case rTk18 =>
      try simp only [Act.put, List.setIfInBounds_toArray, List.set_cons_zero, List.set_cons_succ, List.getElem_toArray, List.getElem_cons_zero, List.getElem_cons_succ]
      refine wpAnyH_take (i := 7) (v := ?vTk19) rfl (by kernel_rfl) (by kernel_rfl) (by kernel_rfl) (fun _ _ _ h => h) (Or.inl ⟨by rfl, ?yTk19⟩) hSS ?rTk19
      case yTk19 => (intro w' hSw; have f1 := F1.out w' hSw; have f2 := F2.out w' hSw; have f3 := F3.out w' hSw; go_simp; try with_reducible rfl)
      case rTk19 =>
      try simp only [Act.put, List.setIfInBounds_toArray, List.set_cons_zero, List.set_cons_succ, List.getElem_toArray, List.getElem_cons_zero, List.getElem_cons_succ]
      refine wpAnyH_take (i := 8) (v := ?vTk20) rfl (by kernel_rfl) (by kernel_rfl) (by kernel_rfl) (fun _ _ _ h => h) (Or.inl ⟨by rfl, ?yTk20⟩) hSS ?rTk20
      case yTk20 => (intro w' hSw; have f1 := F1.out w' hSw; have f2 := F2.out w' hSw; have f3 := F3.out w' hSw; go_simp; try with_reducible rfl)
      case rTk20 =>
      try simp only [Act.put, List.setIfInBounds_toArray, List.set_cons_zero, List.set_cons_succ, List.getElem_toArray, List.getElem_cons_zero, List.getElem_cons_succ]
      refine wpAnyH_take (i := 9) (v := ?vTk21) rfl (by kernel_rfl) (by kernel_rfl) (by kernel_rfl) (fun _ _ _ h => h) (Or.inl ⟨by rfl, ?yTk21⟩) hSS ?rTk21
      case yTk21 => (intro w' hSw; have f1 := F1.out w' hSw; have f2 := F2.out w' hSw; have f3 := F3.out w' hSw; go_simp; try with_reducible rfl)
      case rTk21 =>
      try simp only [Act.put, List.setIfInBounds_toArray, List.set_cons_zero, List.set_cons_succ, List.getElem_toArray, List.getElem_cons_zero, List.getElem_cons_succ]
      refine wpAnyH_ready (rs := [10]) (by kernel_rfl) (by simp) ?_
      refine AllReadyH.cons rfl (fun K' hK => ?_) AllReadyH.nil
      go_simp
      refine hK.out _ _ (hSS.alloc _) (fun _ => ?_)
      clear hK K'
      obtain ⟨W4, HW4⟩ : ∃ W4, Hid (W3.alloc (.cells #[] 54) = W4) := ⟨_, show _ = _ from rfl⟩
      have HW4n : Hid (W4.heap[W3.heap.size]? = some (.cells #[] 54 (0, 0))) := by show _ = _; rw [← HW4.out]; exact World.alloc_heap_new W3 _
      have HS4 : Hid (Kept No W2 W4) := by show Kept _ _ _; rw [← HW4.out]; exact hSS.alloc _
      rw [HW4.out]
      clear HW4
      try simp only [Act.put, List.setIfInBounds_toArray, List.set_cons_zero, List.set_cons_succ, List.getElem_toArray, List.getElem_cons_zero, List.getElem_cons_succ]
      refine wpAnyH_ready (rs := [11]) (by kernel_rfl) (by simp) ?_
      refine AllReadyH.cons rfl (fun K' hK => ?_) AllReadyH.nil
      have hno := fun o => frozen_of HW4n.out o
      go_simp
      refine hK.out _ _ HS4.out (fun _ => ?_)
      clear hK K' hno hSS
      have hSS := HS4.out
      try simp only [Act.put, List.setIfInBounds_toArray, List.set_cons_zero, List.set_cons_succ, List.getElem_toArray, List.getElem_cons_zero, List.getElem_cons_succ]
      refine wpAnyH_take (i := 12) (v := ?vTk22) rfl (by kernel_rfl) (by kernel_rfl) (by kernel_rfl) (fun _ _ _ h => h) (Or.inl ⟨by rfl, ?yTk22⟩) hSS ?rTk22
      case yTk22 => (intro w' hSw; have f1 := F1.out w' hSw; have f2 := F2.out w' hSw; have f3 := F3.out w' hSw; go_simp; try with_reducible rfl)
      case rTk22 =>
      try simp only [Act.put, List.setIfInBounds_toArray, List.set_cons_zero, List.set_cons_succ, List.getElem_toArray, List.getElem_cons_zero, List.getElem_cons_succ]
      refine wpAnyH_done (by kernel_rfl) ?_ _
      have t0' := tb_cells (hSS.heap HT.out id)
      have t1' := fun o => tb_frozen (hSS.heap HT.out id) o
      have t2' := fun o => tb_frozen (hSS.heap HF.out.2.2.2.1 id) o
      obtain ⟨t3, t4, t5, t6, t7, t8, t9⟩ := t0'
      obtain ⟨r3, r4, r5, r6, r7, r8, r9⟩ := tb_cells (hSS.heap HF.out.2.2.2.1 id)
      dsimp only [t0] at t3 t4 t5 t6 t7 t8 t9 r3 r4 r5 r6 r7 r8 r9
      have nRT : R ≠ T := by have := HF.out.2.2.2.2.1; omega
      have nTR : T ≠ R := by have := HF.out.2.2.2.2.1; omega
      have HKf : Hid (Kept No w W4 ∧ w.heap.size ≤ R ∧ w.heap.size ≤ T) := ⟨HF.out.2.2.1.trans hSS, HF.out.2.2.2.2.2.2, by have := HF.out.2.2.2.2; omega⟩
      clear HS4 HW4n hSS
      cases b with
      | false =>
        clear F1 F2 F3 HB
        go_wp2_with fail
        refine bodyPost_ret (v := .tuple #[tv ⟨1, s.extract k s.size , 0, 0, ⟨#[]⟩, k, s.size ⟩, .int .i64 0]) (by simp [results, Tryz.results16, go_sem, tv, t3, t4, t5, t6, t7, t8, t9, r3, r4, r5, r6, r7, r8, r9, nRT, nTR]) rfl ⟨rfl, ?_⟩
        exact HKf.out.1.set _ _ _ (Or.inr HKf.out.2.1)|>.set _ _ _ (Or.inr HKf.out.2.1)|>.set _ _ _ (Or.inr HKf.out.2.1)|>.set _ _ _ (Or.inr HKf.out.2.1)|>.set _ _ _ (Or.inr HKf.out.2.1)|>.set _ _ _ (Or.inr HKf.out.2.1)|>.set _ _ _ (Or.inr HKf.out.2.1)
      | true =>
        clear F1 F2 F3 HB
        go_wp2_with fail
        refine bodyPost_ret (v := .tuple #[tv ⟨2, s.extract k s.size , 0, 0, ⟨#[]⟩, k, s.size ⟩, .int .i64 0]) (by simp [results, Tryz.results16, go_sem, tv, t3, t4, t5, t6, t7, t8, t9, r3, r4, r5, r6, r7, r8, r9, nRT, nTR]) rfl ⟨rfl, ?_⟩
        exact HKf.out.1.set _ _ _ (Or.inr HKf.out.2.2)|>.set _ _ _ (Or.inr HKf.out.2.1)|>.set _ _ _ (Or.inr HKf.out.2.1)|>.set _ _ _ (Or.inr HKf.out.2.1)|>.set _ _ _ (Or.inr HKf.out.2.1)|>.set _ _ _ (Or.inr HKf.out.2.1)|>.set _ _ _ (Or.inr HKf.out.2.1)|>.set _ _ _ (Or.inr HKf.out.2.1)

theorem name_any {w : World} {c : Nat} {s : ByteArray} (h : Cu w c s) (k : Nat) (hk : k < s.size) (hs : s.size ≤ 8192) :
    Calls Tryz.prog 16 #[.pointer (some ⟨c, 0, none⟩), .int .i64 (k : Int)] w fun r w' => r = .returned (.tuple #[tv (nmT s k), .int .i64 0]) ∧ Kept No w w' := by
  unfold nmT
  rw [bl_getD s hk]
  cases hl : isLt s[k] with
  | false => exact name_not h k hk hs hl
  | true => exact name_is h k hk hs hl _ rfl
end Go.Proofs.YtidokamfppdnaaaGreatDoor
