/- The document's Resize. -/
import Derived.Test.YtdaklohfecinjaaJx5
namespace Go.Proofs.Ytdaklohfecinjaa
open Go.RowKit
set_option linter.unusedSimpArgs false
set_option linter.unusedVariables false

/-- The first j cells of a block, and zeros. -/
def rsz (xs : List Int) (n j : Nat) : List Int := xs.take j ++ List.replicate (n - j) 0
theorem rsz_len {xs : List Int} {n j : Nat} (h1 : j ≤ n) (h2 : j ≤ xs.length) : (rsz xs n j).length = n := by
  unfold rsz; simp; omega
theorem rsz_set {xs : List Int} {n j : Nat} (h1 : j < n) (h2 : j < xs.length) : (rsz xs n j).set j (xs.getD j 0) = rsz xs n (j + 1) := by
  unfold rsz
  have e : n - j = (n - (j + 1)) + 1 := by omega
  rw [e, List.replicate_succ, List.set_append_right _ _ (by rw [List.length_take]; omega), List.length_take, show j - min j xs.length = 0 by omega, List.set_cons_zero]
  rw [List.take_succ_eq_append_getElem h2, List.append_assoc]
  simp [List.getD_eq_getElem?_getD, List.getElem?_eq_getElem h2]
/-- While a block's cells are copied. -/
structure CX (W2 : World) (D : Nat) (xs : List Int) (n j : Nat) (wr : World) : Prop where
  kp : Kept (Only D) W2 wr
  hd : wr.heap[D]? = some (cl (rsz xs n j))
theorem CX.step {W2 : World} {D : Nat} {xs : List Int} {n j : Nat} {wr : World} (h : CX W2 D xs n j wr) (h1 : j < n) (h2 : j < xs.length) : CX W2 D xs n (j + 1) (wr.setCell ⟨D, j, none⟩ (.int .i64 (xs.getD j 0))) := by
  refine ⟨h.kp.trans (Kept.one wr D _ _), ?_⟩
  have hl := rsz_len (Nat.le_of_lt h1) (Nat.le_of_lt h2)
  have := hp_setCells D [xs.getD j 0] j wr _ h.hd (by rw [hl]; simp; omega)
  rw [putL_cons _ _ _ _ (by rw [hl]; simp; omega), putL_nil, rsz_set h1 h2] at this
  exact this
theorem CX.cells {W2 : World} {D : Nat} {xs : List Int} {n j : Nat} {wr : World} (h : CX W2 D xs n j wr) (h1 : j < n) (h2 : j ≤ xs.length) : (∃ y, wr.cell? ⟨D, j, none⟩ = some (.int .i64 y)) ∧ wr.frozen? ⟨D, j, none⟩ = false :=
  ⟨⟨_, cl_cell h.hd (by rw [rsz_len (by omega) h2]; exact h1)⟩, cl_frozen h.hd j⟩
theorem cx_start (W : World) (xs : List Int) (n : Nat) : CX (W.alloc (cl (List.replicate n 0))) W.heap.size xs n 0 (W.alloc (cl (List.replicate n 0))) :=
  ⟨Kept.refl _ _, by rw [World.alloc_heap_new]; simp [rsz]⟩

section
variable {w : World} {B T size : Nat} {v : Value} {K : List Bk}
set_option maxHeartbeats 1000000 in
theorem RResize_none (h : Rt w B T size v K) (hb : BdK K) (x n : Int) (hx : fdI K x = -1) :
    Calls Try.prog 41 #[.pointer (some ⟨T, 0, none⟩), .int .i64 x, .int .i64 n] w fun e w' => e = .returned (.int .i64 5) ∧ w = w' := by
  have H1 : Hid _ := RFind_any h (by have := hb.1; omega) x
  rw [hx] at H1
  go_enter Try.func41, Try.ntmps41
  go_wp2_with (go_at_call 51; refine Calls.mono H1.out ?_; rintro e w' ⟨rfl, rfl⟩)
  go_ret
  exact ⟨rfl, rfl⟩
set_option maxHeartbeats 1000000 in
theorem RResize_arg (h : Rt w B T size v K) (hb : BdK K) (x n : Int) {k : Nat} (hk : k < K.length) (hx : fdI K x = k) (hn : rl n = false) :
    Calls Try.prog 41 #[.pointer (some ⟨T, 0, none⟩), .int .i64 x, .int .i64 n] w fun e w' => e = .returned (.int .i64 1) ∧ w = w' := by
  have H1 : Hid _ := RFind_any h (by have := hb.1; omega) x
  rw [hx] at H1
  have k2 : ¬ (k : Int) < 0 := by omega
  rcases rl_false hn with h0 | h0
  · have h1 : decide (n < 1) = true := decide_eq_true h0
    go_enter Try.func41, Try.ntmps41
    go_wp2_with (go_at_call 51; refine Calls.mono H1.out ?_; rintro e w' ⟨rfl, rfl⟩)
    go_ret
    exact ⟨rfl, rfl⟩
  · have h1 : decide (n < 1) = false := decide_eq_false (by omega)
    have h2 : decide (65536 < n) = true := decide_eq_true h0
    go_enter Try.func41, Try.ntmps41
    go_wp2_with (go_at_call 51; refine Calls.mono H1.out ?_; rintro e w' ⟨rfl, rfl⟩)
    go_ret
    exact ⟨rfl, rfl⟩

theorem BdK.cut {K : List Bk} (h : BdK K) (k : Nat) : BdK (K.take k ++ K.drop (k + 1)) := by
  refine ⟨?_, fun b hb => h.2 b (cut_mem hb)⟩
  have := h.1
  rw [List.length_append, List.length_take, List.length_drop]; omega

set_option maxRecDepth 20000 in
set_option maxHeartbeats 1000000 in
theorem RResize_full (h : Rt w B T size v K) (hb : BdK K) (hsz : size ≤ 65536) (x : Int) {n k : Nat} (hk : k < K.length) (hx : fdI K x = k) (hn : rl n = true) (hP : PlaceIs (K.take k ++ K.drop (k + 1)) size n (-1) 0) :
    Calls Try.prog 41 #[.pointer (some ⟨T, 0, none⟩), .int .i64 x, .int .i64 (n : Int)] w fun e w' => e = .returned (.int .i64 8) ∧ Kept No w w' := by
  have hn' := rl_true hn
  have H1 : Hid _ := RFind_any h (by have := hb.1; omega) x
  rw [hx] at H1
  have HC : Hid _ := RCut_any h.row (by have := hb.1; omega) hk
  have HR : Hid (Rt w B T size v K) := h
  have HP : Hid (BdK K ∧ PlaceIs (K.take k ++ K.drop (k + 1)) size n (-1) 0) := ⟨hb, hP⟩
  obtain ⟨c0, c1⟩ := h.cells
  obtain ⟨ao, cap, hv⟩ := h.row.form
  subst hv
  have k2 : ¬ (k : Int) < 0 := by omega
  have h0 : decide ((n : Int) < 1) = false := decide_eq_false (by omega)
  have h1 : decide ((65536 : Int) < n) = false := decide_eq_false (by omega)
  clear h hb hP hx
  go_enter Try.func41, Try.ntmps41
  go_wp2_with (first
    | (go_at_call 51; refine Calls.mono H1.out ?_; rintro e w' ⟨rfl, rfl⟩)
    | (go_at_call 68
       refine Calls.mono HC.out ?_
       rintro e w1 ⟨v', rfl, hr1, hk1⟩
       have HPl : Hid _ := RPlace_any hr1 (HP.out.1.cut k) hsz (by omega) HP.out.2
       have HK1 : Hid (Kept No w w1) := hk1
       have d0 := (HR.out.no hk1).cells.1
       obtain ⟨so, sc, rfl⟩ := hr1.form
       generalize (K.take k ++ K.drop (k + 1)).length = NN at HPl ⊢
       clear hr1 hk1)
    | (go_at_call 66
       refine Calls.mono HPl.out ?_
       rintro e w2 ⟨rfl, m, rfl⟩))
  go_ret
  exact ⟨rfl, HK1.out.drewN m⟩

set_option maxRecDepth 20000 in
set_option maxHeartbeats 4000000 in
theorem RResize_room (h : Rt w B T size v K) (hb : BdK K) (hsz : size ≤ 65536) (hB : B ≤ w.heap.size) {n k k' a : Nat} (hk : k < K.length) (hx : fdI K (K[k].h : Int) = k) (hn : rl n = true) (hk' : k' ≤ (K.take k ++ K.drop (k + 1)).length) (hP : PlaceIs (K.take k ++ K.drop (k + 1)) size n (a : Int) (k' : Int)) :
    Calls Try.prog 41 #[.pointer (some ⟨T, 0, none⟩), .int .i64 (K[k].h : Int), .int .i64 (n : Int)] w fun e w' => e = .returned (.int .i64 0) ∧
      (∃ v' d, Rt w' B T size v' ((K.take k ++ K.drop (k + 1)).take k' ++ ⟨K[k].h, a, d, rsz K[k].xs n (min n K[k].xs.length)⟩ :: (K.take k ++ K.drop (k + 1)).drop k') ∧ w.heap.size ≤ d) ∧ Kept (RF T v K) w w' := by
  have hn' := rl_true hn
  have H1 : Hid _ := RFind_any h (by have := hb.1; omega) (K[k].h : Int)
  rw [hx] at H1
  have HC : Hid _ := RCut_any h.row (by have := hb.1; omega) hk
  have HR : Hid (Rt w B T size v K) := h
  have HP : Hid (BdK K ∧ PlaceIs (K.take k ++ K.drop (k + 1)) size n (a : Int) (k' : Int)) := ⟨hb, hP⟩
  have HK' : Hid (k' ≤ (K.take k ++ K.drop (k + 1)).length) := hk'
  have HRl : Hid ((K.take k ++ K.drop (k + 1)).length ≤ 65536) := (hb.cut k).1
  have HM : Hid (∀ b ∈ K.take k ++ K.drop (k + 1), b ∈ K) := fun b hb => cut_mem hb
  have HN : Hid (((K.take k ++ K.drop (k + 1)).map Bk.d).Nodup) := cut_d h.nod
  obtain ⟨c0, c1⟩ := h.cells
  obtain ⟨g, cap, hv, _, _, _⟩ := h.blk hk
  have hKl := hb.1
  have hab := hb.2 _ (List.getElem_mem hk)
  have k1 : (k : Int) < (K.length : Int) := by omega
  have k2 : ¬ (k : Int) < 0 := by omega
  have h0 : decide ((n : Int) < 1) = false := decide_eq_false (by omega)
  have h1 : decide ((65536 : Int) < n) = false := decide_eq_false (by omega)
  have a2 : ¬ (a : Int) < 0 := by omega
  have hmk := run_mk n (by omega)
  obtain ⟨xs, HX⟩ : ∃ xs, Hid (K[k].xs = xs) := ⟨_, show _ = _ from rfl⟩
  obtain ⟨dd, HD⟩ : ∃ d, Hid (K[k].d = d) := ⟨_, show _ = _ from rfl⟩
  obtain ⟨hh, HH⟩ : ∃ d, Hid (K[k].h = d) := ⟨_, show _ = _ from rfl⟩
  have HL : Hid (∀ W, Kept No w W → Rt W B T size v K ∧ W.cell? ⟨T, 1, none⟩ = some (.slice (some ⟨g, 0, none⟩) K.length cap) ∧ W.cell? ⟨g, k * 3 + 2, none⟩ = some (.slice (some ⟨dd, 0, none⟩) xs.length xs.length) ∧ W.heap[dd]? = some (cl xs)) := fun W hW => by
    have hR := HR.out.no hW
    have hc := hR.cells.2
    rw [hv] at hc
    obtain ⟨g', cap', e, _, _, h2⟩ := hR.blk hk
    rw [hv] at e
    injection e with e1 e2 e3
    injection e1 with e1
    injection e1 with e1
    subst e1
    rw [HX.out, HD.out] at h2
    have hd := (hR.dat _ (List.getElem_mem hk)).1
    rw [HX.out, HD.out] at hd
    exact ⟨hR, hc, h2, hd⟩
  rw [hv] at c1
  have HVF : Hid (v = .slice (some ⟨g, 0, none⟩) K.length cap) := hv
  rw [HX.out] at hab
  rw [HH.out] at H1
  rw [HX.out, HH.out]
  clear h hb hP hx hk' HX HD HH
  obtain ⟨R, HRR⟩ : ∃ R, Hid (K.take k ++ K.drop (k + 1) = R) := ⟨_, show _ = _ from rfl⟩
  rw [HRR.out] at HC HP HK' HRl HM HN
  rw [HRR.out]
  clear HRR
  have HBd : Hid (BdK R) := ⟨HRl.out, fun b hb => HP.out.1.2 b (HM.out b hb)⟩
  rw [hv] at HC
  clear hv
  go_enter Try.func41, Try.ntmps41
  go_wp2_with (first
    | (go_at_call 51; refine Calls.mono H1.out ?_; rintro e w' ⟨rfl, rfl⟩)
    | (go_at_call 68
       refine Calls.mono HC.out ?_
       rintro e w1 ⟨v', rfl, hr1, hk1⟩
       have HPl : Hid _ := RPlace_any hr1 HBd.out hsz (by omega) HP.out.2
       have HK1 : Hid (Kept No w w1 ∧ BRow w1 w.heap.size v' R) := ⟨hk1, hr1⟩
       have d0 := (HR.out.no hk1).cells.1
       obtain ⟨so, sc, e1⟩ := hr1.form
       obtain ⟨NN, hNN⟩ : ∃ NN, Hid (R.length = NN) := ⟨_, show _ = _ from rfl⟩
       rw [hNN.out] at e1
       subst e1
       clear hr1 hk1)
    | (go_at_call 66
       refine Calls.mono HPl.out ?_
       rintro e w2 ⟨rfl, m, rfl⟩
       have HK2 : Hid (Kept No w (w1.drewN m) ∧ BRow (w1.drewN m) w.heap.size (.slice so NN sc) R) := ⟨HK1.out.1.drewN m, HK1.out.2.no ((Kept.refl No w1).drewN m)⟩
       clear HK1 HPl d0 c0 c1
       generalize w1.drewN m = W at HK2 ⊢))
  have hW := HK2.out.1.size
  obtain ⟨D, HDD⟩ : ∃ D, Hid (W.heap.size = D) := ⟨_, show _ = _ from rfl⟩
  have HI0 : Hid (CX (W.alloc (cl (List.replicate n 0))) D xs n 0 (W.alloc (cl (List.replicate n 0)))) := by have := cx_start W xs n; rw [HDD.out] at this; exact this
  have HK3 : Hid (Kept No w (W.alloc (cl (List.replicate n 0)))) := HK2.out.1.alloc _
  have HB3 : Hid (BRow (W.alloc (cl (List.replicate n 0))) w.heap.size (.slice so NN sc) R) := HK2.out.2.no ((Kept.refl No W).alloc _)
  have HDF : Hid (∀ b ∈ K, b.d ≠ D) := fun b hb => by have := hp_lt (HR.out.dat b hb).1; rw [HDD.out] at hW; omega
  have HD2 : Hid (∃ ys, (W.alloc (cl (List.replicate n 0))).heap[D]? = some (cl ys)) := ⟨_, HI0.out.hd⟩
  rw [HDD.out] at hW ⊢
  clear HDD HK2
  generalize W.alloc (cl (List.replicate n 0)) = W2 at HI0 HK3 HB3 HD2 ⊢
  go_loopw [12] (fun i wr => ∃ j : Nat, j ≤ n ∧ j ≤ xs.length ∧ i = .int .i64 j ∧ Hid (CX W2 D xs n j wr)) (fun i _ => n - (intOf i).toNat)
  case atStart => exact ⟨0, Nat.zero_le _, Nat.zero_le _, rfl, HI0.out⟩
  case round =>
    clear HI0
    obtain ⟨j, j1, j2, rfl, HI⟩ := hrel
    have HKr : Hid (Kept No w wr) := HK3.out.trans' HI.out.kp (fun i e => .inr (by have : i = D := e; omega))
    obtain ⟨hRr, c1, d2, hdd⟩ := HL.out wr HKr.out
    have HRr : Hid (Rt wr B T size v K) := hRr
    have HDx : Hid (wr.heap[dd]? = some (cl xs)) := hdd
    clear hRr hdd
    by_cases hlt : j < n ∧ j < xs.length
    · obtain ⟨hl1, hl2⟩ := hlt
      have e1 : decide ((j : Int) < (n : Int)) = true := decide_eq_true (by omega)
      have e2 : decide ((j : Int) < (xs.length : Int)) = true := decide_eq_true (by omega)
      have e3 : (j : Int) < (xs.length : Int) := by omega
      have e4 : (j : Int) < (n : Int) := by omega
      have d3 := cl_cell HDx.out hl2
      obtain ⟨⟨y0, d4⟩, d5⟩ := HI.out.cells hl1 (by omega)
      have HN2 : Hid (CX W2 D xs n (j + 1) (wr.setCell ⟨D, j, none⟩ (.int .i64 (xs.getD j 0)))) := HI.out.step hl1 hl2
      generalize xs.getD j 0 = y at d3 HN2
      clear HRr HDx HI HKr
      go_wp2
      go_round
      case rel => exact ⟨j + 1, by omega, by omega, by go_num, HN2⟩
      case measure => simp [intOf] <;> omega
    · have HJ : Hid (j = min n xs.length) := by show _ = _; omega
      have HBr : Hid (BRow wr w.heap.size (.slice so NN sc) R) := HB3.out.kept HI.out.kp (fun g hg => by obtain ⟨ys, hy⟩ := HD2.out; exact HB3.out.ne hg hy (by decide))
      have HPut : Hid _ := RPut_any HBr.out (by have := HRl.out; omega) HK'.out ⟨hh, a, D, rsz xs n j⟩
      have HDr : Hid (wr.heap[D]? = some (cl (rsz xs n j))) := HI.out.hd
      unfold dv at HPut
      dsimp only at HPut
      rw [rsz_len j1 j2] at HPut
      clear HI HDx
      have fin : ∀ (w5 : World) (v5 : Value), BRow w5 wr.heap.size v5 (R.take k' ++ ⟨hh, a, D, rsz xs n j⟩ :: R.drop k') → Kept No wr w5 →
          (∃ v' d, Rt (w5.setCell ⟨T, 1, none⟩ v5) B T size v' (R.take k' ++ ⟨hh, a, d, rsz xs n (min n xs.length)⟩ :: R.drop k') ∧ w.heap.size ≤ d) ∧ Kept (RF T v K) w (w5.setCell ⟨T, 1, none⟩ v5) := fun w5 v5 h5 k5 => by
        rw [← HJ.out]
        have hres := HRr.out.renew k5 h5 (by have := HKr.out.size; omega) (fun b hb => by
          rcases put_mem hb with rfl | hb
          · exact ⟨k5.heap HDr.out id, by show B ≤ D; omega⟩
          · exact ⟨k5.heap (HRr.out.dat b (HM.out b hb)).1 id, (HRr.out.dat b (HM.out b hb)).2⟩) (put_d HN.out (fun e => by
          obtain ⟨b, hb, e⟩ := List.mem_map.1 e
          exact HDF.out b (HM.out b hb) e))
        exact ⟨⟨v5, D, hres.1, by omega⟩, HKr.out.no.trans hres.2⟩
      have HFin : Hid _ := fin
      have HF5 : Hid (∀ w5, Kept No wr w5 → w5.cell? ⟨T, 1, none⟩ = some (.slice (some ⟨g, 0, none⟩) K.length cap) ∧ w5.frozen? ⟨T, 1, none⟩ = false) := fun w5 k5 => by
        have := (HRr.out.no k5).cells.2
        rw [HVF.out] at this
        exact ⟨this, frozen_of (HRr.out.no k5).hT 1⟩
      clear fin HRr HJ
      by_cases hjn : j < n
      · have e1 : decide ((j : Int) < (n : Int)) = true := decide_eq_true (by omega)
        have e2 : decide ((j : Int) < (xs.length : Int)) = false := decide_eq_false (by omega)
        go_wp2_with
          (go_at_call 67
           refine Calls.mono HPut.out ?_
           rintro e w5 ⟨v5, rfl, h5, k5⟩
           obtain ⟨d5, f5⟩ := HF5.out w5 k5
           have H5 : Hid _ := HFin.out w5 v5 h5 k5
           obtain ⟨s5, c5, e5⟩ := h5.form
           generalize (R.take k' ++ (⟨hh, a, D, rsz xs n j⟩ : Bk) :: R.drop k').length = N5 at e5
           clear h5 k5
           subst e5)
        go_ret
        exact ⟨rfl, H5.out.1, H5.out.2⟩
      · have e1 : decide ((j : Int) < (n : Int)) = false := decide_eq_false (by omega)
        go_wp2_with
          (go_at_call 67
           refine Calls.mono HPut.out ?_
           rintro e w5 ⟨v5, rfl, h5, k5⟩
           obtain ⟨d5, f5⟩ := HF5.out w5 k5
           have H5 : Hid _ := HFin.out w5 v5 h5 k5
           obtain ⟨s5, c5, e5⟩ := h5.form
           generalize (R.take k' ++ (⟨hh, a, D, rsz xs n j⟩ : Bk) :: R.drop k').length = N5 at e5
           clear h5 k5
           subst e5)
        go_ret
        exact ⟨rfl, H5.out.1, H5.out.2⟩
end
end Go.Proofs.Ytdaklohfecinjaa
