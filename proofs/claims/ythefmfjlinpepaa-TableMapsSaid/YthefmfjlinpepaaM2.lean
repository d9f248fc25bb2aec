/- TableMaps: the walk. -/
import Derived.Test.YthefmfjlinpepaaM1
namespace Go.Proofs.Ythefmfjlinpepaa
open Go.RowKit Go.Shelf
set_option linter.unusedSimpArgs false
set_option linter.unusedVariables false
attribute [local go_sem] Oper.semAt_some

/-- The value wanted, if the key is one. -/
def wvR (ib : Bool) (own : Int × Int) (L : List Ac) : Int × Int := if ib = true then wantR own L else (0, 0)
theorem wvR_skip {ib : Bool} {own : Int × Int} {L : List Ac} {x : Ac} (h : ¬ (x.kind = 1 ∧ keyB x.k.1 x.k.2 = true ∧ kyP x.k = own ∧ x.v.1 ≠ 11)) : wvR ib own (L ++ [x]) = wvR ib own L := by
  unfold wvR; rw [wantR_snoc, if_neg h]
theorem wvR_no {own : Int × Int} {L L' : List Ac} : wvR false own L = wvR false own L' := rfl
theorem wvR_take {own : Int × Int} {L : List Ac} {x : Ac} (h : x.kind = 1 ∧ keyB x.k.1 x.k.2 = true ∧ kyP x.k = own ∧ x.v.1 ≠ 11) : wvR true own (L ++ [x]) = x.v := by
  unfold wvR; rw [wantR_snoc, if_pos h]; rfl

/-- The table and the three boxes. -/
structure MB (w W0 : World) (P : Nat) (a n : Nat) (sl : Sl) (b : Nat) (k o wv : Int × Int) (Bw Bo : Nat) (W : World) : Prop where
  re : Re W0 W P 400 a n sl b
  bk : W.heap[w.heap.size]? = some (.cells #[.int .i64 k.1, .int .i64 k.2] 33 (0, 0))
  bw : W.heap[Bw]? = some (.cells #[.int .i64 wv.1, .int .i64 wv.2] 33 (0, 0))
  bo : W.heap[Bo]? = some (.cells #[.int .i64 o.1, .int .i64 o.2] 33 (0, 0))
  ne : w.heap.size < Bw ∧ Bw < Bo
section
variable {w W0 : World} {P : Nat} {a n : Nat} {sl : Sl} {b : Nat} {k o wv : Int × Int} {Bw Bo : Nat} {W W' : World}
theorem MB.no (h : MB w W0 P a n sl b k o wv Bw Bo W) (hk : Kept No W W') : MB w W0 P a n sl b k o wv Bw Bo W' := ⟨h.re.no hk, hk.heap h.bk id, hk.heap h.bw id, hk.heap h.bo id, h.ne⟩
theorem MB.cells (h : MB w W0 P a n sl b k o wv Bw Bo W) : W.cell? ⟨w.heap.size, 0, none⟩ = some (.int .i64 k.1) ∧ W.cell? ⟨w.heap.size, 1, none⟩ = some (.int .i64 k.2) ∧ W.cell? ⟨Bw, 0, none⟩ = some (.int .i64 wv.1) ∧ W.cell? ⟨Bw, 1, none⟩ = some (.int .i64 wv.2) ∧ W.cell? ⟨Bo, 0, none⟩ = some (.int .i64 o.1) ∧ W.cell? ⟨Bo, 1, none⟩ = some (.int .i64 o.2) ∧ ∀ i, W.frozen? ⟨Bw, i, none⟩ = false := by
  refine ⟨?_, ?_, ?_, ?_, ?_, ?_, frozen_of h.bw⟩
  · rw [cell_of h.bk]; rfl
  · rw [cell_of h.bk]; rfl
  · rw [cell_of h.bw]; rfl
  · rw [cell_of h.bw]; rfl
  · rw [cell_of h.bo]; rfl
  · rw [cell_of h.bo]; rfl
theorem MB.setw (h : MB w W0 P a n sl b k o wv Bw Bo W) (hB : W0.heap.size ≤ Bw) {y1 y2 : Int} : MB w W0 P a n sl b k o (y1, y2) Bw Bo ((W.setCell ⟨Bw, 0, none⟩ (.int .i64 y1)).setCell ⟨Bw, 1, none⟩ (.int .i64 y2)) := by
  obtain ⟨nn, hnn, ht⟩ := h.re.tb
  have hne := h.ne
  have hk : Kept (fun q => q = Bw) W ((W.setCell ⟨Bw, 0, none⟩ (.int .i64 y1)).setCell ⟨Bw, 1, none⟩ (.int .i64 y2)) := ((Kept.refl (fun q => q = Bw) W).set _ 0 _ (.inl rfl)).set _ 1 _ (.inl rfl)
  have hnf : ¬ FP W P Bw := fun hq => by
    rcases ht.kinds Bw hq with ⟨c', e', f', h1, h2⟩ | ⟨es, c', h1⟩
    · rw [h.bw] at h1; cases h1; cases h2
    · rw [h.bw] at h1; cases h1
  refine ⟨⟨⟨nn, hnn, ht.kept hk (fun q hq e => hnf (by rw [← e]; exact hq))⟩, fun q hq => ?_, (h.re.kp.set _ 0 _ (.inr hB)).set _ 1 _ (.inr hB), h.re.is⟩, hk.heap h.bk (by omega), hp_set_same (hp_set_same h.bw 0 _) 1 _, hk.heap h.bo (by omega), hne⟩
  apply h.re.fp
  rcases hq with rfl | ⟨m', a2, n2, e⟩
  · exact .inl rfl
  · have : q ≠ Bw → True := fun _ => trivial
    have hP : P ≠ Bw := fun e => hnf (.inl e.symm)
    rw [hk.block P ht.lt hP] at e
    exact .inr ⟨_, _, _, e⟩
end

set_option maxRecDepth 100000 in
set_option maxHeartbeats 8000000 in
theorem TableMaps_any (v : Value) (L : List Ac) (k1 k2 : Int) (w : World) (hL : Acts w v L) (_ : I64 k1) (hk2 : I64 k2) :
    Calls Try.prog 4 #[v, AV k1 k2] w fun e w' => e = .returned (.bool true) ∧ Kept No w w' := by
  obtain ⟨W0, HW0⟩ : ∃ W0, Hid (W0 = w.alloc (.cells #[.int .i64 k1, .int .i64 k2] 33)) := ⟨_, show _ = _ from rfl⟩
  have HK0 : Hid (Kept No w W0) := by show Kept _ _ _; rw [HW0.out]; exact (Kept.refl _ _).alloc _
  have HB0 : Hid (W0.heap[w.heap.size]? = some (.cells #[.int .i64 k1, .int .i64 k2] 33 (0, 0)) ∧ w.heap.size < W0.heap.size) := by refine ⟨?_, ?_⟩ <;> rw [HW0.out]; exact heap_new1 w _; simp
  have HM : Hid (Calls Try.prog 16 #[v] W0 fun e w' => e = .returned (MP W0.heap.size) ∧ ReS W0 w' W0.heap.size 400 (playR 400 (L.take 80)) 40000) := made_any v L W0 (hL.kept HK0.out)
  obtain ⟨ib, HIb⟩ : ∃ ib, Hid (ib = keyB k1 k2) := ⟨_, show _ = _ from rfl⟩
  obtain ⟨o, HO⟩ : ∃ o, Hid (o = rkV k1 k2) := ⟨_, show _ = _ from rfl⟩
  have HFin : Hid (∀ j, j ≤ 80 → L.take j = L.take 80 → (∀ x ∈ L.take j, x.kind = 1 → plB x.v.1 x.v.2 = true) → getR (playR 400 (L.take 80)).1 (playR 400 (L.take 80)).2.1 (playR 400 (L.take 80)).2.2 k1 k2 = wvR ib o (L.take j)) := by
    intro j hj e hp
    rw [getR_gv]
    unfold wvR
    rw [← HIb.out, HO.out]
    cases hb : ib
    · rfl
    · rw [if_pos rfl, if_pos rfl]
      have hkb : keyB k1 k2 = true := by rw [← HIb.out]; exact hb
      have e2 : rkV k1 k2 = kyP (k1, k2) := by unfold rkV; rw [if_pos hkb]
      rw [e2, ← e]
      exact (play_gets L (kyP (k1, k2)) (kyP_nk hkb) j hj hp).2
  have HRK0 : Hid (∀ W, Calls Try.prog 17 #[AV k1 k2] W fun e w' => e = .returned (.tuple #[iV o, .bool ib]) ∧ Below W.heap.size W w') := by
    intro W; rw [HIb.out, HO.out]; exact RK_any k1 k2 W
  clear HIb HO
  obtain ⟨o1, o2⟩ := o
  obtain ⟨ao, cap, rfl, -, hcl⟩ := hL
  have HC : Hid (0 < L.length → ∃ b off, ao = some ⟨b, off, none⟩ ∧ ∀ i a, L[i]? = some a →
    w.cell? ⟨b, off + i * 6, none⟩ = some (.int .i64 a.kind) ∧ w.cell? ⟨b, off + i * 6 + 1, none⟩ = some (.int .i64 a.k.1) ∧ w.cell? ⟨b, off + i * 6 + 2, none⟩ = some (.int .i64 a.k.2) ∧ w.cell? ⟨b, off + i * 6 + 3, none⟩ = some (.int .i64 a.v.1) ∧ w.cell? ⟨b, off + i * 6 + 4, none⟩ = some (.int .i64 a.v.2) ∧ w.cell? ⟨b, off + i * 6 + 5, none⟩ = some (.int .i64 a.i)) := hcl
  clear hcl
  generalize playR 400 (L.take 80) = s at HM HFin
  obtain ⟨a, n, sl⟩ := s
  have HM' : Hid (Calls Try.prog 16 #[.slice ao L.length cap] W0 fun e w' => e = .returned (MP W0.heap.size) ∧ Re W0 w' W0.heap.size 400 a n sl 40000) := HM.out
  have HX : Hid (I64 k2) := hk2
  clear HM hk2
  simp only at HFin
  go_enter Try.func4, Try.ntmps4
  go_wp2_with fail
  rw [← HW0.out]
  refine HM'.out.mono ?_
  rintro e w1 ⟨rfl, h1⟩
  have R1 : Hid (Re W0 w1 W0.heap.size 400 a n sl 40000 ∧ w1.heap[w.heap.size]? = some (.cells #[.int .i64 k1, .int .i64 k2] 33 (0, 0))) := ⟨h1, h1.kp.heap HB0.out.1 id⟩
  have HBw : Hid (W0.heap.size ≤ w1.heap.size) := h1.kp.size
  have d0 : w1.cell? ⟨w.heap.size, 0, none⟩ = some (.int .i64 k1) := by rw [cell_of R1.out.2]; rfl
  have d1 : w1.cell? ⟨w.heap.size, 1, none⟩ = some (.int .i64 k2) := by rw [cell_of R1.out.2]; rfl
  have hlt0 := hp_lt R1.out.2
  clear h1 HM' HW0
  go_wp2_with fail
  refine (HRK0.out _).mono ?_
  rintro e w2 ⟨rfl, hb2⟩
  have hk2 := Kept.of_below hb2
  have hz2 : w1.heap.size + 1 ≤ w2.heap.size := by have := hk2.size; simp at this; omega
  have R2 : Hid (MB w W0 W0.heap.size a n sl 40000 (k1, k2) (o1, o2) (wvR ib (o1, o2) (L.take 0)) w1.heap.size w2.heap.size (w2.alloc (.cells #[.int .i64 o1, .int .i64 o2] 33))) := by
    have e : wvR ib (o1, o2) (L.take 0) = (0, 0) := by rw [List.take_zero]; unfold wvR; cases ib <;> rfl
    show MB _ _ _ _ _ _ _ _ _ _ _ _ _
    rw [e]
    refine ⟨((R1.out.1.no ((Kept.refl _ _).alloc _)).no hk2).no ((Kept.refl _ _).alloc _), heap_old (hk2.heap (heap_old R1.out.2 _) id) _, heap_old (hk2.heap (heap_new1 _ _) id) _, heap_new1 _ _, ?_, ?_⟩
    · exact hlt0
    · omega
  clear hb2 hk2 hz2 R1 d0 d1 hlt0 HRK0
  go_wp2_with fail
  generalize w2.alloc _ = w3 at R2 ⊢
  generalize w2.heap.size = Bo at R2 ⊢
  generalize w1.heap.size = Bw at R2 HBw ⊢
  go_loopw [9] (fun i wr => ∃ j : Nat, j ≤ L.length ∧ j ≤ 80 ∧ i = .int .i64 j ∧ Hid (∀ x ∈ L.take j, x.kind = 1 → plB x.v.1 x.v.2 = true) ∧ Hid (MB w W0 W0.heap.size a n sl 40000 (k1, k2) (o1, o2) (wvR ib (o1, o2) (L.take j)) Bw Bo wr)) (fun i _ => L.length - (intOf i).toNat)
  case atStart => exact ⟨0, Nat.zero_le _, by omega, rfl, fun x hx => by simp at hx, R2.out⟩
  case round =>
    obtain ⟨j, hj, hj8, rfl, HPl, R5⟩ := hrel
    obtain ⟨p0, p1, p2, p3, p4, p5, pf⟩ := R5.out.cells
    by_cases hlt : j < L.length
    · have k1' : (0 : Int) ≤ (j : Int) := by omega
      have k2' : (j : Int) < (L.length : Int) := by omega
      by_cases h80 : j < 80
      · have k3' : (j : Int) < 80 := by omega
        clear p0 p1 p2 p3 p4 p5 pf
        obtain ⟨b, off, rfl, hcell⟩ := HC.out (by omega)
        obtain ⟨x, hx⟩ : ∃ x, L[j]? = some x := ⟨L[j]'hlt, List.getElem?_eq_getElem _⟩
        obtain ⟨c0, c1, c2, c3, c4, c5⟩ := hcell j x hx
        have hkk := HK0.out.trans R5.out.re.kp
        have d0 := hkk.cell c0
        have d1 := hkk.cell c1
        have d2 := hkk.cell c2
        have d3 := hkk.cell c3
        have d4 := hkk.cell c4
        have HTk : Hid (L.take (j + 1) = L.take j ++ [x]) := by show _ = _; rw [List.take_add_one, hx]; rfl
        have HPl2' : Hid (((x.kind = 1 → plB x.v.1 x.v.2 = true)) → ∀ y ∈ L.take (j + 1), y.kind = 1 → plB y.v.1 y.v.2 = true) := by
          intro hx1 y hy
          rw [HTk.out, List.mem_append] at hy
          rcases hy with hy | hy
          · exact HPl.out y hy
          · simp only [List.mem_singleton] at hy; subst hy; exact hx1
        have HD : Hid (∀ W, Kept No wr W → W.cell? ⟨b, off + j * 6, none⟩ = some (.int .i64 x.kind) ∧ W.cell? ⟨b, off + j * 6 + 1, none⟩ = some (.int .i64 x.k.1) ∧ W.cell? ⟨b, off + j * 6 + 2, none⟩ = some (.int .i64 x.k.2) ∧ W.cell? ⟨b, off + j * 6 + 3, none⟩ = some (.int .i64 x.v.1) ∧ W.cell? ⟨b, off + j * 6 + 4, none⟩ = some (.int .i64 x.v.2)) := fun W hW => ⟨hW.cell d0, hW.cell d1, hW.cell d2, hW.cell d3, hW.cell d4⟩
        obtain ⟨kd, ⟨x1, x2⟩, ⟨y1, y2⟩, ii⟩ := x
        simp only at d0 d1 d2 d3 d4 HD HPl2'
        clear hcell c0 c1 c2 c3 c4 c5 hkk hx
        have HRK := RK_any x1 x2
        have HZ : Hid (keyB x1 x2 = true → rkV x1 x2 = kyP (x1, x2)) := fun h => by unfold rkV; rw [if_pos h]
        have HMb : Hid (∀ bb, keyB x1 x2 = bb → keyB x1 x2 = bb) := fun _ h => h
        obtain ⟨mb, hmb⟩ : ∃ mb, mb = keyB x1 x2 := ⟨_, rfl⟩
        have HMB : Hid (mb = keyB x1 x2) := hmb
        rw [← hmb] at HRK HZ
        obtain ⟨z, hz⟩ : ∃ z, z = rkV x1 x2 := ⟨_, rfl⟩
        rw [← hz] at HRK HZ
        obtain ⟨z1, z2⟩ := z
        have HRK' : Hid (∀ W, Calls Try.prog 17 #[AV x1 x2] W fun e w' => e = .returned (.tuple #[iV (z1, z2), .bool mb]) ∧ Below W.heap.size W w') := HRK
        clear hmb hz HRK HMb
        go_wp2_with fail
        refine (HRK'.out _).mono ?_
        rintro e w6 ⟨rfl, hb6⟩
        have hk6 := Kept.of_below hb6
        have RX : Hid (MB w W0 W0.heap.size a n sl 40000 (k1, k2) (o1, o2) (wvR ib (o1, o2) (L.take j)) Bw Bo (w6.alloc (.cells #[.int .i64 z1, .int .i64 z2] 33))) := (R5.out.no hk6).no ((Kept.refl _ _).alloc _)
        have hk7 : Kept No wr (w6.alloc (.cells #[.int .i64 z1, .int .i64 z2] 33)) := hk6.trans ((Kept.refl _ _).alloc _)
        have HBz : Hid ((w6.alloc (.cells #[.int .i64 z1, .int .i64 z2] 33)).heap[w6.heap.size]? = some (.cells #[.int .i64 z1, .int .i64 z2] 33 (0, 0))) := heap_new1 _ _
        clear hb6 hk6 HRK' R5 d0 d1 d2 d3 d4
        obtain ⟨W7, hW7⟩ : ∃ W7, W7 = w6.alloc (.cells #[.int .i64 z1, .int .i64 z2] 33) := ⟨_, rfl⟩
        have d0 := (HD.out _ hk7).1
        have d1 := (HD.out _ hk7).2.1
        have d3 := (HD.out _ hk7).2.2.2.1
        have d4 := (HD.out _ hk7).2.2.2.2
        have hlt7 : b < w6.heap.size ∨ True := .inr trivial
        have HD7 : Hid (∀ W, Kept No W7 W → W.cell? ⟨b, off + j * 6, none⟩ = some (.int .i64 kd) ∧ W.cell? ⟨b, off + j * 6 + 3, none⟩ = some (.int .i64 y1) ∧ W.cell? ⟨b, off + j * 6 + 4, none⟩ = some (.int .i64 y2) ∧ W.heap[w6.heap.size]? = some (.cells #[.int .i64 z1, .int .i64 z2] 33 (0, 0))) := fun W hW => by
          rw [hW7] at hW
          exact ⟨hW.cell d0, hW.cell d3, hW.cell d4, hW.heap HBz.out id⟩
        by_cases hkd : kd = 1
        case neg =>
          have hkd' : (kd == 1) = false := by simpa using hkd
          have HPl2 : Hid (∀ y ∈ L.take (j + 1), y.kind = 1 → plB y.v.1 y.v.2 = true) := HPl2'.out (fun h => absurd h hkd)
          have HX2 : Hid (MB w W0 W0.heap.size a n sl 40000 (k1, k2) (o1, o2) (wvR ib (o1, o2) (L.take (j + 1))) Bw Bo (w6.alloc (.cells #[.int .i64 z1, .int .i64 z2] 33))) := by
            have e : wvR ib (o1, o2) (L.take (j + 1)) = wvR ib (o1, o2) (L.take j) := by
              rw [HTk.out]
              exact wvR_skip (fun h => hkd h.1)
            show MB _ _ _ _ _ _ _ _ _ _ _ _ _
            rw [e]; exact RX.out
          clear RX HTk
          go_wp2
          go_roundw
          case rel => exact ⟨j + 1, by omega, by omega, by go_num, HPl2.out, HX2.out⟩
          case measure => simp [intOf]; omega
        subst hkd
        go_wp2_with fail
        rw [← hW7] at RX ⊢
        clear d0 d1 d3 d4 hW7 hk7 HBz
        refine (plain_any y1 y2 _).mono ?_
        rintro e w8 ⟨rfl, hb8⟩
        have hk8 := Kept.of_below hb8
        have RX2 : Hid (MB w W0 W0.heap.size a n sl 40000 (k1, k2) (o1, o2) (wvR ib (o1, o2) (L.take j)) Bw Bo w8) := RX.out.no hk8
        obtain ⟨d0, d3, d4, hbz⟩ := HD7.out _ hk8
        have z0 : w8.cell? ⟨w6.heap.size, 0, none⟩ = some (.int .i64 z1) := by rw [cell_of hbz]; rfl
        have z1' : w8.cell? ⟨w6.heap.size, 1, none⟩ = some (.int .i64 z2) := by rw [cell_of hbz]; rfl
        obtain ⟨p0, p1, p2, p3, p4, p5, pf⟩ := RX2.out.cells
        clear RX hb8 hk8 HD7 HD hbz
        have RX := RX2
        clear RX2
        generalize w6.heap.size = Bz at z0 z1' ⊢
        cases hpl : plB y1 y2
        case false =>
          go_wp2_with fail
          refine (alive_any _).mono ?_
          rintro e wE ⟨rfl, hkE⟩
          have HE : Hid (Kept No w wE) := HK0.out.trans (RX.out.re.kp.trans hkE)
          clear hkE
          go_wp2
          go_ret
          exact ⟨rfl, HE.out⟩
        have HPl2 : Hid (∀ y ∈ L.take (j + 1), y.kind = 1 → plB y.v.1 y.v.2 = true) := HPl2'.out (fun _ => hpl)
        clear hpl HPl2'
        cases mb
        case false =>
          have HX2 : Hid (MB w W0 W0.heap.size a n sl 40000 (k1, k2) (o1, o2) (wvR ib (o1, o2) (L.take (j + 1))) Bw Bo w8) := by
            have e : wvR ib (o1, o2) (L.take (j + 1)) = wvR ib (o1, o2) (L.take j) := by
              rw [HTk.out]
              exact wvR_skip (fun h => by rw [← HMB.out] at h; cases h.2.1)
            show MB _ _ _ _ _ _ _ _ _ _ _ _ _
            rw [e]; exact RX.out
          clear RX HTk
          go_wp2
          go_roundw
          case rel => exact ⟨j + 1, by omega, by omega, by go_num, HPl2.out, HX2.out⟩
          case measure => simp [intOf]; omega
        cases ib
        case false =>
          have HX2 : Hid (MB w W0 W0.heap.size a n sl 40000 (k1, k2) (o1, o2) (wvR false (o1, o2) (L.take (j + 1))) Bw Bo w8) := by
            have e : wvR false (o1, o2) (L.take (j + 1)) = wvR false (o1, o2) (L.take j) := by
              rw [HTk.out]
              exact wvR_no
            show MB _ _ _ _ _ _ _ _ _ _ _ _ _
            rw [e]; exact RX.out
          clear RX HTk
          go_wp2
          go_roundw
          case rel => exact ⟨j + 1, by omega, by omega, by go_num, HPl2.out, HX2.out⟩
          case measure => simp [intOf]; omega
        by_cases hq : (z1, z2) = (o1, o2)
        case neg =>
          have heq : ∀ w, (Op.equalIn 10000 33 (.agg #[.int .i64 z1, .int .i64 z2]) (.agg #[.int .i64 o1, .int .i64 o2])).run Try.prog w = .ok false w := fun w => (eq33 z1 z2 o1 o2 w).trans (by rw [decide_eq_false hq])
          have HX2 : Hid (MB w W0 W0.heap.size a n sl 40000 (k1, k2) (o1, o2) (wvR true (o1, o2) (L.take (j + 1))) Bw Bo w8) := by
            have e : wvR true (o1, o2) (L.take (j + 1)) = wvR true (o1, o2) (L.take j) := by
              rw [HTk.out]
              exact wvR_skip (fun h => hq (by rw [HZ.out rfl]; exact h.2.2.1))
            show MB _ _ _ _ _ _ _ _ _ _ _ _ _
            rw [e]; exact RX.out
          clear RX HTk
          go_wp2
          go_roundw
          case rel => exact ⟨j + 1, by omega, by omega, by go_num, HPl2.out, HX2.out⟩
          case measure => simp [intOf]; omega
        have heq : ∀ w, (Op.equalIn 10000 33 (.agg #[.int .i64 z1, .int .i64 z2]) (.agg #[.int .i64 o1, .int .i64 o2])).run Try.prog w = .ok true w := fun w => (eq33 z1 z2 o1 o2 w).trans (by rw [decide_eq_true hq])
        have HQ : Hid ((z1, z2) = (o1, o2)) := hq
        clear hq
        by_cases h11 : y1 = 11
        case pos =>
          have h11' : (y1 == 11) = true := by simpa using h11
          have h11'' : (y1 != 11) = false := by simpa using h11
          have HX2 : Hid (MB w W0 W0.heap.size a n sl 40000 (k1, k2) (o1, o2) (wvR true (o1, o2) (L.take (j + 1))) Bw Bo w8) := by
            have e : wvR true (o1, o2) (L.take (j + 1)) = wvR true (o1, o2) (L.take j) := by
              rw [HTk.out]
              exact wvR_skip (fun h => h.2.2.2 h11)
            show MB _ _ _ _ _ _ _ _ _ _ _ _ _
            rw [e]; exact RX.out
          clear RX HTk
          go_wp2
          go_roundw
          case rel => exact ⟨j + 1, by omega, by omega, by go_num, HPl2.out, HX2.out⟩
          case measure => simp [intOf]; omega
        have h11' : (y1 == 11) = false := by simpa using h11
        have h11'' : (y1 != 11) = true := by simpa using h11
        have HX2 : Hid (MB w W0 W0.heap.size a n sl 40000 (k1, k2) (o1, o2) (wvR true (o1, o2) (L.take (j + 1))) Bw Bo ((w8.setCell ⟨Bw, 0, none⟩ (.int .i64 y1)).setCell ⟨Bw, 1, none⟩ (.int .i64 y2))) := by
          have e : wvR true (o1, o2) (L.take (j + 1)) = (y1, y2) := by
            rw [HTk.out]
            exact wvR_take ⟨rfl, HMB.out.symm, by rw [← HZ.out rfl]; exact HQ.out, h11⟩
          show MB _ _ _ _ _ _ _ _ _ _ _ _ _
          rw [e]; exact RX.out.setw (by have := HBw.out; omega)
        clear RX HTk h11
        go_wp2
        go_roundw
        case rel => exact ⟨j + 1, by omega, by omega, by go_num, HPl2.out, HX2.out⟩
        case measure => simp [intOf]; omega
      · have k3' : ¬ (j : Int) < 80 := by omega
        obtain rfl : j = 80 := by omega
        clear p0 p1 p2 p3 p4 p5 pf
        have HGt0 : Hid (getR a n sl k1 k2 = wvR ib (o1, o2) (L.take 80)) := HFin.out 80 hj8 rfl HPl.out
        generalize wvR ib (o1, o2) (L.take 80) = g at HGt0 R5
        obtain ⟨g1, g2⟩ := g
        have HGt : Hid (getR a n sl k1 k2 = (g1, g2)) := HGt0.out
        clear HGt0
        go_wp2
        have hRL : Hid (∀ W, Below wr.heap.size wr W → MB w W0 W0.heap.size a n sl 40000 (k1, k2) (o1, o2) (g1, g2) Bw Bo W) := fun W hW => R5.out.no (Kept.of_below hW)
        have HKp : Hid (Kept No w wr) := HK0.out.trans R5.out.re.kp
        clear R5
        refine region_quiet_class (C := fun w' => Below wr.heap.size wr w') (by kernel_rfl) (by kernel_rfl) (Below.refl _ _).drew ?_
        refine q_op (MP W0.heap.size) (by kernel_rfl) (fun W hW => by simp [go_sem]) ?_
        try simp only [Act.put, List.setIfInBounds_toArray, List.set_cons_zero, List.set_cons_succ]
        refine q_op (MI W0.heap.size) (by kernel_rfl) (fun W hW => by simp [go_sem]) ?_
        try simp only [Act.put, List.setIfInBounds_toArray, List.set_cons_zero, List.set_cons_succ]
        refine q_op (AV k1 k2) (by kernel_rfl) (fun W hW => by obtain ⟨r0, r1, r2, r3, r4, r5, rf⟩ := (hRL.out W hW).cells; simp [go_sem, r0, r1]) ?_
        try simp only [Act.put, List.setIfInBounds_toArray, List.set_cons_zero, List.set_cons_succ]
        refine q_call 19 #[MI W0.heap.size, AV k1 k2] (AV g1 g2) (by kernel_rfl) (fun W hW => by simp [go_sem]) (fun W hW => ((hRL.out W hW).re.get k1 k2 HX.out (g1, g2) HGt.out).mono (fun e w3 ⟨he, hb⟩ => ⟨he, Below.trans hW ((hb.below (Nat.le_refl _) (fun _ x => x.elim)).mono (Below.size hW))⟩)) ?_
        try simp only [Act.put, List.setIfInBounds_toArray, List.set_cons_zero, List.set_cons_succ]
        refine q_op (AV g1 g2) (by kernel_rfl) (fun W hW => by obtain ⟨r0, r1, r2, r3, r4, r5, rf⟩ := (hRL.out W hW).cells; simp [go_sem, r2, r3]) ?_
        try simp only [Act.put, List.setIfInBounds_toArray, List.set_cons_zero, List.set_cons_succ]
        refine q_op (.bool true) (by kernel_rfl) (fun W hW => by simp [go_sem, eq33]) ?_
        try simp only [Act.put, List.setIfInBounds_toArray, List.set_cons_zero, List.set_cons_succ]
        refine q_op (.bool true) (by kernel_rfl) (fun W hW => by simp [go_sem]) ?_
        try simp only [Act.put, List.setIfInBounds_toArray, List.set_cons_zero, List.set_cons_succ]
        refine q_call 13 #[] (.bool true) (by kernel_rfl) (fun W hW => by simp [go_sem]) (fun W hW => (alive_any W).mono (fun e w3 ⟨he, hb⟩ => ⟨he, Below.trans hW ((hb.below (Nat.le_refl _) (fun _ x => x.elim)).mono (Below.size hW))⟩)) ?_
        try simp only [Act.put, List.setIfInBounds_toArray, List.set_cons_zero, List.set_cons_succ]
        refine q_op (.bool true) (by kernel_rfl) (fun W hW => by simp [go_sem]) ?_
        try simp only [Act.put, List.setIfInBounds_toArray, List.set_cons_zero, List.set_cons_succ]
        refine q_op (.bool true) (by kernel_rfl) (fun W hW => by simp [go_sem]) ?_
        try simp only [Act.put, List.setIfInBounds_toArray, List.set_cons_zero, List.set_cons_succ]
        refine wpQuiet_nil ?_
        intro W3 H3
        have HE : Hid (Kept No w W3) := HKp.out.trans (Kept.of_below H3)
        clear H3
        go_wp2
        go_ret
        exact ⟨rfl, HE.out⟩
    · have k2' : ¬ (j : Int) < (L.length : Int) := by omega
      obtain rfl : j = L.length := by omega
      clear p0 p1 p2 p3 p4 p5 pf
      have HGt0 : Hid (getR a n sl k1 k2 = wvR ib (o1, o2) (L.take L.length)) := HFin.out L.length hj8 (by rw [List.take_length, List.take_of_length_le hj8]) HPl.out
      generalize wvR ib (o1, o2) (L.take L.length) = g at HGt0 R5
      obtain ⟨g1, g2⟩ := g
      have HGt : Hid (getR a n sl k1 k2 = (g1, g2)) := HGt0.out
      clear HGt0
      go_wp2
      have hRL : Hid (∀ W, Below wr.heap.size wr W → MB w W0 W0.heap.size a n sl 40000 (k1, k2) (o1, o2) (g1, g2) Bw Bo W) := fun W hW => R5.out.no (Kept.of_below hW)
      have HKp : Hid (Kept No w wr) := HK0.out.trans R5.out.re.kp
      clear R5
      refine region_quiet_class (C := fun w' => Below wr.heap.size wr w') (by kernel_rfl) (by kernel_rfl) (Below.refl _ _).drew ?_
      refine q_op (MP W0.heap.size) (by kernel_rfl) (fun W hW => by simp [go_sem]) ?_
      try simp only [Act.put, List.setIfInBounds_toArray, List.set_cons_zero, List.set_cons_succ]
      refine q_op (MI W0.heap.size) (by kernel_rfl) (fun W hW => by simp [go_sem]) ?_
      try simp only [Act.put, List.setIfInBounds_toArray, List.set_cons_zero, List.set_cons_succ]
      refine q_op (AV k1 k2) (by kernel_rfl) (fun W hW => by obtain ⟨r0, r1, r2, r3, r4, r5, rf⟩ := (hRL.out W hW).cells; simp [go_sem, r0, r1]) ?_
      try simp only [Act.put, List.setIfInBounds_toArray, List.set_cons_zero, List.set_cons_succ]
      refine q_call 19 #[MI W0.heap.size, AV k1 k2] (AV g1 g2) (by kernel_rfl) (fun W hW => by simp [go_sem]) (fun W hW => ((hRL.out W hW).re.get k1 k2 HX.out (g1, g2) HGt.out).mono (fun e w3 ⟨he, hb⟩ => ⟨he, Below.trans hW ((hb.below (Nat.le_refl _) (fun _ x => x.elim)).mono (Below.size hW))⟩)) ?_
      try simp only [Act.put, List.setIfInBounds_toArray, List.set_cons_zero, List.set_cons_succ]
      refine q_op (AV g1 g2) (by kernel_rfl) (fun W hW => by obtain ⟨r0, r1, r2, r3, r4, r5, rf⟩ := (hRL.out W hW).cells; simp [go_sem, r2, r3]) ?_
      try simp only [Act.put, List.setIfInBounds_toArray, List.set_cons_zero, List.set_cons_succ]
      refine q_op (.bool true) (by kernel_rfl) (fun W hW => by simp [go_sem, eq33]) ?_
      try simp only [Act.put, List.setIfInBounds_toArray, List.set_cons_zero, List.set_cons_succ]
      refine q_op (.bool true) (by kernel_rfl) (fun W hW => by simp [go_sem]) ?_
      try simp only [Act.put, List.setIfInBounds_toArray, List.set_cons_zero, List.set_cons_succ]
      refine q_call 13 #[] (.bool true) (by kernel_rfl) (fun W hW => by simp [go_sem]) (fun W hW => (alive_any W).mono (fun e w3 ⟨he, hb⟩ => ⟨he, Below.trans hW ((hb.below (Nat.le_refl _) (fun _ x => x.elim)).mono (Below.size hW))⟩)) ?_
      try simp only [Act.put, List.setIfInBounds_toArray, List.set_cons_zero, List.set_cons_succ]
      refine q_op (.bool true) (by kernel_rfl) (fun W hW => by simp [go_sem]) ?_
      try simp only [Act.put, List.setIfInBounds_toArray, List.set_cons_zero, List.set_cons_succ]
      refine q_op (.bool true) (by kernel_rfl) (fun W hW => by simp [go_sem]) ?_
      try simp only [Act.put, List.setIfInBounds_toArray, List.set_cons_zero, List.set_cons_succ]
      refine wpQuiet_nil ?_
      intro W3 H3
      have HE : Hid (Kept No w W3) := HKp.out.trans (Kept.of_below H3)
      clear H3
      go_wp2
      go_ret
      exact ⟨rfl, HE.out⟩
end Go.Proofs.Ythefmfjlinpepaa
