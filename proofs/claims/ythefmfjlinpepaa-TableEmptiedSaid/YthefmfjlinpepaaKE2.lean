/- TableEmptied: the walk. -/
import Derived.Test.YthefmfjlinpepaaKE1
namespace Go.Proofs.Ythefmfjlinpepaa
open Go.RowKit Go.Shelf
set_option linter.unusedSimpArgs false
set_option linter.unusedVariables false
attribute [local go_sem] Oper.semAt_some

/-- The table that is emptied, and the boxes of both keys. -/
structure EB (w1 : World) (P : Nat) (a n : Nat) (sl : Sl) (b : Nat) (Bk Bx : Nat) (c d : Int × Int) (W : World) : Prop where
  re : Re w1 W P 400 a n sl b
  bk : W.heap[Bk]? = some (.cells #[.int .i64 c.1, .int .i64 c.2] 33 (0, 0))
  bx : W.heap[Bx]? = some (.cells #[.int .i64 d.1, .int .i64 d.2] 33 (0, 0))
  ne : w1.heap.size ≤ Bk ∧ w1.heap.size ≤ Bx ∧ Bk ≠ Bx
section
variable {w1 : World} {P : Nat} {a n : Nat} {sl : Sl} {b : Nat} {Bk Bx : Nat} {c d : Int × Int} {W W' : World}
theorem EB.no (h : EB w1 P a n sl b Bk Bx c d W) (hk : Kept No W W') : EB w1 P a n sl b Bk Bx c d W' := ⟨h.re.no hk, hk.heap h.bk id, hk.heap h.bx id, h.ne⟩
theorem EB.cells (h : EB w1 P a n sl b Bk Bx c d W) : (W.cell? ⟨Bk, 0, none⟩ = some (.int .i64 c.1) ∧ W.cell? ⟨Bk, 1, none⟩ = some (.int .i64 c.2)) ∧ (W.cell? ⟨Bx, 0, none⟩ = some (.int .i64 d.1) ∧ W.cell? ⟨Bx, 1, none⟩ = some (.int .i64 d.2)) ∧ (∀ o, W.frozen? ⟨Bk, o, none⟩ = false) ∧ (∀ o, W.frozen? ⟨Bx, o, none⟩ = false) := by
  refine ⟨⟨?_, ?_⟩, ⟨?_, ?_⟩, frozen_of h.bk, frozen_of h.bx⟩
  · rw [cell_of h.bk]; rfl
  · rw [cell_of h.bk]; rfl
  · rw [cell_of h.bx]; rfl
  · rw [cell_of h.bx]; rfl
/-- A box of that kind is turned. -/
theorem Re.box {w W : World} {P : Nat} {most : Int} {a n : Nat} {sl : Sl} {b : Nat} (h : Re w W P most a n sl b) {q : Nat} {cs : Array Value} (hq : W.heap[q]? = some (.cells cs 33 (0, 0))) (hle : w.heap.size ≤ q) (x y : Value) : Re w ((W.setCell ⟨q, 0, none⟩ x).setCell ⟨q, 1, none⟩ y) P most a n sl b := by
  obtain ⟨nn, hnn, ht⟩ := h.tb
  have hk : Kept (fun k => k = q) W ((W.setCell ⟨q, 0, none⟩ x).setCell ⟨q, 1, none⟩ y) := ((Kept.refl (fun k => k = q) W).set _ 0 _ (.inl rfl)).set _ 1 _ (.inl rfl)
  have hnf : ¬ FP W P q := fun hp => by
    rcases ht.kinds q hp with ⟨c', e', f', h1, h2⟩ | ⟨es, c', h1⟩
    · rw [hq] at h1; cases h1; cases h2
    · rw [hq] at h1; cases h1
  refine ⟨⟨nn, hnn, ht.kept hk (fun k hp e => hnf (by rw [← e]; exact hp))⟩, fun k hp => h.fp k ?_, h.kp.trans' hk (fun i e => .inr (by omega)), h.is⟩
  rcases hp with rfl | ⟨m', a2, n2, e⟩
  · exact .inl rfl
  · rw [hk.block P ht.lt (fun e => hnf (.inl e.symm))] at e
    exact .inr ⟨_, _, _, e⟩
theorem EB.setk (h : EB w1 P a n sl b Bk Bx c d W) (c' : Int × Int) : EB w1 P a n sl b Bk Bx c' d ((W.setCell ⟨Bk, 0, none⟩ (.int .i64 c'.1)).setCell ⟨Bk, 1, none⟩ (.int .i64 c'.2)) :=
  ⟨h.re.box h.bk h.ne.1 _ _, hp_set_same (hp_set_same h.bk 0 _) 1 _, hp_set_other (hp_set_other h.bx 0 _ (fun e => h.ne.2.2 e.symm)) 1 _ (fun e => h.ne.2.2 e.symm), h.ne⟩
theorem EB.setx (h : EB w1 P a n sl b Bk Bx c d W) (d' : Int × Int) : EB w1 P a n sl b Bk Bx c d' ((W.setCell ⟨Bx, 0, none⟩ (.int .i64 d'.1)).setCell ⟨Bx, 1, none⟩ (.int .i64 d'.2)) :=
  ⟨h.re.box h.bx h.ne.2.1 _ _, hp_set_other (hp_set_other h.bk 0 _ h.ne.2.2) 1 _ h.ne.2.2, hp_set_same (hp_set_same h.bx 0 _) 1 _, h.ne⟩
end

set_option maxRecDepth 100000 in
set_option maxHeartbeats 4000000 in
theorem TableEmptied_any (v : Value) (L : List Ac) (w : World) (hL : Acts w v L) :
    Calls Try.prog 6 #[v] w fun e w' => e = .returned (.bool true) ∧ Kept No w w' := by
  have HM : Hid (∀ W, Kept No w W → Calls Try.prog 16 #[v] W fun e w' => e = .returned (MP W.heap.size) ∧ ReS W w' W.heap.size 400 (playR 400 (L.take 80)) 40000) := fun W hW => made_any v L W (hL.kept hW)
  have hlen := playR_len 400 L 80
  have hwf := play_wf L 80 (Nat.le_refl _)
  obtain ⟨ao, cap, rfl, -, -⟩ := hL
  generalize playR 400 (L.take 80) = s at HM hlen hwf
  obtain ⟨a, n, sl⟩ := s
  simp only at hlen hwf
  have HM' : Hid (∀ W, Kept No w W → Calls Try.prog 16 #[.slice ao L.length cap] W fun e w' => e = .returned (MP W.heap.size) ∧ Re W w' W.heap.size 400 a n sl 40000) := HM.out
  obtain ⟨E, HEd⟩ : ∃ E, Hid (ents a n sl 0 = E) := ⟨_, show _ = _ from rfl⟩
  have HE8 : Hid (E.length ≤ 80) := by show _ ≤ _; rw [← HEd.out]; exact hlen
  have HWf : Hid (Wf a n sl) := hwf
  clear HM hlen hwf
  go_enter Try.func6, Try.ntmps6
  go_wp2_with fail
  refine (HM'.out _ (Kept.refl _ _)).mono ?_
  rintro e w1 ⟨rfl, h1⟩
  have R1 : Hid (Re w w1 w.heap.size 400 a n sl 40000) := h1
  clear h1
  go_wp2_with fail
  refine (HM'.out _ R1.out.kp).mono ?_
  rintro e w2 ⟨rfl, h2⟩
  have R2 : Hid (Re w1 w2 w1.heap.size 400 a n sl 40000) := h2
  clear h2 HM'
  have HI64 : Hid (∀ e ∈ E, I64 e.1.2) := by
    obtain ⟨nn, _, ht⟩ := R1.out.tb
    intro e he
    rw [← HEd.out] at he
    exact (ents_i64 ht.bd.1 ht.bd.2 R1.out.is 0 (by omega) e he).1
  have RA : Hid (∀ W, Kept No w1 W → Re w W w.heap.size 400 a n sl 40000) := fun W hW => R1.out.no hW
  have HKw : Hid (Kept No w w1) := R1.out.kp
  clear R1
  have HNx0 : Hid (nextR a n sl 0 0 = (curE E 0, 0)) := by show _ = _; rw [next_nil, HEd.out]; rfl
  generalize w1.heap.size = P2 at R2 ⊢
  go_wp2_with fail
  refine ((RA.out _ R2.out.kp).nexts 0 0 (by constructor <;> decide) _ HNx0.out).mono ?_
  rintro e w3 ⟨rfl, hk3⟩
  obtain ⟨c0, hc0⟩ : ∃ c0, c0 = curE E 0 := ⟨_, rfl⟩
  have HC0 : Hid (c0 = curE E 0) := hc0
  rw [← hc0] at HNx0 ⊢
  clear hc0
  obtain ⟨⟨p1, p2⟩, p3, p4⟩ := c0
  have R3 : Hid (Re w1 ((w3.alloc (.cells #[.int .i64 p1, .int .i64 p2] 33)).alloc (.cells #[.int .i64 p3, .int .i64 p4] 33)) P2 400 a n sl 40000 ∧ ((w3.alloc (.cells #[.int .i64 p1, .int .i64 p2] 33)).alloc (.cells #[.int .i64 p3, .int .i64 p4] 33)).heap[w3.heap.size]? = some (.cells #[.int .i64 p1, .int .i64 p2] 33 (0, 0)) ∧ w1.heap.size ≤ w3.heap.size) := ⟨(R2.out.no hk3).no (((Kept.refl _ _).alloc _).alloc _), heap_old (heap_new1 _ _) _, Nat.le_trans R2.out.kp.size hk3.size⟩
  clear hk3 R2
  go_wp2_with fail
  generalize (w3.alloc _).alloc _ = w4 at R3 ⊢
  generalize w3.heap.size = Bk at R3 ⊢
  refine (R3.out.1.nexts 0 0 (by constructor <;> decide) _ HNx0.out).mono ?_
  rintro e w5 ⟨rfl, hk5⟩
  have X0 : Hid (EB w1 P2 a n (empS a n sl E 0) (40000 + 500 * 0) Bk w5.heap.size (curE E 0).1 (curE E 0).1 ((w5.alloc (.cells #[.int .i64 p1, .int .i64 p2] 33)).alloc (.cells #[.int .i64 p3, .int .i64 p4] 33))) := by
    show EB _ _ _ _ _ _ _ _ _ _ _
    rw [← HC0.out]
    have hz := hp_lt R3.out.2.1
    have hz5 := hk5.size
    refine ⟨(R3.out.1.no hk5).no (((Kept.refl _ _).alloc _).alloc _), heap_old (heap_old (hk5.heap R3.out.2.1 id) _) _, heap_old (heap_new1 _ _) _, R3.out.2.2, ?_, ?_⟩
    · have := R3.out.2.2; omega
    · omega
  clear hk5 R3 HNx0 HC0
  go_wp2_with fail
  generalize (w5.alloc _).alloc _ = w6 at X0 ⊢
  generalize w5.heap.size = Bx at X0 ⊢
  go_loopw [7, 10, 11] (fun er fr ii wr => ∃ i : Nat, i ≤ E.length ∧ ii = .int .i64 i ∧ er = .int .i64 0 ∧ fr = .int .i64 0 ∧ Hid (EB w1 P2 a n (empS a n sl E i) (40000 + 500 * i) Bk Bx (curE E i).1 (curE E i).1 wr)) (fun _ _ ii _ => E.length - (intOf ii).toNat)
  case atStart => exact ⟨0, Nat.zero_le _, rfl, rfl, rfl, X0.out⟩
  case round =>
    obtain ⟨i, hi, rfl, rfl, rfl, X⟩ := hrel
    have hi8 : (i : Int) ≤ 80 := by have := HE8.out; omega
    have hz0 : ((0 : Int) != 0) = false := by decide
    by_cases hlt : i < E.length
    · obtain ⟨c, hc⟩ : ∃ c, E[i]? = some c := ⟨E[i]'hlt, List.getElem?_eq_getElem _⟩
      rw [curE_at hc] at X
      have hcm := List.mem_of_getElem? hc
      have hcE : (ents a n sl 0)[i]? = some c := by rw [HEd.out]; exact hc
      obtain ⟨hnk, _, _⟩ := ents_gv HWf.out (by rw [HEd.out]; exact hcm)
      have HN1 : Hid (nextR a n sl c.1.1 c.1.2 = (curE E (i + 1), 0)) := by
        show _ = _
        have := next_at HWf.out hcE
        rw [HEd.out] at this; exact this
      have HN2 : Hid (nextR a n (empS a n sl E (i + 1)) c.1.1 c.1.2 = (curE E (i + 1), 0)) := by
        show _ = _
        have := emp_next HWf.out hcE
        rw [HEd.out] at this; exact this
      have HSe : Hid (setR 400 a n (empS a n sl E i) c.1 (0, 0) = (0, a, n, empS a n sl E (i + 1))) := by
        show _ = _
        have := emp_set (most := 400) HWf.out hcE
        rw [HEd.out] at this; exact this
      have HLe : Hid ((ents a n (empS a n sl E i) 0).length ≤ 200) := by
        show _ ≤ _
        have := emp_len HWf.out i
        rw [HEd.out] at this
        have := HE8.out
        omega
      have HK2 : Hid (I64 c.1.2) := HI64.out c hcm
      have hne := hnk.ne
      generalize c.1 = k at X HN1 HN2 HSe HK2 hne
      obtain ⟨k1, k2⟩ := k
      simp only at HN1 HN2 HK2 hne
      have hk0 : (k1 == 0) = false := by simpa using hne
      have hk0' : (k1 != 0) = true := by simpa using hne
      clear hc hcm hcE hnk hne
      have heq : ∀ w, (Op.equalIn 10000 33 (.agg #[.int .i64 k1, .int .i64 k2]) (.agg #[.int .i64 k1, .int .i64 k2])).run Try.prog w = .ok true w := fun w => (eq33 k1 k2 k1 k2 w).trans (by simp)
      obtain ⟨⟨s0, s1⟩, ⟨s2, s3⟩, sf, sg⟩ := X.out.cells
      simp only at s0 s1 s2 s3
      go_wp2_with (go_at_call 21; refine (no_anyE 0 _).mono ?_; rintro e w' ⟨rfl, rfl⟩)
      have HS := X.out.re.set' i64_400 (by omega) HLe.out (k1, k2) (0, 0) HK2.out (by constructor <;> decide) HSe.out
      have HS' : Hid _ := HS
      clear HS
      refine Calls.mono HS'.out ?_
      rintro e V2 ⟨rfl, h2, hfr⟩
      have X2 : Hid (EB w1 P2 a n (empS a n sl E (i + 1)) (40000 + 500 * (i + 1)) Bk Bx (k1, k2) (k1, k2) V2) := by
        obtain ⟨nn, hnn, ht⟩ := h2.tb
        exact ⟨⟨⟨nn, by omega, ht⟩, h2.fp, h2.kp, h2.is⟩, hfr _ _ _ X.out.bk (by decide), hfr _ _ _ X.out.bx (by decide), X.out.ne⟩
      clear h2 hfr HS' X s0 s1 s2 s3 sf sg HSe HLe
      obtain ⟨⟨s0, s1⟩, ⟨s2, s3⟩, sf, sg⟩ := X2.out.cells
      simp only at s0 s1 s2 s3
      go_wp2_with (go_at_call 21; refine (no_anyE 0 _).mono ?_; rintro e w' ⟨rfl, rfl⟩)
      refine ((RA.out _ X2.out.re.kp).nexts k1 k2 HK2.out _ HN1.out).mono ?_
      rintro e V3 ⟨rfl, hk3⟩
      obtain ⟨cc, hcc⟩ : ∃ cc, cc = curE E (i + 1) := ⟨_, rfl⟩
      have HCC : Hid (cc = curE E (i + 1)) := hcc
      rw [← hcc] at HN2 ⊢
      clear hcc HN1
      obtain ⟨⟨p1, p2⟩, p3, p4⟩ := cc
      have X3 := X2.out.no hk3
      have X4 : Hid (EB w1 P2 a n (empS a n sl E (i + 1)) (40000 + 500 * (i + 1)) Bk Bx (p1, p2) (k1, k2) ((V3.setCell ⟨Bk, 0, none⟩ (.int .i64 p1)).setCell ⟨Bk, 1, none⟩ (.int .i64 p2))) := X3.setk (p1, p2)
      clear s0 s1 s2 s3 sf sg
      obtain ⟨⟨s0, s1⟩, ⟨s2, s3⟩, sf, sg⟩ := X3.cells
      simp only at s0 s1 s2 s3
      have hnb : Bk ≠ Bx := X3.ne.2.2
      have hnb2 : Bx ≠ Bk := fun e => hnb e.symm
      clear hk3 X2 X3
      go_wp2_with fail
      generalize (V3.setCell _ _).setCell _ _ = V4 at X4 ⊢
      clear s0 s1 s2 s3 sf sg
      refine (X4.out.re.nexts k1 k2 HK2.out _ HN2.out).mono ?_
      rintro e V5 ⟨rfl, hk5⟩
      have X5 := X4.out.no hk5
      have X6 : Hid (EB w1 P2 a n (empS a n sl E (i + 1)) (40000 + 500 * (i + 1)) Bk Bx (p1, p2) (p1, p2) ((V5.setCell ⟨Bx, 0, none⟩ (.int .i64 p1)).setCell ⟨Bx, 1, none⟩ (.int .i64 p2))) := X5.setx (p1, p2)
      obtain ⟨⟨s0, s1⟩, ⟨s2, s3⟩, sf, sg⟩ := X5.cells
      simp only at s0 s1 s2 s3
      clear hk5 X4 X5 HN2
      go_wp2
      go_roundw
      case rel => exact ⟨i + 1, by omega, by go_num, rfl, rfl, by rw [← HCC.out]; exact X6.out⟩
      case measure => simp [intOf]; omega
    · obtain rfl : i = E.length := by omega
      rw [curE_end] at X
      have HNe : Hid (nextR a n (empS a n sl E E.length) 0 0 = (((0, 0), (0, 0)), 0)) := by
        show _ = _
        have := emp_end HWf.out
        rw [HEd.out] at this
        rw [next_nil, this]; rfl
      obtain ⟨⟨s0, s1⟩, ⟨s2, s3⟩, sf, sg⟩ := X.out.cells
      simp only at s0 s1 s2 s3
      generalize E.length = N at hi8 X HNe hi ⊢
      go_wp2_with fail
      refine (X.out.re.nexts 0 0 (by constructor <;> decide) _ HNe.out).mono ?_
      rintro e V2 ⟨rfl, hk2⟩
      have X2 := (X.out.no hk2).no (((Kept.refl _ _).alloc (.cells #[.int .i64 0, .int .i64 0] 33)).alloc (.cells #[.int .i64 0, .int .i64 0] 33))
      have X2' : Hid _ := X2
      clear s0 s1 s2 s3 sf sg
      obtain ⟨⟨s0, s1⟩, ⟨s2, s3⟩, sf, sg⟩ := (X.out.no hk2).cells
      simp only at s0 s1 s2 s3
      have q1 := hp_lt (X.out.no hk2).bk
      have q2 := hp_lt (X.out.no hk2).bx
      clear hk2 X X2 sf sg
      go_wp2_with (go_at_call 21; refine (no_anyE 0 _).mono ?_; rintro e w' ⟨rfl, rfl⟩)
      refine (alive_any _).mono ?_
      rintro e wE ⟨rfl, hkE⟩
      have HEE : Hid (Kept No w wE) := (HKw.out.trans X2'.out.re.kp).trans hkE
      clear hkE X2'
      go_wp2
      go_ret
      exact ⟨rfl, HEE.out⟩
end Go.Proofs.Ythefmfjlinpepaa
