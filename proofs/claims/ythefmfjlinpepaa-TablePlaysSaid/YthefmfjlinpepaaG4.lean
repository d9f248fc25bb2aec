/- entries: its rounds. -/
import Derived.Test.YthefmfjlinpepaaG3
namespace Go.Proofs.Ythefmfjlinpepaa
open Go.RowKit Go.Shelf
set_option linter.unusedSimpArgs false
set_option linter.unusedVariables false
attribute [local go_sem] Oper.semAt_some

theorem Loose.of_no {B : Nat} {w w' : World} (h : Kept No w w') : Loose B w w' := ⟨h.os, h.tape, h.output, h.size, fun k o hk _ => h.heap hk id⟩
theorem Still.of_no {B : Nat} {w w' : World} (h : Kept No w w') : Still B w w' := Still.of_kept h (fun k e => e.elim)
theorem keyAt_i64 {a : Nat} {sl : Sl} (hs : ∀ i, I64 (sl i).2) {p : Int} (h0 : 0 ≤ p) (h1 : p ≤ 1000000) : I64 (keyAt a sl p).2 := by
  unfold keyAt
  split
  · unfold I64; constructor <;> simp <;> omega
  · exact hs _

set_option maxRecDepth 100000 in
set_option maxHeartbeats 4000000 in
theorem entries_rounds (d P : Nat) (hd : 1 ≤ d) (most : Int) (a n nn : Nat) (sl : Sl) (hsl : ∀ i, I64 (sl i).2) (Bs Bf f : Nat) (hf : f ≤ 1000000) (I : Nat → World → Prop) (hI : ∀ j W, I j W → ValIs W P most a n nn sl Bs Bf f) :
    Rounds Fence.wide d Try.prog 73 #[.pointer (some ⟨Bs, 0, none⟩), .pointer (some ⟨Bf, 0, none⟩)] (ents a n sl f).length (fun j W args => ∃ e, (ents a n sl f)[j]? = some e ∧ args = #[iV e.1, iV e.2]) I := by
  intro l J Jx W hJI hJd hY h0 hJx
  have hW := hI _ _ (hJI _ _ h0)
  obtain ⟨b1, b2⟩ := hW.tb.bd
  have HI : Hid (∀ j W, J j W → ValIs W P most a n nn sl Bs Bf f) := fun j W h => hI _ _ (hJI _ _ h)
  obtain ⟨W1, HW1⟩ : ∃ W1, Hid (W1 = W.alloc (.cells #[.func (.yield l) #[] #[]] 112)) := ⟨_, rfl⟩
  have HL1 : Hid (Loose W.heap.size W W1) := by show Loose _ _ _; rw [HW1.out]; exact Loose.alloc _ _ _
  have HZ1 : Hid (W1.heap.size = W.heap.size + 1) := by show _ = _; rw [HW1.out]; simp
  have c0 : (W.alloc (.cells #[.func (.yield l) #[] #[]] 112)).cell? ⟨Bs, 0, none⟩ = some (MI P) := by rw [← HW1.out, cell_of (HL1.out.cells hW.bs)]; rfl
  have c1 : (W.alloc (.cells #[.func (.yield l) #[] #[]] 112)).cell? ⟨Bf, 0, none⟩ = some (.int .i64 (f : Int)) := by rw [← HW1.out, cell_of (HL1.out.cells hW.bf)]; rfl
  have HBs : Hid (W1.heap[Bs]? = some (.cells #[MI P] 81 (0, 0))) := HL1.out.cells hW.bs
  have HB0 : Hid (W1.heap[W.heap.size]? = some (.cells #[.func (.yield l) #[] #[]] 112 (0, 0))) := by show _ = _; rw [HW1.out]; exact heap_new1 W _
  have HJ1 : Hid (J 0 W1) := hJd _ _ _ h0 HL1.out
  have HY : Hid (∀ k e W1, J k W1 → (ents a n sl f)[k]? = some e → k < (ents a n sl f).length → YieldAt Fence.wide (d - 1) Try.prog l #[iV e.1, iV e.2] W1 fun e W' => Still W.heap.size W1 W' ∧ ((e = .returned (.bool true) ∧ J (k + 1) W') ∨ (e = .returned (.bool false) ∧ Jx (k + 1) W'))) := fun k e W1 hj he hk => hY k _ W1 hj ⟨e, he, rfl⟩ hk
  have HJd : Hid (∀ k W1 W', J k W1 → Loose W.heap.size W1 W' → J k W') := hJd
  have HJx : Hid (∀ k W1 W', Jx k W1 → Loose W.heap.size W1 W' → Jx k W') := hJx
  have HSl : Hid (∀ i, I64 (sl i).2) := hsl
  clear hW h0 hI hJI hY hJd hJx hsl
  refine callsIn_of_wp_marks Try.func73 rfl trivial ?_ rfl
  simp only [Try.ntmps73, List.size_toArray, List.length_cons, List.length_nil, Nat.reduceAdd, Nat.reduceSub, Array.replicate_succ, Array.replicate_zero, List.push_toArray, List.append_toArray, List.nil_append, List.cons_append]
  gi_wp2_with (refine ⟨trivial, ?_⟩; gi_at_call 74; refine (callsIn_wide.2 (values_any _ rfl _ _)).mono ?_; rintro e w' ⟨rfl, rfl⟩)
  rw [← HW1.out]
  clear c0 c1 HW1
  obtain ⟨W2, HW2⟩ : ∃ W2, Hid (W2 = (W1.alloc (.cells #[MI P] 81)).alloc (.cells #[.int .i64 (f : Int)] 3)) := ⟨_, rfl⟩
  rw [← HW2.out]
  have HZ2 : Hid (W2.heap.size = W.heap.size + 3) := by show _ = _; rw [HW2.out]; simp [HZ1.out]
  have HL2 : Hid (Loose W.heap.size W1 W2) := by show Loose _ _ _; rw [HW2.out]; exact (Loose.alloc _ _ _).trans (Loose.alloc _ _ _)
  have HD1 : Hid (W2.heap[W.heap.size + 1]? = some (.cells #[MI P] 81 (0, 0))) := by
    show _ = _; rw [HW2.out, ← HZ1.out]; exact heap_old (heap_new1 W1 _) _
  have HD2 : Hid (W2.heap[W.heap.size + 2]? = some (.cells #[.int .i64 (f : Int)] 3 (0, 0))) := by
    show _ = _; rw [HW2.out]; have := heap_new1 (W1.alloc (.cells #[MI P] 81)) (.cells #[.int .i64 (f : Int)] 3); rw [World.size_alloc, HZ1.out] at this; exact this
  clear HW2
  refine range_one hd rfl (enters_of Try.func83 (by kernel_rfl) rfl) (plN a n f) (fun j => .int .i64 (plA a f j : Nat)) (EI J a sl f P l W.heap.size Bs) (fun _ W' => ∃ k, k ≤ (ents a n sl f).length ∧ Jx k W')
    (fun k W3 W' h hl => ⟨HJd.out _ _ _ h.j (hl.less (by rw [HZ2.out]; omega)), hl.cells h.by', hl.cells h.bs, hl.cells h.bf, hl.cells h.b0⟩) (fun k W3 W' ⟨c, hc, h⟩ hl => ⟨c, hc, HJx.out _ _ _ h (hl.less (by rw [HZ2.out]; omega))⟩) ?h0
    (values_rounds _ P most a n nn sl _ _ f hf _ (fun j W3 h => ⟨(HI.out _ _ h.j).tb, h.bs, h.bf⟩)) ?mk ?assign ?body ?done ?stop
  case h0 => exact ⟨HJd.out _ _ _ HJ1.out HL2.out, HL2.out.cells HB0.out, HD1.out, HD2.out, HL2.out.cells HBs.out⟩
  case assign =>
    intro l' x' W' K hK
    gi_wp2
    exact hK
  case body =>
    intro l' j W' hI hj
    have HE : Hid (EI J a sl f P l W.heap.size Bs j W') := hI
    have hpl := plA_le hj b1 b2
    have Ht : Hid (Tb W' P most a n nn sl ∧ W'.heap[Bs]? = some (.cells #[MI P] 81 (0, 0))) := ⟨(HI.out _ _ hI.j).tb, hI.b0⟩
    have HKI : Hid (I64 (keyAt a sl (plA a f j : Nat)).2) := keyAt_i64 HSl.out (by omega) (by omega)
    have HY1 : Hid (okE a sl (plA a f j : Nat) = true → ∀ W1, J (entsTo a sl f j).length W1 → YieldAt Fence.wide (d - 1) Try.prog l #[iV (keyAt a sl (plA a f j : Nat)), iV (sl (plA a f j : Nat))] W1 fun e W' => Still W.heap.size W1 W' ∧ ((e = .returned (.bool true) ∧ J (entsTo a sl f (j + 1)).length W') ∨ (e = .returned (.bool false) ∧ ∃ k, k ≤ (ents a n sl f).length ∧ Jx k W'))) := fun hok W1 h1 => by
      obtain ⟨g1, g2, g3⟩ := ents_at hj hok
      refine YieldAt.mono (HY.out _ _ W1 h1 g1 g2) (fun e W' h => ⟨h.1, ?_⟩)
      rw [g3]
      exact h.2.imp id (fun h => ⟨h.1, _, by omega, h.2⟩)
    have HN1 : Hid (okE a sl (plA a f j : Nat) = false → (entsTo a sl f (j + 1)).length = (entsTo a sl f j).length) := ents_no
    clear hI
    unfold okE at HY1 HN1
    gi_wp2_with fail
    refine region3 Ht.out.1 Ht.out.2 _ _ _ _ (by omega) (by omega) ?_ ?_ ?_
    · rintro ⟨a', w', h⟩; exact h
    · intro c a' w' h; exact h
    intro W4 V5 V6 hk4 l5 l6 q5 q6
    generalize keyAt a sl (plA a f j : Nat) = kk at HKI HY1 HN1 q5 ⊢
    generalize sl (plA a f j : Nat) = vv at HY1 HN1 q6 ⊢
    obtain ⟨k1, k2⟩ := kk
    obtain ⟨v1, v2⟩ := vv
    simp only at HKI HY1 HN1 q5 q6
    have HQ : Hid (Kept No W' W4 ∧ W4.heap[V5]? = some (.cells #[.int .i64 k1, .int .i64 k2] 33 (0, 0)) ∧ W4.heap[V6]? = some (.cells #[.int .i64 v1, .int .i64 v2] 33 (0, 0))) := ⟨hk4, q5, q6⟩
    have x0 : W4.cell? ⟨V5, 0, none⟩ = some (.int .i64 k1) := by rw [cell_of q5]; rfl
    have x1 : W4.cell? ⟨V5, 1, none⟩ = some (.int .i64 k2) := by rw [cell_of q5]; rfl
    clear hk4 q5 q6
    gi_wp2_with fail
    refine ⟨trivial, fun h => (by cases h), ?_⟩
    gi_at_call 42
    refine (CallsIn.inRound l' (callsIn_wide.2 (isKey_any k1 k2 _ HKI.out))).mono ?_
    rintro e W5 ⟨rfl, hb5⟩
    have HK5 : Hid (Kept No W4 W5) := Kept.of_below hb5
    clear hb5 x0 x1
    have y0 : W5.cell? ⟨V5, 0, none⟩ = some (.int .i64 k1) := by rw [cell_of (HK5.out.heap HQ.out.2.1 id)]; rfl
    have y1 : W5.cell? ⟨V5, 1, none⟩ = some (.int .i64 k2) := by rw [cell_of (HK5.out.heap HQ.out.2.1 id)]; rfl
    have y2 : W5.cell? ⟨V6, 0, none⟩ = some (.int .i64 v1) := by rw [cell_of (HK5.out.heap HQ.out.2.2 id)]; rfl
    have y3 : W5.cell? ⟨V6, 1, none⟩ = some (.int .i64 v2) := by rw [cell_of (HK5.out.heap HQ.out.2.2 id)]; rfl
    cases hkb : keyB k1 k2
    · have Hno : Hid ((entsTo a sl f (j + 1)).length = (entsTo a sl f j).length) := HN1.out (by rw [hkb]; rfl)
      have HK6 : Hid (Kept No W' W5) := HQ.out.1.trans HK5.out
      clear hkb HY1 HN1
      gi_wp2_with fail
      refine ⟨trivial, ?_⟩
      gi_wp2_with fail
      try (refine ⟨fun _ _ => trivial, ?_⟩; gi_wp2_with fail)
      refine ⟨Still.of_no HK6.out, ⟨?_, HK6.out.heap HE.out.by' id, HK6.out.heap HE.out.bs id, HK6.out.heap HE.out.bf id, HK6.out.heap HE.out.b0 id⟩⟩
      rw [Hno.out]
      exact HJd.out _ _ _ HE.out.j (Loose.of_no HK6.out)
    · rw [hkb, Bool.true_and] at HY1 HN1
      clear hkb
      gi_wp2_with fail
      refine ⟨trivial, fun h => (by cases h), ?_⟩
      gi_at_call 50
      refine (CallsIn.inRound l' (callsIn_wide.2 (isNil_any v1 v2 _))).mono ?_
      rintro e W6 ⟨rfl, hb6⟩
      have HK6 : Hid (Kept No W' W6) := (HQ.out.1.trans HK5.out).trans (Kept.of_below hb6)
      have K46 := HK5.out.trans (Kept.of_below hb6)
      have u0 : W6.cell? ⟨V5, 0, none⟩ = some (.int .i64 k1) := by rw [cell_of (K46.heap HQ.out.2.1 id)]; rfl
      have u1 : W6.cell? ⟨V5, 1, none⟩ = some (.int .i64 k2) := by rw [cell_of (K46.heap HQ.out.2.1 id)]; rfl
      have u2 : W6.cell? ⟨V6, 0, none⟩ = some (.int .i64 v1) := by rw [cell_of (K46.heap HQ.out.2.2 id)]; rfl
      have u3 : W6.cell? ⟨V6, 1, none⟩ = some (.int .i64 v2) := by rw [cell_of (K46.heap HQ.out.2.2 id)]; rfl
      have u4 : W6.cell? ⟨W.heap.size, 0, none⟩ = some (.func (.yield l) #[] #[]) := by rw [cell_of (HK6.out.heap HE.out.by' id)]; rfl
      clear hb6 K46 y0 y1 y2 y3
      cases hv : (v1 == 0)
      · have HY2 : Hid (YieldAt Fence.wide (d - 1) Try.prog l #[iV (k1, k2), iV (v1, v2)] W6 fun e W' => Still W.heap.size W6 W' ∧ ((e = .returned (.bool true) ∧ J (entsTo a sl f (j + 1)).length W') ∨ (e = .returned (.bool false) ∧ ∃ k, k ≤ (ents a n sl f).length ∧ Jx k W'))) := HY1.out (by rw [hv]; rfl) _ (HJd.out _ _ _ HE.out.j (Loose.of_no HK6.out))
        clear HY1 HN1
        obtain ⟨fn, tmps, as', bo, hy, hR⟩ := HY2.out
        clear HY2
        gi_wp2_with fail
        refine ⟨fun h => (by cases h), ?_⟩
        refine (round_wide hR).mono ?_
        rintro e W7 ⟨hst, (⟨rfl, hJ7⟩ | ⟨rfl, hx7⟩)⟩
        · have HX : Hid (Still W2.heap.size W' W7 ∧ EI J a sl f P l W.heap.size Bs (j + 1) W7) :=
            ⟨(Still.of_no HK6.out).trans (hst.more (by rw [HZ2.out]; omega)), ⟨hJ7, hst.2 _ _ (Nat.le_refl _) (HK6.out.heap HE.out.by' id) rfl, hst.2 _ _ (by omega) (HK6.out.heap HE.out.bs id) rfl, hst.2 _ _ (by omega) (HK6.out.heap HE.out.bf id) rfl, (HI.out _ _ hJ7).bs⟩⟩
          clear hst hJ7 hy hR u0 u1 u2 u3 u4
          gi_wp2_with fail
          exact HX.out
        · have HX : Hid (Still W2.heap.size W' W7 ∧ ∃ k, k ≤ (ents a n sl f).length ∧ Jx k W7) :=
            ⟨(Still.of_no HK6.out).trans (hst.more (by rw [HZ2.out]; omega)), hx7⟩
          clear hst hx7 hy hR u0 u1 u2 u3 u4
          gi_wp2_with fail
          exact HX.out
      · have Hno : Hid ((entsTo a sl f (j + 1)).length = (entsTo a sl f j).length) := HN1.out (by rw [hv]; rfl)
        clear HY1 HN1
        gi_wp2_with fail
        try (refine ⟨fun _ _ => trivial, ?_⟩; gi_wp2_with fail)
        refine ⟨Still.of_no HK6.out, ⟨?_, HK6.out.heap HE.out.by' id, HK6.out.heap HE.out.bs id, HK6.out.heap HE.out.bf id, HK6.out.heap HE.out.b0 id⟩⟩
        rw [Hno.out]
        exact HJd.out _ _ _ HE.out.j (Loose.of_no HK6.out)
  case done =>
    rintro D W' hD hI hK
    have HJn : Hid (J (ents a n sl f).length (W'.putObj D (.deferred none))) := HJd.out _ _ _ hI.j (Loose.putObj _ (by have := HZ2.out; omega) hK rfl)
    clear hI
    gi_wp2
    refine ⟨by simp, .inl ⟨_, _, rfl, run_takeDeferred hK, ?_⟩⟩
    exact ⟨_, results_none rfl _ _ _, ⟨_, rfl⟩, .inl HJn.out⟩
  case stop =>
    rintro D k W' hD ⟨c, hc, hX⟩ hK
    have HJn : Hid (Jx c (W'.putObj D (.deferred none))) := HJx.out _ _ _ hX (Loose.putObj _ (by have := HZ2.out; omega) hK rfl)
    clear hX
    gi_wp2
    refine ⟨by simp, .inl ⟨_, _, rfl, run_takeDeferred hK, ?_⟩⟩
    exact ⟨_, results_none rfl _ _ _, ⟨_, rfl⟩, .inr ⟨c, hc, HJn.out⟩⟩
end Go.Proofs.Ythefmfjlinpepaa
