/- place: the block behind which there is room. -/
import Derived.Test.YtdaklohfecinjaaA12
import Derived.LaidEqlPtr
namespace Go.Proofs.Ytdaklohfecinjaa
open Go.RowKit Go.Shelf
set_option linter.unusedSimpArgs false
set_option linter.unusedVariables false
attribute [local go_sem] Oper.semAt_some

/-- While place goes over the order. -/
structure PI (A C M F size least n : Nat) (l : List Nd) (S Bb Ba : Nat) (pr : Option Nat) (k : Nat) (W : World) : Prop where
  no : ∀ i, i < k → gap l size i < n
  fl : ∃ j, ∃ hj : j < l.length, (∀ i, i < j → gap l size i = 0) ∧ W.heap[A]? = some (ar C M F l[j].p size least)
  b1 : W.heap[S]? = some (.cells #[.pointer (some ⟨A, 0, none⟩)] 23 (0, 0))
  b2 : W.heap[S + 1]? = some (.cells #[.int .i64 (n : Int)] 3 (0, 0))
  b3 : W.heap[S + 1 + 1]? = some (.cells #[.pointer none] 59 (0, 0))
  it : Iter W A Bb Ba size pr l
/-- Where place has found room. -/
structure PX (A C M F size least n : Nat) (l : List Nd) (S : Nat) (k : Nat) (W : World) : Prop where
  at' : ∃ i, ∃ hi : i < l.length, (n : Int) ≤ gap l size i ∧ (∀ i', i' < i → gap l size i' < n) ∧ W.heap[S + 1 + 1]? = some (.cells #[.pointer (some ⟨l[i].p, 0, none⟩)] 59 (0, 0))
  fl : ∃ j, ∃ hj : j < l.length, (∀ i, i < j → gap l size i = 0) ∧ W.heap[A]? = some (ar C M F l[j].p size least)

theorem PI.loose {A C M F size least n S Bb Ba k B : Nat} {l : List Nd} {pr : Option Nat} {W W' : World} (h : PI A C M F size least n l S Bb Ba pr k W) (hl : Loose B W W') : PI A C M F size least n l S Bb Ba pr k W' :=
  ⟨h.no, by obtain ⟨j, hj, h1, h2⟩ := h.fl; exact ⟨j, hj, h1, hl.cells h2⟩, hl.cells h.b1, hl.cells h.b2, hl.cells h.b3, h.it.loose hl⟩
theorem PX.loose {A C M F size least n S k B : Nat} {l : List Nd} {W W' : World} (h : PX A C M F size least n l S k W) (hl : Loose B W W') : PX A C M F size least n l S k W' :=
  ⟨by obtain ⟨i, hi, h1, h2, h3⟩ := h.at'; exact ⟨i, hi, h1, h2, hl.cells h3⟩, by obtain ⟨j, hj, h1, h2⟩ := h.fl; exact ⟨j, hj, h1, hl.cells h2⟩⟩

theorem size61 : (Try.prog.info? 61).map (·.size) = some 4 := by kernel_rfl
theorem eq_same (w : World) (p : Nat) : (binOp .eql 59 (.pointer (some ⟨p, 0, none⟩)) (.pointer (some ⟨p, 0, none⟩))).run Try.prog w = .ok (.bool true) w := by
  have h := size61
  cases hi : Try.prog.info? 61 with
  | none => rw [hi] at h; cases h
  | some j => exact run_eql_ptr_same w _ Try.underlying59 hi
theorem eq_other (w : World) {p q a s b t : Nat} {ah bh ah' bh' : Option Nat} (hp : w.heap[p]? = some (nd a s ah bh)) (hq : w.heap[q]? = some (nd b t ah' bh')) (hne : p ≠ q) :
    (binOp .eql 59 (.pointer (some ⟨p, 0, none⟩)) (.pointer (some ⟨q, 0, none⟩))).run Try.prog w = .ok (.bool false) w := by
  have h := size61
  cases hi : Try.prog.info? 61 with
  | none => rw [hi] at h; cases h
  | some j =>
    rw [hi] at h
    exact run_eql_ptr_other w Try.underlying59 hi (by simp at h; omega) (fun e => hne (congrArg Addr.block e)) hp hq

theorem nodup_at {ps : List Nat} (h : ps.Nodup) {i j : Nat} (hi : i < ps.length) (hj : j < ps.length) (e : ps[i] = ps[j]) : i = j := by
  have h1 := h.idxOf_getElem i hi
  have h2 := h.idxOf_getElem j hj
  rw [e] at h1; omega

/-- place goes on: nothing has turned. -/
theorem PI.step {A C M F size least n S Bb Ba k : Nat} {l : List Nd} {pr : Option Nat} {W : World} (h : PI A C M F size least n l S Bb Ba pr k W) (hg : gap l size k < n) : PI A C M F size least n l S Bb Ba pr (k + 1) W :=
  ⟨fun i hi => by
    by_cases e : i = k
    · rw [e]; exact hg
    · exact h.no i (by omega), h.fl, h.b1, h.b2, h.b3, h.it⟩
/-- .. the full one is the next one. -/
theorem PI.next {A C M F size least n S Bb Ba k q' : Nat} {l : List Nd} {pr : Option Nat} {W W' : World} (h : PI A C M F size least n l S Bb Ba pr k W) (hnd : (l.map Nd.p).Nodup) (hg : gap l size k < n) (hz : gap l size k = 0) (hk : k < l.length)
    (hA : W.heap[A]? = some (ar C M F l[k].p size least)) (hq : (l.map Nd.p)[k + 1]? = some q') (hlt : ∀ x ∈ l, x.p ≠ A) (hS : A < S) (hBb : A < Bb) (hBa : A < Ba)
    (hW : W' = (W.setCell ⟨A, 3, none⟩ (.pointer (some ⟨q', 0, none⟩))).drew) : PI A C M F size least n l S Bb Ba pr (k + 1) W' := by
  have h1 : k + 1 < l.length := by have := (List.getElem?_eq_some_iff.1 hq).1; simpa using this
  have hq1 : l[k + 1].p = q' := by rw [List.getElem?_map, List.getElem?_eq_getElem h1] at hq; exact Option.some.inj hq
  have kk : Kept (Only A) W W' := by rw [hW]; exact (Kept.one W A 3 _).drew
  have hA' : W'.heap[A]? = some (ar C M F q' size least) := by rw [hW]; exact hp_set_same hA 3 _
  refine ⟨(h.step hg).no, ⟨k + 1, h1, ?_, by rw [hq1]; exact hA'⟩, kk.heap h.b1 (by unfold Only; omega), kk.heap h.b2 (by unfold Only; omega), kk.heap h.b3 (by unfold Only; omega), ?_⟩
  · obtain ⟨j, hj, hj0, hjA⟩ := h.fl
    have e : l[j].p = l[k].p := by
      rw [hA] at hjA; simp [ar] at hjA; exact hjA.symm
    have : j = k := nodup_at hnd (i := j) (j := k) (by simpa using hj) (by simpa using hk) (by simpa using e)
    subst this
    intro i hi
    by_cases e : i = j
    · rw [e]; exact hz
    · exact hj0 i (by omega)
  · exact ⟨kk.heap h.it.bb (by unfold Only; omega), kk.heap h.it.ba (by unfold Only; omega), ⟨C, M, F, _, least, hA'⟩, h.it.seg.kept kk (fun x hx e => hlt x hx e), h.it.bd, h.it.sz⟩

set_option maxRecDepth 100000 in
set_option maxHeartbeats 1000000 in
theorem place_any {A C M F f size least n : Nat} {pr : Option Nat} (l : List Nd) (w : World) (hA : w.heap[A]? = some (ar C M F f size least)) (hs : Seg w pr l none) (hh : hd l none = some f) (hnd : (l.map Nd.p).Nodup) (hbd : ∀ x ∈ l, x.a + x.s ≤ 65536) (hsz : size ≤ 65536) (hn : 1 ≤ n) :
    Calls Try.prog 58 #[.pointer (some ⟨A, 0, none⟩), .int .i64 n] w fun e w' => ∃ r, e = .returned (.pointer (pt r)) ∧
      ((∃ k, ∃ hk : k < l.length, r = some l[k].p ∧ (n : Int) ≤ gap l size k ∧ ∀ i, i < k → gap l size i < n) ∨ (r = none ∧ ∀ i, i < l.length → gap l size i < n)) ∧
      (∃ j, ∃ hj : j < l.length, (∀ i, i < j → gap l size i = 0) ∧ w'.heap[A]? = some (ar C M F l[j].p size least)) ∧ Kept (Only A) w w' := by
  have HA : Hid (w.heap[A]? = some (ar C M F f size least)) := hA
  have HS : Hid (Seg w pr l none ∧ hd l none = some f ∧ (l.map Nd.p).Nodup ∧ (∀ x ∈ l, x.a + x.s ≤ 65536)) := ⟨hs, hh, hnd, hbd⟩
  obtain ⟨a0, a1, a2, a3, a4⟩ := ar_cells hA
  have hAlt := hp_lt hA
  clear hA hs hh hnd hbd
  refine (callsIn_wide (n := 5)).1 ?_
  refine callsIn_of_wp_marks Try.func58 rfl trivial ?_ rfl
  simp only [Try.ntmps58, List.size_toArray, List.length_cons, List.length_nil, Nat.reduceAdd, Nat.reduceSub, Array.replicate_succ, Array.replicate_zero, List.push_toArray, List.append_toArray, List.nil_append, List.cons_append]
  have hmx : Try.prog.follows .mixedOrders = true := by kernel_rfl
  gi_wp2
  obtain ⟨W0, HW0⟩ : ∃ W0, Hid (W0 = ((w.alloc (.cells #[.pointer (some ⟨A, 0, none⟩)] 23)).alloc (.cells #[.int .i64 (n : Int)] 3)).alloc (.cells #[.pointer none] 59)) := ⟨_, rfl⟩
  rw [← HW0.out]
  have K0 : Hid (Kept No w W0) := by show Kept _ _ _; rw [HW0.out]; exact (((Kept.refl _ _).alloc _).alloc _).alloc _
  have z0 : Hid (W0.heap.size = w.heap.size + 3) := by show _ = _; rw [HW0.out]; simp
  have B1 : Hid (W0.heap[w.heap.size]? = some (.cells #[.pointer (some ⟨A, 0, none⟩)] 23 (0, 0))) := by
    show _ = _; rw [HW0.out]; exact Boxed.alloc (Boxed.alloc (Boxed.new w 23 _) _) _
  have B2 : Hid (W0.heap[w.heap.size + 1]? = some (.cells #[.int .i64 (n : Int)] 3 (0, 0))) := by
    show _ = _; rw [HW0.out]; have := Boxed.alloc (Boxed.new (w.alloc (.cells #[.pointer (some ⟨A, 0, none⟩)] 23)) 3 (.int .i64 (n : Int))) (.cells #[.pointer none] 59); simp only [World.size_alloc] at this; exact this
  have B3 : Hid (W0.heap[w.heap.size + 1 + 1]? = some (.cells #[.pointer none] 59 (0, 0))) := by
    show _ = _; rw [HW0.out]; have := Boxed.new ((w.alloc (.cells #[.pointer (some ⟨A, 0, none⟩)] 23)).alloc (.cells #[.int .i64 (n : Int)] 3)) 59 (.pointer none); simp only [World.size_alloc] at this; exact this
  have HA0 : Hid (W0.heap[A]? = some (ar C M F f size least)) := K0.out.heap HA.out id
  have c1 : W0.cell? ⟨w.heap.size, 0, none⟩ = some (.pointer (some ⟨A, 0, none⟩)) := by rw [cell_of B1.out]; rfl
  have c3 := (ar_cells HA0.out).2.2.2.1
  clear a0 a1 a2 a3 a4
  first | (gi_region_with_o (first | (refine ⟨trivial, ?_⟩; gi_at_call 55; refine (callsIn_wide.2 (inOrder_any _ _ _)).mono ?_; rintro e w' ⟨rfl, rfl⟩) | (gi_at_call 55; refine (callsIn_wide.2 (inOrder_any _ _ _)).mono ?_; rintro e w' ⟨rfl, rfl⟩))) | fail
  all_goals
    gi_wp2
    obtain ⟨W1, HW1⟩ : ∃ W1, Hid (W1 = ((W0.alloc (.cells #[.pointer (some ⟨A, 0, none⟩)] 23)).alloc (.cells #[.pointer (some ⟨f, 0, none⟩)] 59)).drew) := ⟨_, rfl⟩
    rw [← HW1.out]
    have K1 : Hid (Kept No w W1) := by show Kept _ _ _; rw [HW1.out]; exact ((K0.out.alloc _).alloc _).drew
    have K01 : Hid (Kept No W0 W1) := by show Kept _ _ _; rw [HW1.out]; exact (((Kept.refl _ _).alloc _).alloc _).drew
    have z1 : Hid (W1.heap.size = w.heap.size + 5) := by show _ = _; rw [HW1.out]; show ((W0.alloc _).alloc _).heap.size = _; simp [z0.out]
    have D1 : Hid (W1.heap[W0.heap.size]? = some (.cells #[.pointer (some ⟨A, 0, none⟩)] 23 (0, 0))) := by
      show _ = _; rw [HW1.out]; exact Boxed.alloc (Boxed.new W0 23 _) _
    have D2 : Hid (W1.heap[W0.heap.size + 1]? = some (.cells #[.pointer (some ⟨f, 0, none⟩)] 59 (0, 0))) := by
      show _ = _; rw [HW1.out]; have := Boxed.new (W0.alloc (.cells #[.pointer (some ⟨A, 0, none⟩)] 23)) 59 (.pointer (some ⟨f, 0, none⟩)); simp only [World.size_alloc] at this; exact this
    have hl0 : 0 < l.length := by cases l with | nil => cases HS.out.2.1 | cons x r => simp
    have hf0 : Hid (l[0].p = f) := by show _ = _; cases l with | nil => cases HS.out.2.1 | cons x r => exact Option.some.inj HS.out.2.1
    refine range_io (by decide) rfl A size (l.map Nd.p) HS.out.2.2.1
      (fun k W => PI A C M F size least n l w.heap.size (W0.heap.size + 1) W0.heap.size pr k W ∧ Kept (Only A) w W)
      (fun k W => PX A C M F size least n l w.heap.size k W ∧ Kept (Only A) w W)
      (fun k W W' h hl => ⟨h.1.loose hl, Loose.kept h.2 hl (by rw [z1.out]; omega)⟩)
      (fun k W W' h hl => ⟨h.1.loose hl, Loose.kept h.2 hl (by rw [z1.out]; omega)⟩)
      ?h0 (fun k W h => ⟨pr, l, h.1.it, rfl⟩)
      (fun x y => { tmps := #[.pointer (some ⟨A, 0, none⟩), .int .i64 n, .pointer (some ⟨w.heap.size, 0, none⟩), .pointer (some ⟨w.heap.size + 1, 0, none⟩), .pointer (some ⟨w.heap.size + 1 + 1, 0, none⟩), x, y, .pointer (some ⟨A, 0, none⟩), .pointer (some ⟨A, 0, none⟩), .pointer (some ⟨A, 0, none⟩), .pointer (some ⟨A, 3, none⟩), .pointer (some ⟨f, 0, none⟩),
        .func (.func 72) #[] #[.pointer (some ⟨W0.heap.size + 1, 0, none⟩), .pointer (some ⟨W0.heap.size, 0, none⟩)], x, y, undef, undef, undef, undef, undef, undef, undef, undef, undef, undef, undef, undef, undef, undef, undef, undef, undef, undef, undef, undef, undef, undef, undef, undef, undef, undef, undef, undef], defers := [] })
      ?assign ?body ?done ?stop
    case h0 =>
      exact ⟨⟨fun i hi => by omega, ⟨0, hl0, fun i hi => by omega, by rw [hf0.out]; exact K1.out.heap HA.out id⟩, K01.out.heap B1.out id, K01.out.heap B2.out id, K01.out.heap B3.out id,
        ⟨by rw [HS.out.2.1]; exact D2.out, D1.out, ⟨C, M, F, f, least, K1.out.heap HA.out id⟩, HS.out.1.kept K1.out (fun _ _ => id), HS.out.2.2.2, hsz⟩⟩, K1.out.no⟩
    case assign =>
      intro l' x y W K hK
      gi_wp2
      exact hK
    case body =>
      rintro l' k pr' L W ⟨hI, hk0⟩ hit' hps hk
      obtain rfl : L = l := seg_fn hit'.seg hI.it.seg hps
      obtain ⟨p, a, s, ah, hpk, hx, hbx, ⟨hkL, hLk⟩, _⟩ := hI.it.look rfl (k := k) (by simpa using hk)
      obtain ⟨j, hj, hj0, hjA⟩ := hI.fl
      have c1 : W.cell? ⟨w.heap.size, 0, none⟩ = some (.pointer (some ⟨A, 0, none⟩)) := by rw [cell_of hI.b1]; rfl
      have c2 : W.cell? ⟨w.heap.size + 1, 0, none⟩ = some (.int .i64 (n : Int)) := by rw [cell_of hI.b2]; rfl
      have c3 : W.cell? ⟨w.heap.size + 1 + 1, 0, none⟩ = some (.pointer none) := by rw [cell_of hI.b3]; rfl
      have f3 : W.frozen? ⟨w.heap.size + 1 + 1, 0, none⟩ = false := frozen_of hI.b3 0
      have c4 := (ar_cells hjA).2.2.2.1
      have f4 := (ar_frozen hjA).1
      obtain ⟨x0, x1, x2, x3⟩ := nd_cells hx
      have HI : Hid (PI A C M F size least n L w.heap.size (W0.heap.size + 1) W0.heap.size pr k W ∧ Kept (Only A) w W) := ⟨hI, hk0⟩
      have HJ : Hid (W.heap[A]? = some (ar C M F L[j].p size least)) := hjA
      have hlt := HS.out.1.lt (x := L[k]) (List.getElem_mem hk)
      have HX : Hid (W.heap[p]? = some (nd a s ah (L.map Nd.p)[k + 1]?)) := hx
      clear hI hk0 hit' hps hjA hx
      have HLk : Hid (L[k].p = p) := by show _ = _; rw [hLk]
      have HP : Hid ((L.map Nd.p)[k]? = some p) := hpk
      have HAn : Hid (∀ x ∈ L, x.p ≠ A) := fun x hx e => by
        obtain ⟨i, hi, rfl⟩ := List.getElem_of_mem hx
        obtain ⟨ah', hx'⟩ := HI.out.1.it.seg.at hi
        exact ar_nd HJ.out hx' e.symm
      rw [hLk]
      dsimp only
      clear hLk hpk hlt
      obtain ⟨g, HG⟩ : ∃ g, Hid (gap L size k = g) := ⟨_, rfl⟩
      rw [HG.out]
      obtain ⟨q, HQ⟩ : ∃ q, Hid (L[j].p = q) := ⟨L[j].p, show _ = _ from rfl⟩
      rw [HQ.out] at c4
      by_cases hg : (n : Int) ≤ g
      · gi_wp2
        have kk : Kept (Only (w.heap.size + 1 + 1)) W (W.setCell ⟨w.heap.size + 1 + 1, 0, none⟩ (.pointer (some ⟨p, 0, none⟩))) := Kept.one W _ 0 _
        exact ⟨Still.one kk HI.out.1.b3, ⟨⟨k, hk, by rw [HG.out]; exact hg, HI.out.1.no, by rw [HLk.out]; exact hp_set_same HI.out.1.b3 0 _⟩, ⟨j, hj, hj0, kk.heap HJ.out (by unfold Only; omega)⟩⟩, HI.out.2.set _ 0 _ (.inr (by omega))⟩
      · have hg' : gap L size k < n := by rw [HG.out]; omega
        have HG' : Hid (gap L size k < n) := hg'
        clear hg'
        by_cases hz : g = 0
        · subst hz
          by_cases hpq : p = q
          · subst hpq
            have heq := eq_same W p
            obtain ⟨nx, HN⟩ : ∃ nx, Hid ((L.map Nd.p)[k + 1]? = nx) := ⟨_, rfl⟩
            rw [HN.out] at x3
            cases nx with
            | none =>
              rw [pt_none] at x3
              gi_wp2
              exact ⟨Still.refl _ _, HI.out.1.step HG'.out, HI.out.2⟩
            | some q' =>
              rw [pt_some] at x3
              gi_wp2
              first | (gi_region_with_o (fail)) | fail
              all_goals
                gi_wp2
                have kk : Kept (Only A) W (W.setCell ⟨A, 3, none⟩ (.pointer (some ⟨q', 0, none⟩))).drew := (Kept.one W A 3 _).drew
                exact ⟨Still.one kk HJ.out, HI.out.1.next HS.out.2.2.1 HG'.out HG.out hk (by rw [HLk.out, ← HQ.out]; exact HJ.out) HN.out HAn.out hAlt (by have := z0.out; omega) (by have := z0.out; omega) rfl, (HI.out.2.set A 3 _ (.inl rfl)).drew⟩
          · have heq : (binOp .eql 59 (.pointer (some ⟨p, 0, none⟩)) (.pointer (some ⟨q, 0, none⟩))).run Try.prog W = .ok (.bool false) W := by
              obtain ⟨ah', hq'⟩ := HI.out.1.it.seg.at hj
              rw [HQ.out] at hq'
              exact eq_other W HX.out hq' hpq
            gi_wp2
            exact ⟨Still.refl _ _, HI.out.1.step HG'.out, HI.out.2⟩
        · have hz' : (g == 0) = false := by simpa using hz
          gi_wp2
          exact ⟨Still.refl _ _, HI.out.1.step HG'.out, HI.out.2⟩
    case done =>
      rintro D W hD ⟨hI, hk0⟩ hK
      rw [List.length_map] at hI
      have c3 : W.cell? ⟨w.heap.size + 1 + 1, 0, none⟩ = some (.pointer none) := by rw [cell_of hI.b3]; rfl
      have f3 : W.frozen? ⟨w.heap.size + 1 + 1, 0, none⟩ = false := frozen_of hI.b3 0
      have HI : Hid (PI A C M F size least n l w.heap.size (W0.heap.size + 1) W0.heap.size pr l.length W ∧ Kept (Only A) w W) := ⟨hI, hk0⟩
      clear hI hk0
      gi_wp2
      have hD' : w.heap.size + 5 ≤ D := by have := z1.out; omega
      have hK' := (KeepsOthers.setCell W ⟨w.heap.size + 1 + 1, 0, none⟩ (.pointer none)).same D _ hK rfl
      refine ⟨by simp, .inl ⟨_, _, rfl, run_takeDeferred hK', ?_⟩⟩
      have hc5 := cell_kept (World.cell?_setCell_same' W ⟨w.heap.size + 1 + 1, 0, none⟩ (.pointer none) (by rw [c3]; rfl)) (grownBy_putObj' _ D (.deferred none)) (fun r e => by cases e; exact ⟨_, hK', rfl⟩)
      obtain ⟨j, hj, hj0, hjA⟩ := HI.out.1.fl
      refine ⟨.pointer none, ?_, none, rfl, .inr ⟨rfl, HI.out.1.no⟩, ⟨j, hj, hj0, ?_⟩, (HI.out.2.set _ 0 _ (.inr (by omega))).putObj _ (by omega)⟩
      · simp [results, Try.f58, go_sem, hc5]
      · rw [World.putObj_heap_other (by omega)]; exact hp_set_other hjA 0 _ (by omega)
    case stop =>
      rintro D k W hD ⟨hX, hk0⟩ hK
      obtain ⟨i, hi, hi1, hi2, hi3⟩ := hX.at'
      obtain ⟨j, hj, hj0, hjA⟩ := hX.fl
      have HX : Hid (PX A C M F size least n l w.heap.size k W ∧ Kept (Only A) w W) := ⟨hX, hk0⟩
      have c3 : W.cell? ⟨w.heap.size + 1 + 1, 0, none⟩ = some (.pointer (some ⟨l[i].p, 0, none⟩)) := by rw [cell_of hi3]; rfl
      have HI2 : Hid (∀ i', i' < i → gap l size i' < n) := hi2
      have HJ0 : Hid (∀ i', i' < j → gap l size i' = 0) := hj0
      have HJA : Hid (W.heap[A]? = some (ar C M F l[j].p size least)) := hjA
      clear hX hk0 hi2 hi3 hj0 hjA
      gi_wp2
      have hD' : w.heap.size + 5 ≤ D := by have := z1.out; omega
      refine ⟨by simp, .inl ⟨_, _, rfl, run_takeDeferred hK, ?_⟩⟩
      have hc5 := cell_kept c3 (grownBy_putObj' _ D (.deferred none)) (fun r e => by cases e; exact ⟨_, hK, rfl⟩)
      refine ⟨.pointer (some ⟨l[i].p, 0, none⟩), ?_, some l[i].p, rfl, .inl ⟨i, hi, rfl, hi1, HI2.out⟩, ⟨j, hj, HJ0.out, ?_⟩, HX.out.2.putObj _ (by omega)⟩
      · simp [results, Try.f58, go_sem, hc5]
      · rw [World.putObj_heap_other (by have := hp_lt HJA.out; omega)]; exact HJA.out
end Go.Proofs.Ytdaklohfecinjaa
