/- Compact. -/
import Derived.Test.YtdaklohfecinjaaR0
namespace Go.Proofs.Ytdaklohfecinjaa
open Go.RowKit Go.Shelf
set_option linter.unusedSimpArgs false
set_option linter.unusedVariables false
attribute [local go_sem] Oper.semAt_some

/-- What Compact may turn. -/
def CS (C : Nat) (l : List Nd) : Nat → Prop := fun j => j = C ∨ j ∈ l.map Nd.p

/-- While Compact goes over the order. -/
structure CI (A C M F f size least : Nat) (cs : List Int) (l : List Nd) (S Bb Ba : Nat) (k : Nat) (W : World) : Prop where
  b1 : W.heap[S]? = some (.cells #[.pointer (some ⟨A, 0, none⟩)] 23 (0, 0))
  b2 : W.heap[S + 1]? = some (.cells #[.int .i64 (mv l k : Nat)] 3 (0, 0))
  b3 : W.heap[S + 1 + 1]? = some (.cells #[.int .i64 (sumS (l.take k) : Nat)] 3 (0, 0))
  hA : W.heap[A]? = some (ar C M F f size least)
  hC : W.heap[C]? = some (cl (cc cs l k))
  it : Iter W A Bb Ba size none (cmpK l k)

theorem CI.loose {A C M F f size least S Bb Ba k B : Nat} {cs : List Int} {l : List Nd} {W W' : World} (h : CI A C M F f size least cs l S Bb Ba k W) (hl : Loose B W W') : CI A C M F f size least cs l S Bb Ba k W' :=
  ⟨hl.cells h.b1, hl.cells h.b2, hl.cells h.b3, hl.cells h.hA, hl.cells h.hC, h.it.loose hl⟩

theorem hd_map : ∀ {l l' : List Nd} {n : Option Nat}, l.map Nd.p = l'.map Nd.p → hd l n = hd l' n
  | [], [], _, _ => rfl
  | x :: _, y :: _, _, e => by simp at e; exact congrArg some e.1
  | [], _ :: _, _, e => by simp at e
  | _ :: _, [], _, e => by simp at e

/-- lay, with what it leaves kept from the walk. -/
theorem lay_hid {A C M F f size least b ba bs at' n : Nat} {xs : List Int} {bp bn : Option Nat} (w : World) (hA : w.heap[A]? = some (ar C M F f size least)) (hC : w.heap[C]? = some (cl xs)) (hxs : xs.length = size)
    (hb : w.heap[b]? = some (nd ba bs bp bn)) (hn : 1 ≤ n) (h1 : ba + bs ≤ size) (h2 : at' + n ≤ size) (h3 : size ≤ 65536) (h4 : ba < size) :
    Calls Try.prog 62 #[.pointer (some ⟨A, 0, none⟩), .pointer (some ⟨b, 0, none⟩), .int .i64 at', .int .i64 n] w fun e w' => ∃ v, e = .returned v ∧ Hid (w'.heap[C]? = some (cl (layC xs ba (min n bs) at' n)) ∧ w'.heap[b]? = some (nd at' n bp bn) ∧
      Kept (fun k => k = C ∨ k = b) w w' ∧ w'.heap.size = w.heap.size) :=
  (lay_any w hA hC hxs hb hn h1 h2 h3 h4).mono (fun e w' ⟨⟨v, he⟩, h⟩ => ⟨v, he, h⟩)

/-- What one round of Compact may turn. -/
def CR (C p S : Nat) : Nat → Prop := fun j => j = C ∨ j = p ∨ j = S + 1 ∨ j = S + 1 + 1

theorem cells_ne {W : World} {i j : Nat} {c c' : Array Value} {e e' : TypeId} {f f' : Nat × Nat} (hi : W.heap[i]? = some (.cells c e f)) (hj : W.heap[j]? = some (.cells c' e' f')) (h : e ≠ e') : i ≠ j := by
  rintro rfl; rw [hi] at hj; cases hj; exact h rfl

theorem CI.step {A C M F f size least S Bb Ba k : Nat} {cs : List Int} {l : List Nd} {W W' : World} (h : CI A C M F f size least cs l S Bb Ba k W) (hk : k < l.length) (hnd : (l.map Nd.p).Nodup) (hg : Geo size 0 l) (hb1 : Bb ≠ S + 1) (hb2 : Bb ≠ S + 1 + 1)
    (kk : Kept (CR C l[k].p S) W W') (h2 : W'.heap[S + 1]? = some (.cells #[.int .i64 (mv l (k + 1) : Nat)] 3 (0, 0))) (h3 : W'.heap[S + 1 + 1]? = some (.cells #[.int .i64 (sumS (l.take (k + 1)) : Nat)] 3 (0, 0)))
    (hC : W'.heap[C]? = some (cl (cc cs l (k + 1)))) (hp : ∀ ah bh, W.heap[l[k].p]? = some (nd l[k].a l[k].s ah bh) → W'.heap[l[k].p]? = some (nd (sumS (l.take k)) l[k].s ah bh)) :
    CI A C M F f size least cs l S Bb Ba (k + 1) W' := by
  have hseg := h.it.seg
  rw [cmpK_split hk, Seg_append] at hseg
  obtain ⟨hX, hx, hY⟩ := hseg
  have hmap := cmpK_map l k
  rw [cmpK_split hk, List.map_append, List.map_cons] at hmap
  have hnd' := hnd
  rw [← hmap, List.nodup_append] at hnd'
  obtain ⟨_, hn2, hn3⟩ := hnd'
  have hn2' := (List.nodup_cons.1 hn2).1
  have hA : ¬ CR C l[k].p S A := by
    rintro (e | e | e | e)
    · exact cl_ar h.hC h.hA e.symm
    · exact ar_nd h.hA hx e
    · exact cells_ne h.hA h.b2 (by decide) e
    · exact cells_ne h.hA h.b3 (by decide) e
  have hno : ∀ y ∈ cmpK l k, y.p ≠ l[k].p → ¬ CR C l[k].p S y.p := by
    rintro y hy hne (e | e | e | e)
    · obtain ⟨i, hi, rfl⟩ := List.getElem_of_mem hy
      obtain ⟨ah, hy'⟩ := h.it.seg.at hi
      exact cl_nd h.hC hy' e.symm
    · exact hne e
    · obtain ⟨i, hi, rfl⟩ := List.getElem_of_mem hy
      obtain ⟨ah, hy'⟩ := h.it.seg.at hi
      exact cells_ne hy' h.b2 (by decide) e
    · obtain ⟨i, hi, rfl⟩ := List.getElem_of_mem hy
      obtain ⟨ah, hy'⟩ := h.it.seg.at hi
      exact cells_ne hy' h.b3 (by decide) e
  refine ⟨kk.heap h.b1 ?_, h2, h3, kk.heap h.hA hA, hC, ⟨?_, kk.heap h.it.ba ?_, ⟨C, M, F, f, least, kk.heap h.hA hA⟩, ?_, ?_, h.it.sz⟩⟩
  · rintro (e | e | e | e)
    · exact cells_ne h.b1 h.hC (by decide) e
    · exact cells_ne h.b1 hx (by decide) e
    · omega
    · omega
  · rw [hd_map (l' := cmpK l k) (by rw [cmpK_map, cmpK_map])]
    refine kk.heap h.it.bb ?_
    rintro (e | e | e | e)
    · exact cells_ne h.it.bb h.hC (by decide) e
    · exact cells_ne h.it.bb hx (by decide) e
    · exact hb1 e
    · exact hb2 e
  · rintro (e | e | e | e)
    · exact cells_ne h.it.ba h.hC (by decide) e
    · exact cells_ne h.it.ba hx (by decide) e
    · exact cells_ne h.it.ba h.b2 (by decide) e
    · exact cells_ne h.it.ba h.b3 (by decide) e
  · rw [cmpK_succ hk, Seg_append]
    refine ⟨hX.kept kk (fun y hy => hno y (by rw [cmpK_split hk]; exact List.mem_append.2 (.inl hy)) ?_), hp _ _ hx, hY.kept kk (fun y hy => hno y (by rw [cmpK_split hk]; exact List.mem_append.2 (.inr (List.mem_cons_of_mem _ hy))) ?_)⟩
    · intro e; exact hn3 y.p (List.mem_map_of_mem hy) l[k].p (by simp) e
    · intro e; exact hn2' (by rw [← e]; exact List.mem_map_of_mem hy)
  · intro y hy
    rw [cmpK_succ hk] at hy
    rcases List.mem_append.1 hy with hy | hy
    · exact h.it.bd y (by rw [cmpK_split hk]; exact List.mem_append.2 (.inl hy))
    · rcases List.mem_cons.1 hy with rfl | hy
      · have := h.it.bd l[k] (by rw [cmpK_split hk]; exact List.mem_append.2 (.inr List.mem_cons_self))
        have := (hg.at k hk).1
        dsimp only; omega
      · exact h.it.bd y (by rw [cmpK_split hk]; exact List.mem_append.2 (.inr (List.mem_cons_of_mem _ hy)))

set_option maxRecDepth 100000 in
set_option maxHeartbeats 1000000 in
theorem Compact_any {A C M F f size least : Nat} {cs : List Int} (bl l : List Nd) (hl : l = ⟨F, 0, 0⟩ :: bl) (w : World) (hA : w.heap[A]? = some (ar C M F f size least)) (hC : w.heap[C]? = some (cl cs)) (hcs : cs.length = size) (hs : Seg w none l none)
    (hnd : (l.map Nd.p).Nodup) (hg : Geo size 0 l) (hpos : ∀ x ∈ bl, 1 ≤ x.s) (hsz : size ≤ 65536) (hlen : l.length ≤ 100000) :
    Calls Try.prog 31 #[.pointer (some ⟨A, 0, none⟩)] w fun e w' => e = .returned (.int .i64 (mv l l.length : Nat)) ∧ w'.heap[A]? = some (ar C M F f size least) ∧ w'.heap[C]? = some (cl (cc cs l l.length)) ∧ Seg w' none (comp 0 l) none ∧ Kept (CS C l) w w' := by
  have HA : Hid (w.heap[A]? = some (ar C M F f size least)) := hA
  have HC : Hid (w.heap[C]? = some (cl cs) ∧ cs.length = size) := ⟨hC, hcs⟩
  have HS : Hid (Seg w none l none ∧ hd l none = some F ∧ (l.map Nd.p).Nodup ∧ Geo size 0 l) := ⟨hs, by rw [hl]; rfl, hnd, hg⟩
  have HP : Hid (∀ k (hk : k < l.length), l[k].a ≠ sumS (l.take k) → 1 ≤ l[k].s) := by
    intro k hk
    cases k with
    | zero => intro h; subst hl; exact absurd rfl h
    | succ k => intro _; subst hl; exact hpos _ (List.getElem_mem _)
  obtain ⟨a0, a1, a2, a3, a4⟩ := ar_cells hA
  have hAlt := hp_lt hA
  have hClt := hp_lt hC
  clear hA hs hnd hC hcs hl hg hpos
  refine (callsIn_wide (n := 6)).1 ?_
  refine callsIn_of_wp_marks Try.func31 rfl trivial ?_ rfl
  simp only [Try.ntmps31, List.size_toArray, List.length_cons, List.length_nil, Nat.reduceAdd, Nat.reduceSub, Array.replicate_succ, Array.replicate_zero, List.push_toArray, List.append_toArray, List.nil_append, List.cons_append]
  have hmx : Try.prog.follows .mixedOrders = true := by kernel_rfl
  have HAa : Hid (∀ o, (w.alloc o).heap[A]? = some (ar C M F f size least)) := fun o => ((Kept.refl No w).alloc o).heap HA.out id
  gi_wp2_with (refine ⟨trivial, ?_⟩; gi_at_call 52; refine (callsIn_wide.2 (made_any _ (HAa.out _))).mono ?_; rintro e w' ⟨rfl, rfl⟩)
  obtain ⟨W0, HW0⟩ : ∃ W0, Hid (W0 = ((w.alloc (.cells #[.pointer (some ⟨A, 0, none⟩)] 23)).alloc (.cells #[.int .i64 0] 3)).alloc (.cells #[.int .i64 0] 3)) := ⟨_, rfl⟩
  rw [← HW0.out]
  have K0 : Hid (Kept No w W0) := by show Kept _ _ _; rw [HW0.out]; exact (((Kept.refl _ _).alloc _).alloc _).alloc _
  have z0 : Hid (W0.heap.size = w.heap.size + 3) := by show _ = _; rw [HW0.out]; simp
  have B1 : Hid (W0.heap[w.heap.size]? = some (.cells #[.pointer (some ⟨A, 0, none⟩)] 23 (0, 0))) := by
    show _ = _; rw [HW0.out]; exact Boxed.alloc (Boxed.alloc (Boxed.new w 23 _) _) _
  have B2 : Hid (W0.heap[w.heap.size + 1]? = some (.cells #[.int .i64 0] 3 (0, 0))) := by
    show _ = _; rw [HW0.out]; have := Boxed.alloc (Boxed.new (w.alloc (.cells #[.pointer (some ⟨A, 0, none⟩)] 23)) 3 (.int .i64 0)) (.cells #[.int .i64 0] 3); simp only [World.size_alloc] at this; exact this
  have B3 : Hid (W0.heap[w.heap.size + 1 + 1]? = some (.cells #[.int .i64 0] 3 (0, 0))) := by
    show _ = _; rw [HW0.out]; have := Boxed.new ((w.alloc (.cells #[.pointer (some ⟨A, 0, none⟩)] 23)).alloc (.cells #[.int .i64 0] 3)) 3 (.int .i64 0); simp only [World.size_alloc] at this; exact this
  have HA0 : Hid (W0.heap[A]? = some (ar C M F f size least)) := K0.out.heap HA.out id
  have c1 : W0.cell? ⟨w.heap.size, 0, none⟩ = some (.pointer (some ⟨A, 0, none⟩)) := by rw [cell_of B1.out]; rfl
  have c3 := (ar_cells HA0.out).2.2.1
  clear a0 a1 a2 a3 a4
  apply once
  case k =>
    intro hOnce
    first | (gi_region_with_o (first | (refine ⟨trivial, ?_⟩; gi_at_call 55; refine (callsIn_wide.2 (inOrder_any _ _ _)).mono ?_; rintro e w' ⟨rfl, rfl⟩) | (gi_at_call 55; refine (callsIn_wide.2 (inOrder_any _ _ _)).mono ?_; rintro e w' ⟨rfl, rfl⟩))) | fail
    all_goals exact hOnce.out
  case h =>
    gi_wp2
    obtain ⟨W1, HW1⟩ : ∃ W1, Hid (W1 = ((W0.alloc (.cells #[.pointer (some ⟨A, 0, none⟩)] 23)).alloc (.cells #[.pointer (some ⟨F, 0, none⟩)] 59)).drew) := ⟨_, rfl⟩
    rw [← HW1.out]
    have K1 : Hid (Kept No w W1) := by show Kept _ _ _; rw [HW1.out]; exact ((K0.out.alloc _).alloc _).drew
    have K01 : Hid (Kept No W0 W1) := by show Kept _ _ _; rw [HW1.out]; exact (((Kept.refl _ _).alloc _).alloc _).drew
    have z1 : Hid (W1.heap.size = w.heap.size + 5) := by show _ = _; rw [HW1.out]; show ((W0.alloc _).alloc _).heap.size = _; simp [z0.out]
    have D1 : Hid (W1.heap[W0.heap.size]? = some (.cells #[.pointer (some ⟨A, 0, none⟩)] 23 (0, 0))) := by
      show _ = _; rw [HW1.out]; exact Boxed.alloc (Boxed.new W0 23 _) _
    have D2 : Hid (W1.heap[W0.heap.size + 1]? = some (.cells #[.pointer (some ⟨F, 0, none⟩)] 59 (0, 0))) := by
      show _ = _; rw [HW1.out]; have := Boxed.new (W0.alloc (.cells #[.pointer (some ⟨A, 0, none⟩)] 23)) 59 (.pointer (some ⟨F, 0, none⟩)); simp only [World.size_alloc] at this; exact this
    refine range_io (by decide) rfl A size (l.map Nd.p) HS.out.2.2.1
      (fun k W => CI A C M F f size least cs l w.heap.size (W0.heap.size + 1) W0.heap.size k W ∧ Kept (CS C l) w W)
      (fun k W => False)
      (fun k W W' h hl => ⟨h.1.loose hl, Loose.kept h.2 hl (by rw [z1.out]; omega)⟩)
      (fun k W W' h hl => h)
      ?h0 (fun k W h => ⟨none, _, h.1.it, cmpK_map l k⟩)
      (fun x y => { tmps := #[.pointer (some ⟨A, 0, none⟩), .pointer (some ⟨w.heap.size, 0, none⟩), .int .i64 0, .pointer (some ⟨w.heap.size + 1, 0, none⟩), .pointer (some ⟨w.heap.size + 1 + 1, 0, none⟩), x, .pointer (some ⟨A, 0, none⟩), .bool true, .bool false, .pointer (some ⟨A, 0, none⟩), .pointer (some ⟨A, 0, none⟩), .pointer (some ⟨A, 0, none⟩), .pointer (some ⟨A, 2, none⟩), .pointer (some ⟨F, 0, none⟩),
        .func (.func 72) #[] #[.pointer (some ⟨W0.heap.size + 1, 0, none⟩), .pointer (some ⟨W0.heap.size, 0, none⟩)], x, y, undef, undef, undef, undef, undef, undef, undef, undef, undef, undef, undef, undef, undef, undef, undef, undef, undef, undef, undef], defers := [] })
      ?assign ?body ?done ?stop
    case h0 =>
      refine ⟨⟨K01.out.heap B1.out id, K01.out.heap B2.out id, K01.out.heap B3.out id, K1.out.heap HA.out id, K1.out.heap HC.out.1 id, ?_⟩, K1.out.no⟩
      rw [cmpK_zero]
      exact ⟨by rw [HS.out.2.1]; exact D2.out, D1.out, ⟨C, M, F, f, least, K1.out.heap HA.out id⟩, HS.out.1.kept K1.out (fun _ _ => id), fun x hx => by have := HS.out.2.2.2.bd x hx; omega, hsz⟩
    case assign =>
      intro l' x y W K hK
      gi_wp2
      exact hK
    case body =>
      rintro l' k pr' L W ⟨hI, hk0⟩ hit' hps hk
      obtain rfl : L = cmpK l k := seg_fn hit'.seg hI.it.seg (by rw [hps, cmpK_map])
      have hkl : k < l.length := by have := cmpK_map l k; have := congrArg List.length this; simp at this; omega
      have hLk' : (cmpK l k)[k] = l[k] := by
        have : (cmpK l k)[k]? = l[k]? := by
          unfold cmpK
          rw [List.getElem?_append_right (by rw [comp_length]; simp; omega), comp_length, List.length_take, Nat.min_eq_left (by omega), Nat.sub_self, List.getElem?_drop]; simp
        rw [List.getElem?_eq_getElem hk, List.getElem?_eq_getElem hkl] at this
        exact Option.some.inj this
      obtain ⟨p, a, s, ah, hpk, hx, hbx, ⟨hkL, hLk⟩, _⟩ := hI.it.look rfl (k := k) (by simpa using hk)
      rw [hLk'] at hLk ⊢
      have HLk : Hid (l[k] = ⟨p, a, s⟩) := hLk
      have HX : Hid (W.heap[p]? = some (nd a s ah ((cmpK l k).map Nd.p)[k + 1]?)) := hx
      obtain ⟨E, HE⟩ : ∃ E, Hid (sumS (l.take k) = E) := ⟨_, rfl⟩
      obtain ⟨V, HV⟩ : ∃ V, Hid (mv l k = V) := ⟨_, rfl⟩
      have hV : V ≤ 100000 := by have := mv_le l k; rw [HV.out] at this; omega
      have hgk := HS.out.2.2.2.at k hkl
      rw [hLk, HE.out] at hgk
      dsimp only at hgk
      obtain ⟨hgk1, hgk2⟩ := hgk
      have c1 : W.cell? ⟨w.heap.size, 0, none⟩ = some (.pointer (some ⟨A, 0, none⟩)) := by rw [cell_of hI.b1]; rfl
      have c2 : W.cell? ⟨w.heap.size + 1, 0, none⟩ = some (.int .i64 (V : Nat)) := by rw [cell_of hI.b2, HV.out]; rfl
      have f2 : W.frozen? ⟨w.heap.size + 1, 0, none⟩ = false := frozen_of hI.b2 0
      have c3 : W.cell? ⟨w.heap.size + 1 + 1, 0, none⟩ = some (.int .i64 (E : Nat)) := by rw [cell_of hI.b3, HE.out]; rfl
      have f3 : W.frozen? ⟨w.heap.size + 1 + 1, 0, none⟩ = false := frozen_of hI.b3 0
      have HI : Hid (CI A C M F f size least cs l w.heap.size (W0.heap.size + 1) W0.heap.size k W ∧ Kept (CS C l) w W) := ⟨hI, hk0⟩
      have HT : Hid (sumS (l.take (k + 1)) = E + s) := by show _ = _; rw [sumS_take hkl, HE.out, hLk]
      obtain ⟨x0, x1, x2, x3⟩ := nd_cells hx
      rw [hLk]
      dsimp only
      have HPk : Hid (a ≠ E → 1 ≤ s) := by intro h; have := HP.out k hkl; rw [hLk, HE.out] at this; exact this h
      clear hI hk0 hit' hps hx hLk hLk' hpk
      generalize (gap (cmpK l k) size k) = g
      have hplt : p < w.heap.size := by have := HS.out.1.lt (List.getElem_mem hkl); rw [HLk.out] at this; exact this
      have hlenC := cc_length HS.out.2.2.2 HC.out.2 k
      have HLC : Hid ((cc cs l k).length = size) := hlenC
      clear hlenC
      by_cases hae : a = E
      · subst hae
        gi_wp2
        apply once
        case k =>
          intro hOnce
          gi_region_with_o (fail)
          all_goals exact hOnce.out
        case h =>
          gi_wp2_with (refine ⟨trivial, ?_⟩; gi_at_call 57; refine (CallsIn.inRound l' (callsIn_wide.2 (end_any _ (by exact HX.out) (by omega)))).mono ?_; rintro e w' ⟨rfl, m, rfl⟩)
          have kk : Kept (Only (w.heap.size + 1 + 1)) W ((W.drewN (1 + m)).setCell ⟨w.heap.size + 1 + 1, 0, none⟩ (.int .i64 ((a : Int) + (s : Int)))) := ((Kept.refl _ W).drewN (1 + m)).set _ 0 _ (Or.inl rfl)
          refine ⟨Still.one kk HI.out.1.b3, HI.out.1.step hkl HS.out.2.2.1 HS.out.2.2.2 (by have := z0.out; omega) (by have := z0.out; omega) (kk.mono (fun j e => Or.inr (Or.inr (Or.inr e)))) ?_ ?_ ?_ ?_, (HI.out.2.drewN (1 + m)).set _ 0 _ (.inr (by omega))⟩
          · rw [mv_succ hkl, if_pos (by rw [HLk.out, HE.out]), Nat.add_zero]; exact kk.heap HI.out.1.b2 (by unfold Only; omega)
          · rw [HT.out]; exact hp_set_same (w := W.drewN (1 + m)) HI.out.1.b3 0 _
          · rw [cc_succ hkl, HLk.out, HE.out, putL_self _ _ _ (by have := HLC.out; dsimp only; omega)]; exact kk.heap HI.out.1.hC (by unfold Only; omega)
          · intro ah bh h; rw [HLk.out] at h ⊢; rw [HE.out]; exact kk.heap h (by unfold Only; dsimp only; omega)
      · have hne : ((a : Int) != (E : Int)) = true := by simp; omega
        have hs1 : 1 ≤ s := HPk.out hae
        gi_wp2
        apply once
        case k =>
          intro hOnce
          gi_region_with_o (fail)
          all_goals exact hOnce.out
        case h =>
          gi_wp2
          have LAY : Hid (∀ m, Calls Try.prog 62 #[.pointer (some ⟨A, 0, none⟩), .pointer (some ⟨p, 0, none⟩), .int .i64 (E : Int), .int .i64 (s : Int)] (W.drewN m) fun e w' => ∃ v, e = .returned v ∧ Hid (w'.heap[C]? = some (cl (layC (cc cs l k) a (min s s) E s)) ∧ w'.heap[p]? = some (nd E s ah ((cmpK l k).map Nd.p)[k + 1]?) ∧
              Kept (fun k => k = C ∨ k = p) W w' ∧ w'.heap.size = W.heap.size)) := fun m =>
            (lay_hid (W.drewN m) HI.out.1.hA HI.out.1.hC HLC.out HX.out hs1 (by omega) (by omega) hsz (by omega)).mono (fun e w' ⟨v, he, h1, h2, h3, h4⟩ => ⟨v, he, h1, h2, ⟨h3.os, h3.tape, h3.output, h3.size, h3.block⟩, h4⟩)
          have ALL : Hid ((CI A C M F f size least cs l w.heap.size (W0.heap.size + 1) W0.heap.size k W ∧ Kept (CS C l) w W) ∧ (l.map Nd.p).Nodup ∧ Geo size 0 l ∧ l[k] = ⟨p, a, s⟩ ∧ sumS (l.take k) = E ∧ mv l k = V ∧ sumS (l.take (k + 1)) = E + s ∧
              E ≤ a ∧ a + s ≤ size ∧ p < w.heap.size ∧ (cc cs l k).length = size ∧ W0.heap.size = w.heap.size + 3 ∧ A < w.heap.size ∧ C < w.heap.size ∧ a ≠ E ∧ 1 ≤ s ∧ V ≤ 100000 ∧ size ≤ 65536 ∧ W.heap[p]? = some (nd a s ah ((cmpK l k).map Nd.p)[k + 1]?)) :=
            ⟨HI.out, HS.out.2.2.1, HS.out.2.2.2, HLk.out, HE.out, HV.out, HT.out, by omega, by omega, hplt, HLC.out, z0.out, hAlt, hClt, hae, hs1, hV, hsz, HX.out⟩
          clear HA HC HS HP HAa HW0 K0 z0 B1 B2 B3 HA0 HW1 K1 K01 z1 D1 D2 HLk HX HE HV hV hgk1 hgk2 c2 f2 f3 HI HT x0 x2 x3 HPk hplt HLC hae hne hs1 hClt hAlt hlen hsz hbx
          refine region_round (S := fun w' => w'.cell? ⟨w.heap.size, 0, none⟩ = some (.pointer (some ⟨A, 0, none⟩)) ∧ w'.cell? ⟨w.heap.size + 1 + 1, 0, none⟩ = some (.int .i64 (E : Int)) ∧ w'.cell? ⟨p, 1, none⟩ = some (.int .i64 (s : Int))) hmx (noDefer_spec (by kernel_rfl)) ?_ ⟨c1, c3, x1⟩ (fun hS => ?_)
          · rintro ⟨a', w', h⟩; exact h
          · skip
            refine wpAnyH_take (i := 0) (v := .pointer (some ⟨A, 0, none⟩)) rfl (by kernel_rfl) (by kernel_rfl) (by kernel_rfl) (fun _ _ _ h => h) (Or.inl ⟨by rfl, ?_⟩) hS ?_
            · intro w' hSw; obtain ⟨g1, g2, g3⟩ := hSw; go_simp
            simp only [Act.put, List.setIfInBounds_toArray, List.set_cons_zero, List.set_cons_succ, List.getElem_toArray, List.getElem_cons_zero, List.getElem_cons_succ]
            refine wpAnyH_take (i := 1) (v := .pointer (some ⟨p, 0, none⟩)) rfl (by kernel_rfl) (by kernel_rfl) (by kernel_rfl) (fun _ _ _ h => h) (Or.inl ⟨by rfl, ?_⟩) hS ?_
            · intro w' hSw; obtain ⟨g1, g2, g3⟩ := hSw; go_simp
            simp only [Act.put, List.setIfInBounds_toArray, List.set_cons_zero, List.set_cons_succ, List.getElem_toArray, List.getElem_cons_zero, List.getElem_cons_succ]
            refine wpAnyH_take (i := 2) (v := .int .i64 (E : Int)) rfl (by kernel_rfl) (by kernel_rfl) (by kernel_rfl) (fun _ _ _ h => h) (Or.inl ⟨by rfl, ?_⟩) hS ?_
            · intro w' hSw; obtain ⟨g1, g2, g3⟩ := hSw; go_simp
            simp only [Act.put, List.setIfInBounds_toArray, List.set_cons_zero, List.set_cons_succ, List.getElem_toArray, List.getElem_cons_zero, List.getElem_cons_succ]
            refine wpAnyH_take (i := 3) (v := .pointer (some ⟨p, 0, none⟩)) rfl (by kernel_rfl) (by kernel_rfl) (by kernel_rfl) (fun _ _ _ h => h) (Or.inl ⟨by rfl, ?_⟩) hS ?_
            · intro w' hSw; obtain ⟨g1, g2, g3⟩ := hSw; go_simp
            simp only [Act.put, List.setIfInBounds_toArray, List.set_cons_zero, List.set_cons_succ, List.getElem_toArray, List.getElem_cons_zero, List.getElem_cons_succ]
            refine wpAnyH_take (i := 4) (v := .pointer (some ⟨p, 0, none⟩)) rfl (by kernel_rfl) (by kernel_rfl) (by kernel_rfl) (fun _ _ _ h => h) (Or.inl ⟨by rfl, ?_⟩) hS ?_
            · intro w' hSw; obtain ⟨g1, g2, g3⟩ := hSw; go_simp
            simp only [Act.put, List.setIfInBounds_toArray, List.set_cons_zero, List.set_cons_succ, List.getElem_toArray, List.getElem_cons_zero, List.getElem_cons_succ]
            refine wpAnyH_take (i := 5) (v := .pointer (some ⟨p, 1, none⟩)) rfl (by kernel_rfl) (by kernel_rfl) (by kernel_rfl) (fun _ _ _ h => h) (Or.inl ⟨by rfl, ?_⟩) hS ?_
            · intro w' hSw; obtain ⟨g1, g2, g3⟩ := hSw; go_simp
            simp only [Act.put, List.setIfInBounds_toArray, List.set_cons_zero, List.set_cons_succ, List.getElem_toArray, List.getElem_cons_zero, List.getElem_cons_succ]
            refine wpAnyH_take (i := 6) (v := .int .i64 (s : Int)) rfl (by kernel_rfl) (by kernel_rfl) (by kernel_rfl) (fun _ _ _ h => h) (Or.inl ⟨by rfl, ?_⟩) hS ?_
            · intro w' hSw; obtain ⟨g1, g2, g3⟩ := hSw; go_simp
            simp only [Act.put, List.setIfInBounds_toArray, List.set_cons_zero, List.set_cons_succ, List.getElem_toArray, List.getElem_cons_zero, List.getElem_cons_succ]
            refine wpAnyH_ready (rs := [7]) (by kernel_rfl) (by simp) ?_
            refine AllReadyH.cons rfl (fun K hK => ?_) AllReadyH.nil
            go_simp
            refine Calls.mono (LAY.out 2) ?_
            rintro e w3 ⟨v, rfl, H3⟩
            obtain ⟨⟨hI, hk0⟩, q1, q2, q3, q4, q5, q6, q7, q8, q9, q10, q11, q12, q13, q14, q15, q16, q17, q18⟩ := ALL.out
            obtain ⟨r1, r2, r3, r4⟩ := H3.out
            have d1 : w3.heap[w.heap.size]? = some (.cells #[.pointer (some ⟨A, 0, none⟩)] 23 (0, 0)) := r3.heap hI.b1 (by omega)
            have d2 : w3.heap[w.heap.size + 1]? = some (.cells #[.int .i64 (V : Int)] 3 (0, 0)) := by have := hI.b2; rw [q5] at this; exact r3.heap this (by omega)
            have d3 : w3.heap[w.heap.size + 1 + 1]? = some (.cells #[.int .i64 (E : Int)] 3 (0, 0)) := by have := hI.b3; rw [q4] at this; exact r3.heap this (by omega)
            have e1 : w3.cell? ⟨w.heap.size, 0, none⟩ = some (.pointer (some ⟨A, 0, none⟩)) := by rw [cell_of d1]; rfl
            have e2 : w3.cell? ⟨w.heap.size + 1, 0, none⟩ = some (.int .i64 (V : Int)) := by rw [cell_of d2]; rfl
            have e3 : w3.cell? ⟨w.heap.size + 1 + 1, 0, none⟩ = some (.int .i64 (E : Int)) := by rw [cell_of d3]; rfl
            have g2 : w3.frozen? ⟨w.heap.size + 1, 0, none⟩ = false := frozen_of d2 0
            have g3 : w3.frozen? ⟨w.heap.size + 1 + 1, 0, none⟩ = false := frozen_of d3 0
            refine hK.out _ _ ⟨e1, e3, (nd_cells r2).2.1⟩ (fun hS3 => ?_)
            refine wpAnyH_done (by kernel_rfl) ?_ _
            have D2 : Hid (w3.heap[w.heap.size + 1]? = some (.cells #[.int .i64 (V : Int)] 3 (0, 0))) := d2
            have D3 : Hid (w3.heap[w.heap.size + 1 + 1]? = some (.cells #[.int .i64 (E : Int)] 3 (0, 0))) := d3
            clear hI hk0 q1 q2 q3 q4 q5 q6 q10 q11 q12 q13 q14 q18 r1 r2 r3 r4 d1 d2 d3 hS hS3 hK LAY c1 c3 x1
            have PE : Hid ((w3.setCell ⟨w.heap.size + 1, 0, none⟩ (.int .i64 ((V : Int) + 1))).heap[p]? = some (nd E s ah ((cmpK l k).map Nd.p)[k + 1]?)) := hp_set_other H3.out.2.1 0 _ (by omega)
            gi_wp2_with (refine ⟨trivial, ?_⟩; gi_at_call 57; refine (CallsIn.inRound l' (callsIn_wide.2 (end_any _ (by exact PE.out) (by omega)))).mono ?_; rintro e w' ⟨rfl, m, rfl⟩)
            obtain ⟨⟨hI, hk0⟩, q1, q2, q3, q4, q5, q6, q7, q8, q9, q10, q11, q12, q13, q14, q15, q16, q17, q18⟩ := ALL.out
            obtain ⟨r1, r2, r3, r4⟩ := H3.out
            have qp : l[k].p = p := by rw [q3]
            have kk : Kept (CR C l[k].p w.heap.size) W (((w3.setCell ⟨w.heap.size + 1, 0, none⟩ (.int .i64 ((V : Int) + 1))).drewN m).setCell ⟨w.heap.size + 1 + 1, 0, none⟩ (.int .i64 ((E : Int) + (s : Int)))) := by
              refine Kept.set (Kept.drewN (Kept.set (r3.mono (fun j e => ?_)) _ 0 _ (Or.inl (Or.inr (Or.inr (Or.inl rfl))))) m) _ 0 _ (Or.inl (Or.inr (Or.inr (Or.inr rfl))))
              rcases e with e | e
              · exact Or.inl e
              · exact Or.inr (Or.inl (by rw [qp]; exact e))
            refine ⟨Still.of_kept kk (fun j hj => ?_), hI.step hkl q1 q2 (by omega) (by omega) kk ?_ ?_ ?_ ?_, ?_⟩
            · rcases hj with e | e | e | e
              · exact .inr ⟨_, _, _, by rw [e]; exact hI.hC⟩
              · exact .inr ⟨_, _, _, by rw [e, qp]; exact q18⟩
              · exact .inr ⟨_, _, _, by rw [e]; exact hI.b2⟩
              · exact .inr ⟨_, _, _, by rw [e]; exact hI.b3⟩
            · rw [mv_succ hkl, if_neg (by rw [q3, q4]; exact q14), q5]
              exact hp_set_other (w := (w3.setCell ⟨w.heap.size + 1, 0, none⟩ (.int .i64 ((V : Int) + 1))).drewN m) (hp_set_same D2.out 0 _) 0 _ (by omega)
            · rw [q6]
              exact hp_set_same (w := (w3.setCell ⟨w.heap.size + 1, 0, none⟩ (.int .i64 ((V : Int) + 1))).drewN m) (hp_set_other D3.out 0 _ (by omega)) 0 _
            · rw [cc_succ hkl, q3, q4]
              have e : layC (cc cs l k) a (min s s) E s = putL (cc cs l k) E (((cc cs l k).drop a).take s) := by simp [layC, putL_nil]
              rw [e] at r1
              exact hp_set_other (w := (w3.setCell ⟨w.heap.size + 1, 0, none⟩ (.int .i64 ((V : Int) + 1))).drewN m) (hp_set_other r1 0 _ (by omega)) 0 _ (by omega)
            · intro ah' bh' h
              rw [q3] at h ⊢
              dsimp only at h ⊢
              rw [q18] at h
              rw [q4]
              have e : nd a s ah ((cmpK l k).map Nd.p)[k + 1]? = nd a s ah' bh' := Option.some.inj h
              simp only [nd, Obj.cells.injEq, Array.mk.injEq, List.cons.injEq, Value.pointer.injEq] at e
              have e1 : pt ah = pt ah' := e.1.2.2.1
              have e2 : pt ((cmpK l k).map Nd.p)[k + 1]? = pt bh' := e.1.2.2.2.1
              have := hp_set_other (w := (w3.setCell ⟨w.heap.size + 1, 0, none⟩ (.int .i64 ((V : Int) + 1))).drewN m) PE.out 0 (.int .i64 ((E : Int) + (s : Int))) (k := p) (b := w.heap.size + 1 + 1) (by omega)
              rw [this]
              unfold nd; rw [e1, e2]
            · refine Kept.set (Kept.drewN (Kept.set (hk0.trans (r3.mono (fun j e => ?_))) _ 0 _ (Or.inr (by omega))) m) _ 0 _ (Or.inr (by omega))
              rcases e with e | e
              · exact Or.inl e
              · exact Or.inr (by rw [e, ← qp]; exact List.mem_map_of_mem (List.getElem_mem hkl))
    case done =>
      rintro D W hD ⟨hI, hk0⟩ hK
      rw [List.length_map] at hI
      have c2 : W.cell? ⟨w.heap.size + 1, 0, none⟩ = some (.int .i64 (mv l l.length : Nat)) := by rw [cell_of hI.b2]; rfl
      have HI : Hid (CI A C M F f size least cs l w.heap.size (W0.heap.size + 1) W0.heap.size l.length W ∧ Kept (CS C l) w W) := ⟨hI, hk0⟩
      clear hI hk0
      gi_wp2
      have hD' : w.heap.size + 5 ≤ D := by have := z1.out; omega
      refine ⟨by simp, .inl ⟨_, _, rfl, run_takeDeferred hK, ?_⟩⟩
      have kk : Kept (Only D) W (W.putObj D (.deferred none)) := (Kept.refl (Only D) W).grown (grownBy_putObj' W D _) (fun k e => by cases e; exact Or.inl rfl)
      refine ⟨_, results_tmp rfl _ _ _, rfl, kk.heap HI.out.1.hA (by unfold Only; omega), kk.heap HI.out.1.hC (by unfold Only; omega), ?_, HI.out.2.putObj _ (by omega)⟩
      have := HI.out.1.it.seg
      rw [cmpK_end] at this
      refine this.kept kk (fun x hx => ?_)
      have h1 : x.p ∈ l.map Nd.p := by rw [← comp_map 0 l]; exact List.mem_map_of_mem hx
      obtain ⟨y, hy, e⟩ := List.mem_map.1 h1
      have := HS.out.1.lt hy
      unfold Only; omega
    case stop =>
      rintro D k W _ h
      exact h.elim
end Go.Proofs.Ytdaklohfecinjaa
