/- last, Gap: the order of addresses is read. -/
import Derived.Test.YtdaklohfecinjaaA11
namespace Go.Proofs.Ytdaklohfecinjaa
open Go.RowKit Go.Shelf
set_option linter.unusedSimpArgs false
set_option linter.unusedVariables false
attribute [local go_sem] Oper.semAt_some

/-- What many ways come to is shown once. -/
structure Once (P : Prop) : Prop where
  out : P
/-- .. behind a call. -/
theorem once2 {R G : Value → World → Prop} {X : Prop} (k : Once (∀ v w, R v w → G v w) → X) (h : ∀ v w, R v w → G v w) : X := k ⟨h⟩
theorem once {P G : Prop} (k : Once P → G) (h : P) : G := k ⟨h⟩

/-- The block that came last. -/
def lk (l : List Nd) (F k : Nat) : Option Nat := if k = 0 then some F else (l.map Nd.p)[k - 1]?

theorem lk_last {l : List Nd} {F : Nat} (hh : hd l none = some F) : lk l F l.length = lastp l none := by
  cases l with
  | nil => cases hh
  | cons x r =>
    unfold lk
    rw [if_neg (by simp)]
    have h : ∀ (r : List Nd) (x : Nd) (p : Option Nat), ((x :: r).map Nd.p)[(x :: r).length - 1]? = lastp (x :: r) p := by
      intro r
      induction r with
      | nil => intro x p; rfl
      | cons y r ih => intro x p; have := ih y (some x.p); simpa [lastp] using this
    exact h r x none

/-- The greatest of the first k gaps. -/
def gm (l : List Nd) (size : Nat) : Nat → Int
  | 0 => 0
  | k + 1 => max (gm l size k) (gap l size k)

set_option maxRecDepth 100000 in
set_option maxHeartbeats 1000000 in
theorem last_any {A C M F f size least : Nat} (l : List Nd) (w : World) (hA : w.heap[A]? = some (ar C M F f size least)) (hs : Seg w none l none) (hh : hd l none = some F) (hnd : (l.map Nd.p).Nodup) (hbd : ∀ x ∈ l, x.a + x.s ≤ 65536) (hsz : size ≤ 65536) :
    Calls Try.prog 56 #[.pointer (some ⟨A, 0, none⟩)] w fun e w' => e = .returned (.pointer (pt (lastp l none))) ∧ Kept No w w' := by
  have HA : Hid (w.heap[A]? = some (ar C M F f size least)) := hA
  have HS : Hid (Seg w none l none ∧ hd l none = some F ∧ (l.map Nd.p).Nodup ∧ (∀ x ∈ l, x.a + x.s ≤ 65536)) := ⟨hs, hh, hnd, hbd⟩
  obtain ⟨a0, a1, a2, a3, a4⟩ := ar_cells hA
  have hAlt := hp_lt hA
  clear hA hs hh hnd hbd
  refine (callsIn_wide (n := 5)).1 ?_
  refine callsIn_of_wp_marks Try.func56 rfl trivial ?_ rfl
  simp only [Try.ntmps56, List.size_toArray, List.length_cons, List.length_nil, Nat.reduceAdd, Nat.reduceSub, Array.replicate_succ, Array.replicate_zero, List.push_toArray, List.append_toArray, List.nil_append, List.cons_append]
  gi_wp2_with (refine ⟨trivial, ?_⟩; gi_at_call 55; refine (callsIn_wide.2 (inOrder_any _ _ _)).mono ?_; rintro e w' ⟨rfl, rfl⟩)
  have k0 : Kept No w (((w.alloc (.cells #[.pointer (some ⟨F, 0, none⟩)] 59)).alloc (.cells #[.pointer (some ⟨A, 0, none⟩)] 23)).alloc (.cells #[.pointer (some ⟨F, 0, none⟩)] 59)) := (((Kept.refl _ _).alloc _).alloc _).alloc _
  refine range_io (by decide) rfl A size (l.map Nd.p) HS.out.2.2.1
    (fun k W => W.heap[w.heap.size]? = some (.cells #[.pointer (pt (lk l F k))] 59 (0, 0)) ∧ Iter W A (w.heap.size + 1 + 1) (w.heap.size + 1) size none l ∧ Kept No w W)
    (fun _ _ => False)
    (fun k W W' h hl => ⟨hl.cells h.1, h.2.1.loose hl, Loose.kept h.2.2 hl (by simp; omega)⟩)
    (fun k W W' h _ => h)
    ?h0 (fun k W h => ⟨none, l, h.2.1, rfl⟩)
    (fun x y => { tmps := #[.pointer (some ⟨A, 0, none⟩), undef, .pointer none, .pointer (some ⟨w.heap.size, 0, none⟩), x, .pointer (some ⟨A, 0, none⟩), .pointer (some ⟨A, 0, none⟩), .pointer (some ⟨A, 2, none⟩), .pointer (some ⟨F, 0, none⟩), .pointer (some ⟨A, 0, none⟩), .pointer (some ⟨F, 0, none⟩),
      .func (.func 72) #[] #[.pointer (some ⟨w.heap.size + 1 + 1, 0, none⟩), .pointer (some ⟨w.heap.size + 1, 0, none⟩)], x, y, undef, undef], defers := [] })
    ?assign ?body ?done ?stop
  case h0 =>
    refine ⟨?_, ⟨?_, ?_, ⟨C, M, F, f, least, k0.heap HA.out id⟩, HS.out.1.kept k0 (fun _ _ => id), HS.out.2.2.2, hsz⟩, k0⟩
    · exact Boxed.alloc (Boxed.alloc (Boxed.new w 59 _) _) _
    · rw [HS.out.2.1]; have := Boxed.new ((w.alloc (.cells #[.pointer (some ⟨F, 0, none⟩)] 59)).alloc (.cells #[.pointer (some ⟨A, 0, none⟩)] 23)) 59 (.pointer (some ⟨F, 0, none⟩)); simp only [World.size_alloc] at this; exact this
    · have := Boxed.alloc (Boxed.new (w.alloc (.cells #[.pointer (some ⟨F, 0, none⟩)] 59)) 23 (.pointer (some ⟨A, 0, none⟩))) (.cells #[.pointer (some ⟨F, 0, none⟩)] 59); simp only [World.size_alloc] at this; exact this
  case assign =>
    intro l' x y W K hK
    gi_wp2
    exact hK
  case body =>
    rintro l' k pr L W ⟨hc, hit, hk0⟩ hit' hps hk
    obtain rfl : L = l := seg_fn hit'.seg hit.seg hps
    have c0 : W.cell? ⟨w.heap.size, 0, none⟩ = some (.pointer (pt (lk L F k))) := by rw [cell_of hc]; rfl
    have cf : W.frozen? ⟨w.heap.size, 0, none⟩ = false := frozen_of hc 0
    have HC : Hid (W.heap[w.heap.size]? = some (.cells #[.pointer (pt (lk L F k))] 59 (0, 0))) := hc
    have HIT : Hid (Iter W A (w.heap.size + 1 + 1) (w.heap.size + 1) size none L ∧ Kept No w W) := ⟨hit, hk0⟩
    have HL : Hid (lk L F (k + 1) = some L[k].p) := by show _ = _; unfold lk; rw [if_neg (by omega)]; simp [List.getElem?_eq_getElem hk]
    clear hit hit' hps hc
    generalize lk L F k = X at *
    generalize L[k].p = p at *
    gi_wp2
    have kk : Kept (Only w.heap.size) W (W.setCell ⟨w.heap.size, 0, none⟩ (.pointer (some ⟨p, 0, none⟩))) := Kept.one W w.heap.size 0 _
    refine ⟨Still.one kk HC.out, ?_, HIT.out.1.kept kk (by unfold Only; omega) (by unfold Only; omega) (by unfold Only; omega) (fun x hx => by have := HS.out.1.lt hx; unfold Only; omega), HIT.out.2.set w.heap.size 0 _ (.inr (Nat.le_refl _))⟩
    rw [HL.out]; exact hp_set_same HC.out 0 _
  case done =>
    rintro D W hD ⟨hc, hit, hk0⟩ hK
    rw [List.length_map, lk_last HS.out.2.1] at hc
    have c0 : W.cell? ⟨w.heap.size, 0, none⟩ = some (.pointer (pt (lastp l none))) := by rw [cell_of hc]; rfl
    have HK0 : Hid (Kept No w W) := hk0
    clear hc hit hk0
    gi_wp2
    refine ⟨by simp, .inl ⟨_, _, rfl, run_takeDeferred hK, ?_⟩⟩
    exact ⟨_, results_tmp rfl _ _ _, rfl, HK0.out.putObj _ (by simp at hD; omega)⟩
  case stop =>
    rintro D k W _ h
    exact h.elim

set_option maxRecDepth 100000 in
set_option maxHeartbeats 1000000 in
theorem Gap_any {A C M F f size least : Nat} (l : List Nd) (w : World) (hA : w.heap[A]? = some (ar C M F f size least)) (hs : Seg w none l none) (hh : hd l none = some F) (hnd : (l.map Nd.p).Nodup) (hbd : ∀ x ∈ l, x.a + x.s ≤ 65536) (hsz : size ≤ 65536) :
    Calls Try.prog 32 #[.pointer (some ⟨A, 0, none⟩)] w fun e w' => e = .returned (.int .i64 (gm l size l.length)) ∧ Kept No w w' := by
  have HA : Hid (w.heap[A]? = some (ar C M F f size least)) := hA
  have HS : Hid (Seg w none l none ∧ hd l none = some F ∧ (l.map Nd.p).Nodup ∧ (∀ x ∈ l, x.a + x.s ≤ 65536)) := ⟨hs, hh, hnd, hbd⟩
  obtain ⟨a0, a1, a2, a3, a4⟩ := ar_cells hA
  have hAlt := hp_lt hA
  clear hA hs hh hnd hbd
  refine (callsIn_wide (n := 5)).1 ?_
  refine callsIn_of_wp_marks Try.func32 rfl trivial ?_ rfl
  simp only [Try.ntmps32, List.size_toArray, List.length_cons, List.length_nil, Nat.reduceAdd, Nat.reduceSub, Array.replicate_succ, Array.replicate_zero, List.push_toArray, List.append_toArray, List.nil_append, List.cons_append]
  gi_wp2_with (first | (refine ⟨trivial, ?_⟩; gi_at_call 52; refine (callsIn_wide.2 (made_any _ HA.out)).mono ?_; rintro e w' ⟨rfl, rfl⟩) | (refine ⟨trivial, ?_⟩; gi_at_call 55; refine (callsIn_wide.2 (inOrder_any _ _ _)).mono ?_; rintro e w' ⟨rfl, rfl⟩))
  have k0 : Kept No w (((w.alloc (.cells #[.int .i64 0] 3)).alloc (.cells #[.pointer (some ⟨A, 0, none⟩)] 23)).alloc (.cells #[.pointer (some ⟨F, 0, none⟩)] 59)) := (((Kept.refl _ _).alloc _).alloc _).alloc _
  refine range_io (by decide) rfl A size (l.map Nd.p) HS.out.2.2.1
    (fun k W => W.heap[w.heap.size]? = some (.cells #[.int .i64 (gm l size k)] 3 (0, 0)) ∧ Iter W A (w.heap.size + 1 + 1) (w.heap.size + 1) size none l ∧ Kept No w W)
    (fun _ _ => False)
    (fun k W W' h hl => ⟨hl.cells h.1, h.2.1.loose hl, Loose.kept h.2.2 hl (by simp; omega)⟩)
    (fun k W W' h _ => h)
    ?h0 (fun k W h => ⟨none, l, h.2.1, rfl⟩)
    (fun x y => { tmps := #[.pointer (some ⟨A, 0, none⟩), undef, .int .i64 0, .pointer (some ⟨w.heap.size, 0, none⟩), undef, y, .pointer (some ⟨A, 0, none⟩), .bool true, .bool false, .pointer (some ⟨A, 0, none⟩), .pointer (some ⟨A, 0, none⟩), .pointer (some ⟨A, 0, none⟩),
      .pointer (some ⟨A, 2, none⟩), .pointer (some ⟨F, 0, none⟩), .func (.func 72) #[] #[.pointer (some ⟨w.heap.size + 1 + 1, 0, none⟩), .pointer (some ⟨w.heap.size + 1, 0, none⟩)], x, y, undef, undef, undef, undef], defers := [] })
    ?assign ?body ?done ?stop
  case h0 =>
    refine ⟨?_, ⟨?_, ?_, ⟨C, M, F, f, least, k0.heap HA.out id⟩, HS.out.1.kept k0 (fun _ _ => id), HS.out.2.2.2, hsz⟩, k0⟩
    · exact Boxed.alloc (Boxed.alloc (Boxed.new w 3 _) _) _
    · rw [HS.out.2.1]; have := Boxed.new ((w.alloc (.cells #[.int .i64 0] 3)).alloc (.cells #[.pointer (some ⟨A, 0, none⟩)] 23)) 59 (.pointer (some ⟨F, 0, none⟩)); simp only [World.size_alloc] at this; exact this
    · have := Boxed.alloc (Boxed.new (w.alloc (.cells #[.int .i64 0] 3)) 23 (.pointer (some ⟨A, 0, none⟩))) (.cells #[.pointer (some ⟨F, 0, none⟩)] 59); simp only [World.size_alloc] at this; exact this
  case assign =>
    intro l' x y W K hK
    gi_wp2
    exact hK
  case body =>
    rintro l' k pr L W ⟨hc, hit, hk0⟩ hit' hps hk
    obtain rfl : L = l := seg_fn hit'.seg hit.seg hps
    have c0 : W.cell? ⟨w.heap.size, 0, none⟩ = some (.int .i64 (gm L size k)) := by rw [cell_of hc]; rfl
    have cf : W.frozen? ⟨w.heap.size, 0, none⟩ = false := frozen_of hc 0
    have HC : Hid (W.heap[w.heap.size]? = some (.cells #[.int .i64 (gm L size k)] 3 (0, 0))) := hc
    have HIT : Hid (Iter W A (w.heap.size + 1 + 1) (w.heap.size + 1) size none L ∧ Kept No w W) := ⟨hit, hk0⟩
    have HL : Hid (gm L size (k + 1) = max (gm L size k) (gap L size k)) := rfl
    clear hit hit' hps hc
    generalize gm L size k = X at *
    generalize gap L size k = Y at *
    have FIN : Hid (∀ Z : Int, max X Y = Z → Still (w.heap.size + 1 + 1 + 1) W (W.setCell ⟨w.heap.size, 0, none⟩ (.int .i64 Z)) ∧
        (W.setCell ⟨w.heap.size, 0, none⟩ (.int .i64 Z)).heap[w.heap.size]? = some (.cells #[.int .i64 (gm L size (k + 1))] 3 (0, 0)) ∧ Iter (W.setCell ⟨w.heap.size, 0, none⟩ (.int .i64 Z)) A (w.heap.size + 1 + 1) (w.heap.size + 1) size none L ∧ Kept No w (W.setCell ⟨w.heap.size, 0, none⟩ (.int .i64 Z))) := by
      intro Z hZ
      have kk : Kept (Only w.heap.size) W (W.setCell ⟨w.heap.size, 0, none⟩ (.int .i64 Z)) := Kept.one W w.heap.size 0 _
      refine ⟨Still.one kk HC.out, ?_, HIT.out.1.kept kk (by unfold Only; omega) (by unfold Only; omega) (by unfold Only; omega) (fun x hx => by have := HS.out.1.lt hx; unfold Only; omega), HIT.out.2.set w.heap.size 0 _ (.inr (Nat.le_refl _))⟩
      rw [HL.out, hZ]; exact hp_set_same HC.out 0 _
    gi_wp2
    all_goals exact FIN.out _ (by omega)
  case done =>
    rintro D W hD ⟨hc, hit, hk0⟩ hK
    rw [List.length_map] at hc
    have c0 : W.cell? ⟨w.heap.size, 0, none⟩ = some (.int .i64 (gm l size l.length)) := by rw [cell_of hc]; rfl
    have HK0 : Hid (Kept No w W) := hk0
    clear hc hit hk0
    gi_wp2
    refine ⟨by simp, .inl ⟨_, _, rfl, run_takeDeferred hK, ?_⟩⟩
    exact ⟨_, results_tmp rfl _ _ _, rfl, HK0.out.putObj _ (by simp at hD; omega)⟩
  case stop =>
    rintro D k W _ h
    exact h.elim
end Go.Proofs.Ytdaklohfecinjaa
