/- Live: the order of addresses is read. -/
import Derived.Test.YtdaklohfecinjaaA10
namespace Go.Proofs.Ytdaklohfecinjaa
open Go.RowKit Go.Shelf
set_option linter.unusedSimpArgs false
set_option linter.unusedVariables false
attribute [local go_sem] Oper.semAt_some

theorem arr2 {args : Array Value} (h : args.size = 2) : ∃ x y, args = #[x, y] := by
  obtain ⟨l⟩ := args
  match l, h with
  | [x, y], _ => exact ⟨x, y, rfl⟩

/-- A range over inOrder's function. -/
theorem range_io {n : Nat} {g : Operand} {t1 t2 : Tmp} {assign body : Code} {Q : Exit → Act → World → Prop} {a : Act} {w : World} (h1 : 1 ≤ n) {Bb Ba : Nat}
    (hg : a.eval g = .func (.func 72) #[] #[.pointer (some ⟨Bb, 0, none⟩), .pointer (some ⟨Ba, 0, none⟩)])
    (A size : Nat) (ps : List Nat) (hnd : ps.Nodup) (I Ix : Nat → World → Prop) (tI : Tame w.heap.size I) (tIx : Tame w.heap.size Ix) (h0 : I 0 w)
    (hI : ∀ k W, I k W → ∃ pr l, Iter W A Bb Ba size pr l ∧ l.map Nd.p = ps) (mk : Value → Value → Act)
    (hassign : ∀ (l : Nat) (x y : Value) (W : World) (K : Act → World → Prop), K (mk x y) W →
      assign.wpIn (Fence.wide.inRound l) (n - 1 - 1) Try.prog (Exit.then K (fun _ _ _ => False)) { tmps := (a.tmps.setIfInBounds t1 x).setIfInBounds t2 y, defers := [] } W)
    (hbody : ∀ (l k : Nat) (pr : Option Nat) (L : List Nd) (W : World), I k W → Iter W A Bb Ba size pr L → L.map Nd.p = ps → (hk : k < L.length) →
      body.wpIn (Fence.wide.inRound l) (n - 1 - 1) Try.prog (post w.heap.size I Ix k W) (mk (.pointer (some ⟨L[k].p, 0, none⟩)) (.int .i64 (gap L size k))) W)
    (hdone : ∀ (D : Nat) (W : World), w.heap.size ≤ D → I ps.length W → W.heap[D]? = some (.deferred (some [])) → Q .normal { a with defers := { target := .collected D, args := #[] } :: a.defers } W)
    (hstop : ∀ (D k : Nat) (W : World), w.heap.size ≤ D → Ix k W → W.heap[D]? = some (.deferred (some [])) → Code.ret.wpIn Fence.wide n Try.prog Q { a with defers := { target := .collected D, args := #[] } :: a.defers } W) :
    (Code.rangeFunc g #[t1, t2] assign body).wpIn Fence.wide n Try.prog Q a w := by
  refine range_at rfl h1 hg trivial (enters_of Try.func72 (by kernel_rfl) rfl) ps.length (Ek A Bb Ba size ps) ?_ ?_ I Ix tI tIx h0 (iter_rounds (n - 1) A Bb Ba size ps hnd I hI) (fun args => mk (args.getD 0 undef) (args.getD 1 undef)) ?_ ?_ hdone hstop
  · rintro k W args ⟨pr, l, _, _, hk, rfl⟩; rfl
  · rintro k W W' args ⟨pr, l, hit, hps, hk, rfl⟩ hl; exact ⟨pr, l, hit.loose hl, hps, hk, rfl⟩
  · rintro l args W K hs hK
    obtain ⟨x, y, rfl⟩ := arr2 hs
    have := hassign l x y W K hK
    simpa using this
  · rintro l k args W hi ⟨pr, L, hit, hps, hk, rfl⟩ _
    exact hbody l k pr L W hi hit hps hk

/-- The sum of the lengths. -/
def sumS (l : List Nd) : Nat := (l.map Nd.s).sum

theorem sumS_take {l : List Nd} {k : Nat} (hk : k < l.length) : sumS (l.take (k + 1)) = sumS (l.take k) + l[k].s := by
  unfold sumS; rw [List.take_succ_eq_append_getElem hk, List.map_append, List.sum_append]; simp
theorem sumS_le {l : List Nd} (h : ∀ x ∈ l, x.a + x.s ≤ 65536) (k : Nat) : sumS (l.take k) ≤ 65536 * k := by
  induction k with
  | zero => simp [sumS]
  | succ k ih =>
    by_cases hk : k < l.length
    · rw [sumS_take hk]; have := h _ (List.getElem_mem hk); omega
    · rw [List.take_of_length_le (by omega)]; rw [List.take_of_length_le (by omega)] at ih; omega

theorem seg_fn {w : World} : ∀ {l l' : List Nd} {pr pr' nx nx' : Option Nat}, Seg w pr l nx → Seg w pr' l' nx' → l.map Nd.p = l'.map Nd.p → l = l'
  | [], [], _, _, _, _, _, _, _ => rfl
  | x :: r, y :: r', _, _, _, _, h, h', e => by
    simp only [List.map_cons, List.cons.injEq] at e
    have h1 := h.1
    rw [e.1, h'.1] at h1
    have h2 := seg_fn h.2 h'.2 e.2
    simp [nd] at h1
    obtain ⟨p, a, s⟩ := x
    obtain ⟨p', a', s'⟩ := y
    dsimp only at *
    have e1 : a' = a := Int.ofNat.inj h1.1
    have e2 : s' = s := Int.ofNat.inj h1.2.1
    rw [h2, e.1, e1, e2]
  | [], _ :: _, _, _, _, _, _, _, e => by simp at e
  | _ :: _, [], _, _, _, _, _, _, e => by simp at e

set_option maxRecDepth 100000 in
set_option maxHeartbeats 1000000 in
theorem Live_any {A C M F f size least : Nat} (l : List Nd) (w : World) (hA : w.heap[A]? = some (ar C M F f size least)) (hs : Seg w none l none) (hh : hd l none = some F) (hnd : (l.map Nd.p).Nodup) (hbd : ∀ x ∈ l, x.a + x.s ≤ 65536) (hsz : size ≤ 65536) (hlen : l.length ≤ 100000) :
    Calls Try.prog 24 #[.pointer (some ⟨A, 0, none⟩)] w fun e w' => e = .returned (.int .i64 (sumS l)) ∧ Kept No w w' := by
  have HA : Hid (w.heap[A]? = some (ar C M F f size least)) := hA
  have HS : Hid (Seg w none l none ∧ hd l none = some F ∧ (l.map Nd.p).Nodup ∧ (∀ x ∈ l, x.a + x.s ≤ 65536)) := ⟨hs, hh, hnd, hbd⟩
  obtain ⟨a0, a1, a2, a3, a4⟩ := ar_cells hA
  have hAlt := hp_lt hA
  clear hA hs hh hnd hbd
  refine (callsIn_wide (n := 5)).1 ?_
  refine callsIn_of_wp_marks Try.func24 rfl trivial ?_ rfl
  simp only [Try.ntmps24, List.size_toArray, List.length_cons, List.length_nil, Nat.reduceAdd, Nat.reduceSub, Array.replicate_succ, Array.replicate_zero, List.push_toArray, List.append_toArray, List.nil_append, List.cons_append]
  gi_wp2_with (first | (refine ⟨trivial, ?_⟩; gi_at_call 52; refine (callsIn_wide.2 (made_any _ HA.out)).mono ?_; rintro e w' ⟨rfl, rfl⟩) | (refine ⟨trivial, ?_⟩; gi_at_call 55; refine (callsIn_wide.2 (inOrder_any _ _ _)).mono ?_; rintro e w' ⟨rfl, rfl⟩))
  have k0 : Kept No w (((w.alloc (.cells #[.int .i64 0] 3)).alloc (.cells #[.pointer (some ⟨A, 0, none⟩)] 23)).alloc (.cells #[.pointer (some ⟨F, 0, none⟩)] 59)) := (((Kept.refl _ _).alloc _).alloc _).alloc _
  refine range_io (by decide) rfl A size (l.map Nd.p) HS.out.2.2.1
    (fun k W => W.heap[w.heap.size]? = some (.cells #[.int .i64 (sumS (l.take k) : Nat)] 3 (0, 0)) ∧ Iter W A (w.heap.size + 1 + 1) (w.heap.size + 1) size none l ∧ Kept No w W)
    (fun _ _ => False)
    (fun k W W' h hl => ⟨hl.cells h.1, h.2.1.loose hl, Loose.kept h.2.2 hl (by simp; omega)⟩)
    (fun k W W' h _ => h)
    ?h0 (fun k W h => ⟨none, l, h.2.1, rfl⟩)
    (fun x y => { tmps := #[.pointer (some ⟨A, 0, none⟩), undef, .int .i64 0, .pointer (some ⟨w.heap.size, 0, none⟩), x, .pointer (some ⟨A, 0, none⟩), .bool true, .bool false, .pointer (some ⟨A, 0, none⟩), .pointer (some ⟨A, 0, none⟩), .pointer (some ⟨A, 0, none⟩),
      .pointer (some ⟨A, 2, none⟩), .pointer (some ⟨F, 0, none⟩), .func (.func 72) #[] #[.pointer (some ⟨w.heap.size + 1 + 1, 0, none⟩), .pointer (some ⟨w.heap.size + 1, 0, none⟩)], x, y, undef, undef, undef, undef, undef, undef, undef], defers := [] })
    ?assign ?body ?done ?stop
  case h0 =>
    refine ⟨?_, ⟨?_, ?_, ⟨C, M, F, f, least, k0.heap HA.out id⟩, HS.out.1.kept k0 (fun _ _ => id), HS.out.2.2.2, hsz⟩, k0⟩
    · exact Boxed.alloc (Boxed.alloc (Boxed.new w 3 _) _) _
    · rw [HS.out.2.1]; have := Boxed.new ((w.alloc (.cells #[.int .i64 0] 3)).alloc (.cells #[.pointer (some ⟨A, 0, none⟩)] 23)) 59 (.pointer (some ⟨F, 0, none⟩)); simp only [World.size_alloc] at this; exact this
    · have := Boxed.alloc (Boxed.new (w.alloc (.cells #[.int .i64 0] 3)) 23 (.pointer (some ⟨A, 0, none⟩))) (.cells #[.pointer (some ⟨F, 0, none⟩)] 59); simp only [World.size_alloc] at this; exact this
  case assign =>
    intro l' x y W K hK
    gi_wp2
    exact hK
  case body =>
    rintro l' k pr L W ⟨hc, hit, hk0⟩ hit' hps hk
    obtain rfl : L = l := seg_fn hit'.seg hit.seg hps
    obtain ⟨p, a, s, ah, hpk, hx, hbx, ⟨hkL, hLk⟩, _⟩ := hit.look rfl (k := k) (by simpa using hk)
    have hst := sumS_take hk
    have hle := sumS_le hit.bd k
    rw [hLk] at hst ⊢
    dsimp only at hst ⊢
    have c0 : W.cell? ⟨w.heap.size, 0, none⟩ = some (.int .i64 (sumS (L.take k) : Nat)) := by rw [cell_of hc]; rfl
    have cf : W.frozen? ⟨w.heap.size, 0, none⟩ = false := frozen_of hc 0
    obtain ⟨x0, x1, x2, x3⟩ := nd_cells hx
    have HST : Hid (sumS (L.take (k + 1)) = sumS (L.take k) + s) := hst
    have HC : Hid (W.heap[w.heap.size]? = some (.cells #[.int .i64 (sumS (L.take k) : Nat)] 3 (0, 0))) := hc
    have HIT : Hid (Iter W A (w.heap.size + 1 + 1) (w.heap.size + 1) size none L ∧ Kept No w W) := ⟨hit, hk0⟩
    clear hit hit' hps hst hc hLk hpk
    have hmx : Try.prog.follows .mixedOrders = true := by kernel_rfl
    generalize sumS (L.take k) = S at *
    have hS : S ≤ 6553600000 := by omega
    gi_wp2
    gi_region_with_o (fail)
    all_goals gi_wp2
    all_goals (try go_bits)
    all_goals
      have kk : Kept (Only w.heap.size) W (W.setCell ⟨w.heap.size, 0, none⟩ (.int .i64 ((S : Int) + (s : Int)))).drew := (Kept.one W w.heap.size 0 _).drew
      refine ⟨Still.one kk HC.out, ?_, HIT.out.1.kept kk (by unfold Only; omega) (by unfold Only; omega) (by unfold Only; omega) (fun x hx => by have := HS.out.1.lt hx; unfold Only; omega), (HIT.out.2.set w.heap.size 0 _ (.inr (Nat.le_refl _))).drew⟩
      rw [HST.out]; exact hp_set_same HC.out 0 _
  case done =>
    rintro D W hD ⟨hc, hit, hk0⟩ hK
    rw [List.length_map, List.take_length] at hc
    have c0 : W.cell? ⟨w.heap.size, 0, none⟩ = some (.int .i64 (sumS l : Nat)) := by rw [cell_of hc]; rfl
    have HK0 : Hid (Kept No w W) := hk0
    clear hc hit hk0
    gi_wp2
    refine ⟨by simp, .inl ⟨_, _, rfl, run_takeDeferred hK, ?_⟩⟩
    exact ⟨_, results_tmp rfl _ _ _, rfl, HK0.out.putObj _ (by simp at hD; omega)⟩
  case stop =>
    rintro D k W _ h
    exact h.elim
end Go.Proofs.Ytdaklohfecinjaa
