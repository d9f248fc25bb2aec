/- ArenaFull, walked. -/
import Derived.Test.YtdaklohfecinjaaF2
namespace Go.Proofs.Ytdaklohfecinjaa
open Go.RowKit
set_option linter.unusedSimpArgs false
set_option linter.unusedVariables false

theorem gm_lt {l : List Nd} {size n : Nat} (hn : 1 ≤ n) : ∀ {N : Nat}, (∀ i, i < N → gap l size i < n) → gm l size N < n
  | 0, _ => by show (0 : Int) < n; omega
  | N + 1, h => by
    have h1 := gm_lt hn (N := N) (fun i hi => h i (by omega))
    have h2 := h N (by omega)
    show max (gm l size N) (gap l size N) < n
    omega
theorem le_gm {l : List Nd} {size k : Nat} : ∀ {N : Nat}, k < N → gap l size k ≤ gm l size N
  | N + 1, h => by
    show gap l size k ≤ max (gm l size N) (gap l size N)
    by_cases e : k = N
    · subst e; omega
    · have := le_gm (l := l) (size := size) (k := k) (N := N) (by omega); omega
theorem sum_ins (F : Nat) (hb : List (Nat × Nd)) {k : Nat} (hk : k < (nodes F hb).length) (x : Nat × Nd) : sumS (nodes F (ins hb k x)) = sumS (nodes F hb) + x.2.s := by
  rw [nodes_ins F hb hk]
  conv => rhs; rw [nodes_split F hb hk]
  simp only [sumS_append, sumS_cons]; omega
theorem gap_last : ∀ (o : Nat) (l : List Nd) (size : Nat), l ≠ [] → gap (comp o l) size (l.length - 1) = (size : Int) - (o + sumS l : Nat)
  | o, [x], size, _ => by show (size : Int) - ((o : Int) + (x.s : Int)) = _; simp [sumS]
  | o, x :: y :: r, size, _ => by
    have := gap_last (o + x.s) (y :: r) size (by simp)
    rw [sumS_cons]
    show gap (comp (o + x.s) (y :: r)) size r.length = _
    simp only [List.length_cons, Nat.add_sub_cancel] at this
    rw [this]; omega
theorem gm_bd {l : List Nd} {size : Nat} (h : ∀ i, gap l size i ≤ size) : ∀ N, 0 ≤ gm l size N ∧ gm l size N ≤ size
  | 0 => by constructor <;> (show _ ≤ _; simp [gm])
  | N + 1 => by
    have := gm_bd h N
    have := h N
    show 0 ≤ max (gm l size N) (gap l size N) ∧ max (gm l size N) (gap l size N) ≤ size
    omega
theorem Geo.gap_le : ∀ {size o : Nat} {l : List Nd}, Geo size o l → ∀ i, gap l size i ≤ size
  | size, o, [], h, i => by unfold gap; simp
  | size, o, [x], h, 0 => by show (size : Int) - ((x.a : Int) + (x.s : Int)) ≤ size; omega
  | size, o, x :: y :: r, h, 0 => by
    have := h.2.bd y (by simp)
    show (y.a : Int) - ((x.a : Int) + (x.s : Int)) ≤ size; omega
  | size, o, x :: r, h, i + 1 => Geo.gap_le h.2 i

/-- An arena with what is said of it. -/
def Rx (w0 w : World) (A C M F f size least n : Nat) (cs : List Int) (hb : List (Nat × Nd)) : Prop := Rp w A C M F f size least n cs hb ∧ (∀ k, FP A C M F hb k → w0.heap.size ≤ k) ∧ Kept No w0 w
theorem Rx.no {w0 w w' : World} {A C M F f size least n : Nat} {cs : List Int} {hb : List (Nat × Nd)} (h : Rx w0 w A C M F f size least n cs hb) (hk : Kept No w w') : Rx w0 w' A C M F f size least n cs hb := ⟨h.1.no hk, h.2.1, h.2.2.trans hk⟩

set_option maxRecDepth 100000 in
set_option maxHeartbeats 4000000 in
theorem Full_any (size n : Int) (v : Value) (L : List (Int × Int × Int × Int)) (w : World) (hL : Acts w v L) :
    Calls Try.prog 7 #[.int .i64 size, v, .int .i64 n] w fun e w' => e = .returned (.bool true) ∧ Kept No w w' := by
  have HL : Hid (Acts w v L) := hL
  obtain ⟨ao, cap, rfl, q1, q2⟩ := hL
  clear q1 q2
  cases hs : rl size with
  | false =>
    go_enter Try.func7, Try.ntmps7
    go_wp2_with (go_at_call 22; refine (made_none _ _ _ _ HL.out hs).mono ?_; rintro e w' ⟨rfl, rfl⟩)
    refine (alive_any w).mono ?_
    rintro e w2 ⟨rfl, h2⟩
    have H2 : Hid (Kept No w w2) := h2
    clear h2
    go_wp2
    go_ret
    exact ⟨rfl, H2.out⟩
  | true =>
  obtain ⟨size, rfl⟩ := rl_nat hs
  rcases Nat.lt_or_ge 80 L.length with hn0 | hn
  · have hn : ¬ L.length ≤ 80 := by omega
    go_enter Try.func7, Try.ntmps7
    go_wp2_with fail
    refine (made_many _ _ _ _ HL.out hs hn).mono ?_
    rintro e w1 ⟨rfl, h1⟩
    have H1 : Hid (Kept No w w1) := h1
    clear h1
    go_wp2_with fail
    refine (alive_any w1).mono ?_
    rintro e w2 ⟨rfl, h2⟩
    have H2 : Hid (Kept No w w2) := H1.out.trans h2
    clear h2
    go_wp2
    go_ret
    exact ⟨rfl, H2.out⟩
  cases hr : rl n with
  | false =>
    have hb : n < 1 ∨ 65536 < n := by
      rcases Int.lt_or_le n 1 with h | h
      · exact .inl h
      · refine .inr ?_
        rcases Int.lt_or_le 65536 n with h2 | h2
        · exact h2
        · exfalso; unfold rl at hr; simp at hr; omega
    go_enter Try.func7, Try.ntmps7
    go_wp2_with fail
    refine (made_some _ _ _ _ HL.out hs hn).mono ?_
    rintro e w1 ⟨A, rfl, h1⟩
    have H1 : Hid (Kept No w w1) := h1.kept
    clear h1
    rcases hb with hb | hb
    · go_wp2_with fail
      refine (alive_any w1).mono ?_
      rintro e w2 ⟨rfl, h2⟩
      have H2 : Hid (Kept No w w2) := H1.out.trans h2
      clear h2
      go_wp2
      go_ret
      exact ⟨rfl, H2.out⟩
    · have hb1 : ¬ n < 1 := by omega
      go_wp2_with fail
      refine (alive_any w1).mono ?_
      rintro e w2 ⟨rfl, h2⟩
      have H2 : Hid (Kept No w w2) := H1.out.trans h2
      clear h2
      go_wp2
      go_ret
      exact ⟨rfl, H2.out⟩
  | true =>
  obtain ⟨n, rfl⟩ := rl_nat hr
  have hn' := rl_true hr
  have n1 : ¬ (n : Int) < 1 := by omega
  have n2 : ¬ 65536 < (n : Int) := by omega
  go_enter Try.func7, Try.ntmps7
  go_wp2_with fail
  refine (made_some _ _ _ _ HL.out hs hn).mono ?_
  rintro e w1 ⟨A, rfl, hb, C, M, F, f, least, cs, hR⟩
  have H1 : Hid (Rx w w1 A C M F f size least 80 cs hb) := hR
  clear hR
  go_wp2_with fail
  refine (Gap_rp w1 H1.out.1).mono ?_
  rintro e w2 ⟨rfl, hk2⟩
  have H2 : Hid (Rx w w2 A C M F f size least 80 cs hb) := H1.out.no hk2
  clear hk2
  go_wp2_with fail
  refine (Live_rp w2 H2.out.1).mono ?_
  rintro e w3 ⟨rfl, hk3⟩
  have H3 : Hid (Rx w w3 A C M F f size least 80 cs hb) := H2.out.no hk3
  clear hk3
  have hsz := H3.out.1.sz
  have hle := H3.out.1.geo.le
  rcases first_room (nodes F hb) size n (nodes F hb).length with ⟨k, h1, h2, h3⟩ | h1
  · have hg := le_gm (l := nodes F hb) (size := size) h1
    have HK : Hid ((n : Int) ≤ gap (nodes F hb) size k ∧ ∀ i, i < k → gap (nodes F hb) size i < n) := ⟨h2, h3⟩
    have hng : (n : Int) ≤ gm (nodes F hb) size (nodes F hb).length := by omega
    obtain ⟨G, HG⟩ : ∃ G, Hid (gm (nodes F hb) size (nodes F hb).length = G) := ⟨_, show _ = _ from rfl⟩
    obtain ⟨S, HS⟩ : ∃ S, Hid (sumS (nodes F hb) = S) := ⟨_, show _ = _ from rfl⟩
    rw [HG.out] at hng ⊢
    rw [HS.out] at hle ⊢
    have u2 : IntKind.i64.wrap ((S : Int) + (n : Int)) = ((S + n : Nat) : Int) := by rw [IntKind.wrap_i64]; omega
    clear h2 h3 hg
    go_wp2_with fail
    refine (Alloc_room w3 H3.out.1 hr (by omega) h1 HK.out.1 HK.out.2).mono ?_
    rintro e w4 ⟨h0, b, f', rfl, i1, i2, i3, i4, hR4, hk4⟩
    have H4 : Hid (Rp w4 A C M F f' size h0 81 _ (ins hb k (h0, ⟨b, (nodes F hb)[k].a + (nodes F hb)[k].s, n⟩)) ∧ Kept No w w4 ∧ h0 ≤ 65537) := ⟨hR4, H3.out.2.2.since hk4 H3.out.2.1, hR4.h_le⟩
    have HS4 : Hid (sumS (nodes F (ins hb k (h0, ⟨b, (nodes F hb)[k].a + (nodes F hb)[k].s, n⟩))) = S + n) := by show _ = _; rw [sum_ins F hb h1, HS.out]
    clear i1 i2 i3 i4 hR4 hk4
    go_wp2_with (go_at_call 14; refine (no_any _ _).mono ?_; rintro e w' ⟨rfl, rfl⟩)
    refine (Live_rp w4 H4.out.1).mono ?_
    rintro e w5 ⟨rfl, hk5⟩
    rw [HS4.out]
    have H5 : Hid (Rp w5 A C M F f' size h0 81 _ (ins hb k (h0, ⟨b, (nodes F hb)[k].a + (nodes F hb)[k].s, n⟩)) ∧ Kept No w w5) := ⟨H4.out.1.no hk5, H4.out.2.1.trans hk5⟩
    clear hk5
    go_wp2_with (go_at_call 18; refine (Len_some (x := (h0, ⟨b, (nodes F hb)[k].a + (nodes F hb)[k].s, n⟩)) (ins_mem.2 (.inl rfl)) (wf_of (by omega) (by have := H4.out.2.2; omega)) _ H5.out.1).mono ?_; rintro e w' ⟨rfl, rfl⟩)
    refine (alive_any w5).mono ?_
    rintro e w6 ⟨rfl, h6⟩
    have H6 : Hid (Kept No w w6) := H5.out.2.trans h6
    clear h6
    go_wp2
    go_ret
    exact ⟨rfl, H6.out⟩
  · have hg := gm_lt (l := nodes F hb) (size := size) (n := n) (by omega) h1
    have HK : Hid (∀ i, i < (nodes F hb).length → gap (nodes F hb) size i < n) := h1
    obtain ⟨G, HG⟩ : ∃ G, Hid (gm (nodes F hb) size (nodes F hb).length = G) := ⟨_, show _ = _ from rfl⟩
    obtain ⟨S, HS⟩ : ∃ S, Hid (sumS (nodes F hb) = S) := ⟨_, show _ = _ from rfl⟩
    have hng : ¬ (n : Int) ≤ G := by rw [HG.out] at hg; omega
    rw [HG.out, HS.out]
    rw [HS.out] at hle
    have u2 : IntKind.i64.wrap ((size : Int) - (S : Int)) = (size : Int) - (S : Int) := by rw [IntKind.wrap_i64]; omega
    clear h1 hg
    go_wp2_with fail
    refine (Alloc_full w3 H3.out.1 hr HK.out).mono ?_
    rintro e w4 ⟨rfl, ⟨f', hR4⟩, hk4⟩
    have H4 : Hid (Rx w w4 A C M F f' size least 80 cs hb) := ⟨hR4, H3.out.2.1, H3.out.2.2.since hk4 (fun j e => H3.out.2.1 j (.inl e))⟩
    clear hR4 hk4
    go_wp2_with (go_at_call 14; refine (no_any _ _).mono ?_; rintro e w' ⟨rfl, rfl⟩)
    refine (Live_rp w4 H4.out.1).mono ?_
    rintro e w5 ⟨rfl, hk5⟩
    rw [HS.out]
    have H5 : Hid (Rx w w5 A C M F f' size least 80 cs hb) := H4.out.no hk5
    clear hk5
    go_wp2_with fail
    refine (Compact_rp w5 H5.out.1).mono ?_
    rintro e w6 ⟨rfl, hR6, hk6⟩
    have H6 : Hid (Rp w6 A C M F f' size least 80 _ (cmpH 0 hb) ∧ Kept No w w6) := ⟨hR6, H5.out.2.2.since hk6 H5.out.2.1⟩
    have hlen : (nodes F (cmpH 0 hb)).length = (nodes F hb).length := by rw [nodes_cmpH, comp_length]
    have hlast : gap (nodes F (cmpH 0 hb)) size ((nodes F hb).length - 1) = (size : Int) - (S : Int) := by
      rw [nodes_cmpH, gap_last 0 _ size (by simp [nodes]), HS.out]; omega
    have hzero : ∀ i, i < (nodes F hb).length - 1 → gap (nodes F (cmpH 0 hb)) size i = 0 := fun i hi => by rw [nodes_cmpH]; exact gap_comp 0 _ size i (by omega)
    have hpos : 1 ≤ (nodes F hb).length := by simp [nodes]
    have HZ : Hid ((nodes F (cmpH 0 hb)).length = (nodes F hb).length ∧ gap (nodes F (cmpH 0 hb)) size ((nodes F hb).length - 1) = (size : Int) - (S : Int) ∧ (∀ i, i < (nodes F hb).length - 1 → gap (nodes F (cmpH 0 hb)) size i = 0) ∧ 1 ≤ (nodes F hb).length) := ⟨hlen, hlast, hzero, hpos⟩
    have HM : Hid (∀ i, FP A C M F (cmpH 0 hb) i → w.heap.size ≤ i) := fun i e => H5.out.2.1 i (fp_sub (fun x hx => by obtain ⟨y, hy, _, e, _⟩ := cmpH_mem hx; exact ⟨y, hy, e⟩) e)
    clear hR6 hk6 hlen hlast hzero hpos
    by_cases hf : (n : Int) ≤ (size : Int) - (S : Int)
    · go_wp2_with fail
      refine (Alloc_room (k := (nodes F hb).length - 1) w6 H6.out.1 hr (by omega) (by have := HZ.out; omega) (by rw [HZ.out.2.1]; exact hf) (fun i hi => by rw [HZ.out.2.2.1 i hi]; omega)).mono ?_
      rintro e w7 ⟨h0, b, f'', rfl, i1, i2, i3, i4, hR7, hk7⟩
      have H7 : Hid (Kept No w w7) := H6.out.2.since hk7 HM.out
      clear i1 i2 i3 i4 hR7 hk7
      go_wp2_with (go_at_call 14; refine (no_any _ _).mono ?_; rintro e w' ⟨rfl, rfl⟩)
      refine (alive_any w7).mono ?_
      rintro e w8 ⟨rfl, h8⟩
      have H8 : Hid (Kept No w w8) := H7.out.trans h8
      clear h8
      go_wp2
      go_ret
      exact ⟨rfl, H8.out⟩
    · go_wp2_with fail
      refine (Alloc_full w6 H6.out.1 hr (fun i hi => by
        have hz := HZ.out
        by_cases e : i = (nodes F hb).length - 1
        · rw [e, hz.2.1]; omega
        · rw [hz.2.2.1 i (by omega)]; omega)).mono ?_
      rintro e w7 ⟨rfl, ⟨f'', hR7⟩, hk7⟩
      have H7 : Hid (Kept No w w7) := H6.out.2.since hk7 (fun j e => HM.out j (.inl e))
      clear hR7 hk7
      go_wp2_with (go_at_call 14; refine (no_any _ _).mono ?_; rintro e w' ⟨rfl, rfl⟩)
      refine (alive_any w7).mono ?_
      rintro e w8 ⟨rfl, h8⟩
      have H8 : Hid (Kept No w w8) := H7.out.trans h8
      clear h8
      go_wp2
      go_ret
      refine ⟨?_, H8.out⟩
      show Ending.returned (.bool (!decide ((n : Int) ≤ (size : Int) - (S : Int)))) = _
      rw [decide_eq_false (by omega)]; rfl

theorem ArenaFull_any {L : List (Int × Int × Int × Int)} (size : Int) (v : Value) (n : Int) (w : World) (hL : Acts w v L) : Calls Try.prog 7 #[.int .i64 size, v, .int .i64 n] w fun e w' => e = .returned (.bool true) ∧ Below w.heap.size w w' :=
  (Full_any size n v L w hL).mono (fun e w' ⟨he, hk⟩ => ⟨he, hk.below (Nat.le_refl _) (fun k e => e.elim)⟩)
end Go.Proofs.Ytdaklohfecinjaa
