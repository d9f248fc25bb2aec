/- ArenaApart, walked. -/
import Derived.Test.YtdaklohfecinjaaP1
import Derived.Test.YtdaklohfecinjaaF3
namespace Go.Proofs.Ytdaklohfecinjaa
open Go.RowKit Go.Maps Go.Sort Go.Shelf
set_option linter.unusedSimpArgs false
set_option linter.unusedVariables false

/-- The blocks, by rising handles. -/
theorem entries (hb : List (Nat × Nd)) (hnd : (hb.map Prod.fst).Nodup) : ∃ xs : List (Nat × Nd), xs.Perm hb ∧ hs xs = hsS hb ∧ (xs.map Prod.fst).Pairwise (· < ·) := by
  let le : Nat × Nd → Nat × Nd → Bool := fun a b => decide (a.1 ≤ b.1)
  have tr : ∀ a b c, le a b = true → le b c = true → le a c = true := fun a b c h1 h2 => by simp only [le, decide_eq_true_eq] at *; omega
  have to : ∀ a b, (le a b || le b a) = true := fun a b => by simp only [le, Bool.or_eq_true, decide_eq_true_eq]; omega
  have hp := List.mergeSort_perm hb le
  have hw := List.pairwise_mergeSort tr to hb
  refine ⟨hb.mergeSort le, hp, ?_, ?_⟩
  · have h1 : (hs (hb.mergeSort le)).Perm (hs hb) := hp.map _
    have h2 : hsS hb = (hs (hb.mergeSort le)).mergeSort fun x y => decide (x ≤ y) := (mergeSort_of_perm_i h1).symm
    rw [h2]
    refine (List.mergeSort_of_pairwise ?_).symm
    unfold hs
    rw [List.pairwise_map]
    refine hw.imp (fun {a b} h => ?_)
    simp only [le, decide_eq_true_eq] at h ⊢
    omega
  · have hn : ((hb.mergeSort le).map Prod.fst).Nodup := (hp.map Prod.fst).nodup_iff.2 hnd
    have h3 : ((hb.mergeSort le).map Prod.fst).Pairwise (· ≤ ·) := by
      rw [List.pairwise_map]
      exact hw.imp (fun {a b} h => by simpa [le] using h)
    exact (List.Pairwise.and h3 hn).imp (fun {a b} h => by omega)

theorem sumS_perm {l m : List Nd} (h : l.Perm m) : sumS l = sumS m := by
  unfold sumS
  exact (h.map Nd.s).sum_nat
theorem sumS_map_take {xs : List (Nat × Nd)} {k : Nat} (hk : k < xs.length) : sumS ((xs.map Prod.snd).take (k + 1)) = sumS ((xs.map Prod.snd).take k) + xs[k].2.s := by
  rw [sumS_take (by simpa using hk)]; simp

/-- A row of handles. -/
theorem row_cells {w : World} {B : Nat} {v : Value} {xs : List (Nat × Nd)} (h : w.ownsRow B 3 1 v xs.length ((hs xs).map (Value.int .i64))) :
    ∃ ao cap, v = .slice ao xs.length cap ∧ xs.length ≤ cap ∧ ∀ k (hk : k < xs.length), ∃ g, ao = some ⟨g, 0, none⟩ ∧ ∀ j (hj : j < xs.length), w.cell? ⟨g, j, none⟩ = some (.int .i64 (xs[j].1 : Int)) := by
  rcases h.2 with ⟨h1, h2⟩ | ⟨g, cap, cur, h1, h2, h3, h4, h5, h6, h7⟩
  · exact ⟨none, 0, by rw [h1, h2], by omega, fun k hk => by omega⟩
  · refine ⟨some ⟨g, 0, none⟩, cap, h1, h4, fun k hk => ⟨g, rfl, fun j hj => ?_⟩⟩
    have := h.cells (g := g) (by rw [h1]; rfl) j (.int .i64 (xs[j].1 : Int)) (by simp [hs, List.getElem?_eq_getElem hj])
    by_cases h0 : j = 0
    · subst h0; simpa [Addr.add] using this
    · simpa [Addr.add, h0] using this

theorem fst_lt {xs : List (Nat × Nd)} (h : (xs.map Prod.fst).Pairwise (· < ·)) {i j : Nat} (hi : i < xs.length) (hj : j < xs.length) (hij : i < j) : xs[i].1 < xs[j].1 := by
  have := List.pairwise_iff_getElem.1 h i j (by simpa using hi) (by simpa using hj) hij
  simpa using this
theorem topN_le : ∀ {size o : Nat} {l : List Nd}, Geo size o l → l ≠ [] → topN l ≤ size
  | size, o, [x], h, _ => by have := h.bd x (by simp); exact this
  | size, o, x :: y :: r, h, _ => by
    show topN (y :: r) ≤ size
    exact topN_le h.2 (by simp)

theorem quiet_same {P : Program} {f : FuncId} {args : Array Value} {w : World} {n : Nat} {v : Value}
    (h : Calls P f args (w.drewN n) fun e w' => e = .returned v ∧ w.drewN n = w') : Calls P f args (w.drewN n) fun e w'' => e = .returned v ∧ ∃ m, w'' = w.drewN m :=
  h.mono fun _ _ ⟨he, hm⟩ => ⟨he, n, hm.symm⟩

set_option maxRecDepth 100000 in
set_option maxHeartbeats 4000000 in
theorem Apart_any (size : Int) (v : Value) (L : List (Int × Int × Int × Int)) (w : World) (hL : Acts w v L) :
    Calls Try.prog 4 #[.int .i64 size, v] w fun e w' => e = .returned (.bool true) ∧ Kept No w w' := by
  have HL : Hid (Acts w v L) := hL
  obtain ⟨ao, cap, rfl, q1, q2⟩ := hL
  clear q1 q2
  cases hs' : rl size with
  | false =>
    go_enter Try.func4, Try.ntmps4
    go_wp2_with (go_at_call 22; refine (made_none _ _ _ _ HL.out hs').mono ?_; rintro e w' ⟨rfl, rfl⟩)
    refine (alive_any w).mono ?_
    rintro e w2 ⟨rfl, h2⟩
    have H2 : Hid (Kept No w w2) := h2
    clear h2
    go_wp2
    go_ret
    exact ⟨rfl, H2.out⟩
  | true =>
  obtain ⟨size, rfl⟩ := rl_nat hs'
  rcases Nat.lt_or_ge 80 L.length with hn0 | hn
  · have hn : ¬ L.length ≤ 80 := by omega
    go_enter Try.func4, Try.ntmps4
    go_wp2_with fail
    refine (made_many _ _ _ _ HL.out hs' hn).mono ?_
    rintro e w1 ⟨rfl, h1⟩
    have H1 : Hid (Kept No w w1) := h1
    clear h1
    go_wp2_with fail
    refine (alive_any w1).mono ?_
    rintro e w2 ⟨rfl, h2⟩
    have H2 : Hid (Kept No w w2) := H1.out.trans h2
    clear h2
    go_wp2
    go_ret
    exact ⟨rfl, H2.out⟩
  go_enter Try.func4, Try.ntmps4
  go_wp2_with fail
  refine (made_some _ _ _ _ HL.out hs' hn).mono ?_
  rintro e w1 ⟨A, rfl, hb, C, M, F, f, least, cs, h1, hfp, hk1⟩
  have H1 : Hid (Rx w w1 A C M F f size least 80 cs hb) := ⟨h1, hfp, hk1⟩
  clear h1 hfp hk1
  go_wp2_with fail
  refine (Handles_any H1.out.1).mono ?_
  rintro e w2 ⟨v, rfl, hrow, hb2⟩
  obtain ⟨xs, hperm, hxs, hinc⟩ := entries hb H1.out.1.hnd
  have H2 : Hid (Rx w w2 A C M F f size least 80 cs hb) := H1.out.no (Kept.of_below hb2)
  have hlen : xs.length = hb.length := hperm.length_eq
  rw [← hxs, ← hlen] at hrow
  obtain ⟨so, cap2, rfl, hcap2, hcell⟩ := row_cells hrow
  have HC : Hid (∀ k (hk : k < xs.length), ∃ g, so = some ⟨g, 0, none⟩ ∧ ∀ j (hj : j < xs.length), w2.cell? ⟨g, j, none⟩ = some (.int .i64 (xs[j].1 : Int))) := hcell
  obtain ⟨D, hown, hpk, hDs⟩ := perm_of H2.out.1.map H2.out.1.hnd
  have HW : Hid (∀ k (hk : k < xs.length), wf (xs[k].1 : Int) ∧ xs[k] ∈ hb) := fun k hk => by
    have hm : xs[k] ∈ hb := hperm.mem_iff.1 (List.getElem_mem hk)
    refine ⟨intKeys_wf hown Try.underlying3 _ (hpk.mem_iff.1 (List.mem_map.2 ⟨xs[k], hm, rfl⟩)), hm⟩
  have HAd : Hid (∀ W, Kept No w2 W → ∀ k (hk : k < xs.length), Calls Try.prog 20 #[.pointer (some ⟨A, 0, none⟩), .int .i64 (xs[k].1 : Int)] W fun e w' => e = .returned (.int .i64 xs[k].2.a) ∧ W = w') := fun W hW k hk =>
    Addr_some (HW.out k hk).2 (HW.out k hk).1 _ (H2.out.1.no hW)
  have HLn : Hid (∀ W, Kept No w2 W → ∀ k (hk : k < xs.length), Calls Try.prog 18 #[.pointer (some ⟨A, 0, none⟩), .int .i64 (xs[k].1 : Int)] W fun e w' => e = .returned (.int .i64 xs[k].2.s) ∧ W = w') := fun W hW k hk =>
    Len_some (HW.out k hk).2 (HW.out k hk).1 _ (H2.out.1.no hW)
  have HI : Hid ((xs.map Prod.fst).Pairwise (· < ·)) := hinc
  have HP : Hid (xs.Perm hb) := hperm
  have hxl : xs.length ≤ 65536 := by have := H2.out.1.length_le; have := H2.out.1.sz; omega
  have hsz : size ≤ 65536 := H2.out.1.sz
  have HB : Hid (∀ k (hk : k < xs.length), xs[k].2.a + xs[k].2.s ≤ size ∧ 1 ≤ xs[k].2.s) := fun k hk =>
    ⟨H2.out.1.geo.bd _ (List.mem_cons_of_mem _ (List.mem_map_of_mem (HW.out k hk).2)), (H2.out.1.pos _ (HW.out k hk).2).1⟩
  have HS : Hid (∀ k, sumS ((xs.map Prod.snd).take k) ≤ sumS (nodes F hb) ∧ sumS (xs.map Prod.snd) = sumS (nodes F hb)) := fun k => by
    have e1 : sumS (xs.map Prod.snd) = sumS (nodes F hb) := by
      rw [sumS_perm (hperm.map Prod.snd)]; simp [nodes, sumS_cons]
    have e2 : sumS ((xs.map Prod.snd).take k) + sumS ((xs.map Prod.snd).drop k) = sumS (xs.map Prod.snd) := by rw [← sumS_append, List.take_append_drop]
    exact ⟨by omega, e1⟩
  have hsum : sumS (nodes F hb) ≤ size := by have := H2.out.1.geo.le; omega
  have HH : Hid (H2.out.1.hnd = H2.out.1.hnd) := rfl
  clear hrow hb2 hown hpk hDs hcell hxs hinc hperm H1 hlen HH
  go_wp2_with fail
  go_loopw [7, 8, 9, 10, 11, 12] (fun s i _ _ _ _ wr => ∃ k : Nat, k ≤ xs.length ∧ i = .int .i64 k ∧ Hid (s = .int .i64 (sumS ((xs.map Prod.snd).take k) : Nat)) ∧ Hid (wr.heap = w2.heap ∧ Kept No w2 wr)) (fun _ i _ _ _ _ _ => xs.length - (intOf i).toNat)
  case atStart => exact ⟨0, Nat.zero_le _, rfl, rfl, rfl, Kept.refl _ _⟩
  case round =>
    obtain ⟨k, hk, rfl, hs1, hw⟩ := hrel
    have hs2 := hs1.out
    subst hs2
    clear hs1
    by_cases hlt : k < xs.length
    · obtain ⟨g, hg, hcl⟩ := HC.out k hlt
      have HCl : Hid (∀ W : World, W.heap = w2.heap → ∀ j (hj : j < xs.length), W.cell? ⟨g, j, none⟩ = some (.int .i64 (xs[j].1 : Int))) := fun W hW j hj => by
        rw [← hcl j hj]; simp [World.cell?, hW]
      have hck := HCl.out wr hw.out.1 k hlt
      have hB := HB.out k hlt
      obtain ⟨a, Ha⟩ : ∃ a, Hid (xs[k].2.a = a) := ⟨xs[k].2.a, (show xs[k].2.a = xs[k].2.a from rfl)⟩
      obtain ⟨s, Hs⟩ : ∃ s, Hid (xs[k].2.s = s) := ⟨xs[k].2.s, (show xs[k].2.s = xs[k].2.s from rfl)⟩
      obtain ⟨x, Hx⟩ : ∃ x : Int, Hid ((xs[k].1 : Int) = x) := ⟨(xs[k].1 : Int), (show (xs[k].1 : Int) = (xs[k].1 : Int) from rfl)⟩
      have HAk : Hid (∀ m, Calls Try.prog 20 #[.pointer (some ⟨A, 0, none⟩), .int .i64 x] (wr.drewN m) fun e w' => e = .returned (.int .i64 a) ∧ wr.drewN m = w') := fun m => by
        have := HAd.out (wr.drewN m) (hw.out.2.drewN m) k hlt; rw [Ha.out, Hx.out] at this; exact this
      have HLk : Hid (∀ m, Calls Try.prog 18 #[.pointer (some ⟨A, 0, none⟩), .int .i64 x] (wr.drewN m) fun e w' => e = .returned (.int .i64 s) ∧ wr.drewN m = w') := fun m => by
        have := HLn.out (wr.drewN m) (hw.out.2.drewN m) k hlt; rw [Hs.out, Hx.out] at this; exact this
      rw [Ha.out, Hs.out] at hB
      rw [Hx.out] at hck
      have hsk := sumS_map_take hlt
      rw [Hs.out] at hsk
      obtain ⟨T, HT⟩ : ∃ T, Hid (sumS ((xs.map Prod.snd).take k) = T) := ⟨_, rfl⟩
      have hTb : T + s ≤ 65536 := by have := (HS.out (k + 1)).1; rw [hsk, HT.out] at this; omega
      rw [HT.out] at hsk ⊢
      have HSK : Hid (sumS ((xs.map Prod.snd).take (k + 1)) = T + s) := hsk
      obtain ⟨b1, b2⟩ := hB
      have k1 : (0 : Int) ≤ (k : Int) := by omega
      have k2 : (k : Int) < (xs.length : Int) := by omega
      have k3 : (k : Int).toNat = k := by omega
      have e1 : decide ((a : Int) < 0) = false := by rw [decide_eq_false_iff_not]; omega
      have e2 : decide ((s : Int) < 1) = false := by rw [decide_eq_false_iff_not]; omega
      have u1 : IntKind.i64.wrap ((size : Int) - (a : Int)) = (size : Int) - (a : Int) := by rw [IntKind.wrap_i64]; omega
      have e3 : decide ((size : Int) - (a : Int) < (s : Int)) = false := by rw [decide_eq_false_iff_not]; omega
      subst hg
      clear hcl hsk
      go_wp2_with fail
      go_quiet (first | (go_at_call 20; exact quiet_same (HAk.out _)) | (go_at_call 18; exact quiet_same (HLk.out _)))
      go_wp2_with fail
      generalize nq = p1
      generalize nq = p1
      have HW2 : Hid (∀ q, (wr.drewN q).heap = w2.heap ∧ Kept No w2 (wr.drewN q)) := fun q => ⟨hw.out.1, hw.out.2.drewN q⟩
      rcases Nat.eq_zero_or_pos k with hk0 | hk0
      · subst hk0
        go_quiet (fail)
        go_wp2_with fail
        try rw [World.drewN_drewN]
        go_loop [11, 12] (fun j _ => ∃ t : Nat, t ≤ 0 ∧ j = .int .i64 t) (fun j _ => 0 - (intOf j).toNat)
        case atStart => exact ⟨0, Nat.zero_le _, rfl⟩
        case round =>
          obtain ⟨t, ht, rfl⟩ := hrel
          by_cases htk : t < 0
          · omega
          · have ht2 : t = 0 := by omega
            subst ht2
            go_wp2_with fail
            go_round
            case rel => exact ⟨0 + 1, by omega, by go_num, (show Value.int .i64 ((T : Int) + (s : Int)) = _ by rw [HSK.out, Int.natCast_add]), HW2.out _⟩
            case measure => simp [intOf] <;> omega
      · have e4 : decide ((0 : Int) < (k : Int)) = true := by simp; omega
        have hjl : k - 1 < xs.length := by omega
        have hcj := HCl.out wr hw.out.1 (k - 1) hjl
        obtain ⟨y, Hy⟩ : ∃ y : Int, Hid ((xs[k - 1].1 : Int) = y) := ⟨(xs[k - 1].1 : Int), (show (xs[k - 1].1 : Int) = (xs[k - 1].1 : Int) from rfl)⟩
        rw [Hy.out] at hcj
        have e5 : decide (x ≤ y) = false := by
          rw [decide_eq_false_iff_not, ← Hx.out, ← Hy.out]
          have := fst_lt HI.out hjl hlt (by omega)
          omega
        have v1 : IntKind.i64.wrap ((k : Int) - 1) = (k : Int) - 1 := by rw [IntKind.wrap_i64]; omega
        have v2 : (0 : Int) ≤ (k : Int) - 1 := by omega
        have v3 : (k : Int) - 1 < (xs.length : Int) := by omega
        have v4 : ((k : Int) - 1).toNat = k - 1 := by omega
        go_quiet (fail)
        go_wp2_with fail
        try rw [World.drewN_drewN]
        go_loop [11, 12] (fun j _ => ∃ t : Nat, t ≤ k ∧ j = .int .i64 t) (fun j _ => k - (intOf j).toNat)
        case atStart => exact ⟨0, Nat.zero_le _, rfl⟩
        case round =>
          obtain ⟨t, ht, rfl⟩ := hrel
          by_cases htk : t < k
          · have htl : t < xs.length := by omega
            have hct := HCl.out wr hw.out.1 t htl
            obtain ⟨c, Hc⟩ : ∃ c, Hid (xs[t].2.a = c) := ⟨xs[t].2.a, (show xs[t].2.a = xs[t].2.a from rfl)⟩
            obtain ⟨r, Hr⟩ : ∃ r, Hid (xs[t].2.s = r) := ⟨xs[t].2.s, (show xs[t].2.s = xs[t].2.s from rfl)⟩
            obtain ⟨z, Hz⟩ : ∃ z : Int, Hid ((xs[t].1 : Int) = z) := ⟨(xs[t].1 : Int), (show (xs[t].1 : Int) = (xs[t].1 : Int) from rfl)⟩
            have HAt : Hid (∀ q, Calls Try.prog 20 #[.pointer (some ⟨A, 0, none⟩), .int .i64 z] (wr.drewN q) fun e w' => e = .returned (.int .i64 c) ∧ wr.drewN q = w') := fun q => by
              have := HAd.out (wr.drewN q) (HW2.out q).2 t htl; rw [Hc.out, Hz.out] at this; exact this
            have HLt : Hid (∀ q, Calls Try.prog 18 #[.pointer (some ⟨A, 0, none⟩), .int .i64 z] (wr.drewN q) fun e w' => e = .returned (.int .i64 r) ∧ wr.drewN q = w') := fun q => by
              have := HLn.out (wr.drewN q) (HW2.out q).2 t htl; rw [Hr.out, Hz.out] at this; exact this
            have hap : a + s ≤ c ∨ c + r ≤ a := by
              have hne : xs[k].1 ≠ xs[t].1 := by have := fst_lt HI.out htl hlt htk; omega
              have := H2.out.1.apart (HW.out k hlt).2 (HW.out t htl).2 hne
              rw [Ha.out, Hs.out, Hc.out, Hr.out] at this; exact this
            have hBt := HB.out t htl
            rw [Hc.out, Hr.out] at hBt
            rw [Hz.out] at hct
            obtain ⟨d1, d2⟩ := hBt
            have t1 : (0 : Int) ≤ (t : Int) := by omega
            have t2 : (t : Int) < (xs.length : Int) := by omega
            have t3 : (t : Int).toNat = t := by omega
            have t4 : (t : Int) < ((k : Nat) : Int) := by omega
            have u2 : IntKind.i64.wrap ((c : Int) + (r : Int)) = (c : Int) + (r : Int) := by rw [IntKind.wrap_i64]; omega
            have u3 : IntKind.i64.wrap ((a : Int) + (s : Int)) = (a : Int) + (s : Int) := by rw [IntKind.wrap_i64]; omega
            rcases hap with hap | hap
            · have f1 : decide ((a : Int) < (c : Int) + (r : Int)) = true := by rw [decide_eq_true_iff]; omega
              have f2 : decide ((c : Int) < (a : Int) + (s : Int)) = false := by rw [decide_eq_false_iff_not]; omega
              go_wp2_with (first | (go_at_call 20; refine (HAt.out _).mono ?_; rintro e w' ⟨rfl, rfl⟩) | (go_at_call 18; refine (HLt.out _).mono ?_; rintro e w' ⟨rfl, rfl⟩))
              go_round
              case rel => exact ⟨t + 1, by omega, by go_num⟩
              case measure => simp [intOf] <;> omega
            · have f1 : decide ((a : Int) < (c : Int) + (r : Int)) = false := by rw [decide_eq_false_iff_not]; omega
              go_wp2_with (first | (go_at_call 20; refine (HAt.out _).mono ?_; rintro e w' ⟨rfl, rfl⟩) | (go_at_call 18; refine (HLt.out _).mono ?_; rintro e w' ⟨rfl, rfl⟩))
              go_round
              case rel => exact ⟨t + 1, by omega, by go_num⟩
              case measure => simp [intOf] <;> omega
          · have ht2 : t = k := by omega
            subst ht2
            go_wp2_with fail
            go_round
            case rel => exact ⟨t + 1, by omega, by go_num, (show Value.int .i64 ((T : Int) + (s : Int)) = _ by rw [HSK.out, Int.natCast_add]), HW2.out _⟩
            case measure => simp [intOf] <;> omega
    · have he : k = xs.length := by omega
      subst he
      have hT : sumS ((xs.map Prod.snd).take xs.length) = sumS (nodes F hb) := by
        rw [List.take_of_length_le (by simp)]; exact (HS.out 0).2
      rw [hT]
      have HR : Hid (Rx w wr A C M F f size least 80 cs hb) := H2.out.no hw.out.2
      have HTop : Hid (topN (nodes F hb) ≤ size) := topN_le HR.out.1.geo (by simp [nodes])
      clear hT
      go_wp2_with fail
      refine (Live_rp _ HR.out.1).mono ?_
      rintro e w3 ⟨rfl, h3⟩
      have HR3 : Hid (Rx w w3 A C M F f size least 80 cs hb) := HR.out.no h3
      clear h3
      generalize sumS (nodes F hb) = S at hsum ⊢
      go_wp2_with fail
      refine (Top_any _ HR3.out.1).mono ?_
      rintro e w4 ⟨rfl, h4⟩
      have HR4 : Hid (Rx w w4 A C M F f size least 80 cs hb) := HR3.out.no h4
      clear h4
      have htop : topN (nodes F hb) ≤ size := HTop.out
      generalize topN (nodes F hb) = tp at htop ⊢
      have htop2 : (tp : Int) ≤ (size : Int) := by omega
      go_wp2_with (go_at_call 26; refine (Size_any _ HR4.out.1).mono ?_; rintro e w' ⟨rfl, rfl⟩)
      refine (alive_any w4).mono ?_
      rintro e w5 ⟨rfl, h5⟩
      have H5 : Hid (Kept No w w5) := HR4.out.2.2.trans h5
      clear h5
      go_wp2
      go_ret
      exact ⟨rfl, H5.out⟩

theorem ArenaApart_any {L : List (Int × Int × Int × Int)} (size : Int) (v : Value) (w : World) (hL : Acts w v L) : Calls Try.prog 4 #[.int .i64 size, v] w fun e w' => e = .returned (.bool true) ∧ Below w.heap.size w w' :=
  (Apart_any size v L w hL).mono (fun e w' ⟨he, hk⟩ => ⟨he, hk.below (Nat.le_refl _) (fun k e => e.elim)⟩)
end Go.Proofs.Ytdaklohfecinjaa
