/- Resize, walked for any arena. -/
import Derived.Test.YtdaklohfecinjaaE2
namespace Go.Proofs.Ytdaklohfecinjaa
open Go.RowKit
set_option linter.unusedSimpArgs false
set_option linter.unusedVariables false

/-- linkBehind, of a whole list. -/
theorem link_list {b : Nd} {bah bbh : Option Nat} {X Y : List Nd} {x : Nd} (w : World) (hs : Seg w none (X ++ x :: Y) none) (hnd : ((X ++ x :: Y).map Nd.p).Nodup) (hb : w.heap[b.p]? = some (nd b.a b.s bah bbh)) (hbn : b.p ∉ (X ++ x :: Y).map Nd.p) :
    Calls Try.prog 64 #[.pointer (some ⟨b.p, 0, none⟩), .pointer (some ⟨x.p, 0, none⟩)] w fun e w' => (∃ v, e = .returned v) ∧ Seg w' none (X ++ x :: b :: Y) none ∧ Kept (fun k => k = b.p ∨ k ∈ (X ++ x :: Y).map Nd.p) w w' := by
  rw [Seg_append] at hs
  obtain ⟨hX, hx, hY⟩ := hs
  obtain ⟨d1, d2, d3, d4⟩ := split_nodup hnd
  have hbx : b.p ≠ x.p := fun e => hbn (by rw [e]; exact mem_mid)
  have hXb : ∀ y ∈ X, y.p ≠ b.p := fun y hy e => hbn (by rw [← e]; exact List.mem_map_of_mem (List.mem_append.2 (.inl hy)))
  have hYb : ∀ y ∈ Y, y.p ≠ b.p := fun y hy e => hbn (by rw [← e]; exact List.mem_map_of_mem (List.mem_append.2 (.inr (List.mem_cons_of_mem _ hy))))
  cases Y with
  | nil =>
    refine (link_last w hb hx hbx).mono ?_
    rintro e w' ⟨hv, hb', hx', hk, hsz⟩
    refine ⟨hv, ?_, hk.mono (fun k e => ?_)⟩
    · rw [Seg_append]
      exact ⟨hX.kept hk (fun y hy e => by
        rcases e with e | e
        · exact hXb y hy e
        · exact d1 y hy e), hx', hb', trivial⟩
    · rcases e with e | e
      · exact .inl e
      · exact .inr (by rw [e]; exact mem_mid)
  | cons y Y =>
    obtain ⟨hy, hY'⟩ := hY
    have hxy : x.p ≠ y.p := fun e => d2 y (by simp) e.symm
    have d4' : ∀ z ∈ Y, z.p ≠ y.p := fun z hz e => (List.nodup_cons.1 d4).1 (by rw [← e]; exact List.mem_map_of_mem hz)
    refine (link_mid w hb hx hy hbx (fun e => hYb y (by simp) e.symm) hxy).mono ?_
    rintro e w' ⟨hv, hb', hx', hy', hk, hsz⟩
    refine ⟨hv, ?_, hk.mono (fun k e => ?_)⟩
    · rw [Seg_append]
      refine ⟨hX.kept hk (fun z hz e => ?_), hx', hb', hy', hY'.kept hk (fun z hz e => ?_)⟩
      · rcases e with e | e | e
        · exact hXb z hz e
        · exact d1 z hz e
        · exact d3 z hz y (by simp) e
      · rcases e with e | e | e
        · exact hYb z (by simp [hz]) e
        · exact d2 z (by simp [hz]) e
        · exact d4' z hz e
    · rcases e with e | e | e
      · exact .inl e
      · exact .inr (by rw [e]; exact mem_mid)
      · exact .inr (by rw [e]; exact List.mem_map_of_mem (List.mem_append.2 (.inr (by simp))))

theorem gap_out {size : Nat} {x y : Nd} {Y : List Nd} (hy : 1 ≤ y.s) : ∀ {o : Nat} (X : List Nd), Geo size o (X ++ x :: y :: Y) → 1 ≤ gap (X ++ x :: Y) size X.length
  | o, [], ⟨g1, g2, g3⟩ => by
    cases Y with
    | nil => have : y.a + y.s ≤ size := g3; show 1 ≤ (size : Int) - ((x.a : Int) + (x.s : Int)); omega
    | cons z Z => have := g3.1; show 1 ≤ (z.a : Int) - ((x.a : Int) + (x.s : Int)); omega
  | o, z :: Z, ⟨_, g⟩ => gap_out hy Z g

theorem ins_rem {hb : List (Nat × Nd)} {k : Nat} (hk : k < hb.length) : ins (rem hb k) k hb[k] = hb := by
  unfold ins rem
  have hl : (hb.take k).length = k := by rw [List.length_take]; omega
  rw [List.take_append_of_le_length (by omega), List.take_of_length_le (by omega), List.drop_append_of_le_length (by omega), List.drop_of_length_le (by omega), List.nil_append, ← List.drop_eq_getElem_cons hk, List.take_append_drop]

theorem nodes_rem_at (F : Nat) (hb : List (Nat × Nd)) {k : Nat} (hk : k < hb.length) : ∃ h : k < (nodes F (rem hb k)).length, (nodes F (rem hb k)).take k = (nodes F hb).take k ∧ (nodes F (rem hb k))[k] = (nodes F hb)[k]'(by simp [nodes]; omega) ∧ (nodes F (rem hb k)).drop (k + 1) = (nodes F hb).drop (k + 2) := by
  have e := nodes_rem F hb hk
  have h1 : k < (nodes F hb).length := by simp [nodes]; omega
  have hl : ((nodes F hb).take k).length = k := by rw [List.length_take]; omega
  have hlen : k < (nodes F (rem hb k)).length := by rw [e, List.length_append, hl]; simp
  refine ⟨hlen, ?_, ?_, ?_⟩
  · rw [e, List.take_append_of_le_length (by omega), List.take_of_length_le (by omega)]
  · have : (nodes F (rem hb k))[k]? = some ((nodes F hb)[k]) := by
      rw [e, List.getElem?_append_right (by omega), hl, Nat.sub_self]; rfl
    rw [List.getElem?_eq_getElem hlen] at this
    exact Option.some.inj this
  · rw [e, List.drop_append, hl, List.drop_of_length_le (by omega), show k + 1 - k = 1 by omega]; rfl

set_option maxHeartbeats 400000 in
theorem Resize_none {A C M F f size least nn : Nat} {cs : List Int} {hb : List (Nat × Nd)} (i n : Int) (hw : wf i) (w : World) (h : Rp w A C M F f size least nn cs hb) (hl : look hb i = none) :
    Calls Try.prog 34 #[.pointer (some ⟨A, 0, none⟩), .int .i64 i, .int .i64 n] w fun e w' => e = .returned (.int .i64 5) ∧ w = w' := by
  have HR : Hid (Rp w A C M F f size least nn cs hb ∧ wf i ∧ look hb i = none) := ⟨h, hw, hl⟩
  clear h hw hl
  go_enter Try.func34, Try.ntmps34
  go_wp2_with (go_at_call 50; refine (find_none _ _ HR.out.1.hA HR.out.1.map HR.out.2.1 HR.out.2.2).mono ?_; rintro e w' ⟨rfl, rfl⟩)
  go_ret
  exact ⟨rfl, rfl⟩

set_option maxHeartbeats 400000 in
theorem Resize_arg {A C M F f size least nn : Nat} {cs : List Int} {hb : List (Nat × Nd)} {x : Nat × Nd} (hx : x ∈ hb) (hw : wf x.1) (n : Int) (hn : rl n = false) (w : World) (h : Rp w A C M F f size least nn cs hb) :
    Calls Try.prog 34 #[.pointer (some ⟨A, 0, none⟩), .int .i64 x.1, .int .i64 n] w fun e w' => e = .returned (.int .i64 1) ∧ w = w' := by
  have HR : Hid (Rp w A C M F f size least nn cs hb ∧ wf x.1 ∧ look hb x.1 = some x.2.p) := ⟨h, hw, look_mem h.hnd hx⟩
  clear h hw hx
  go_enter Try.func34, Try.ntmps34
  go_wp2_with (first | (go_at_call 50; refine (find_some _ _ HR.out.1.hA HR.out.1.map HR.out.2.1 HR.out.2.2).mono ?_; rintro e w' ⟨rfl, rfl⟩) | (go_at_call 38; refine (right_any _ _).mono ?_; rintro e w' ⟨rfl, rfl⟩))
  go_ret
  exact ⟨rfl, rfl⟩

set_option maxHeartbeats 1000000 in
theorem Resize_some {A C M F f size least nn k n : Nat} {cs : List Int} {hb : List (Nat × Nd)} (w : World) (h : Rp w A C M F f size least nn cs hb) (hk : k < hb.length) (hw : wf hb[k].1) (hn : rl n = true) :
    Calls Try.prog 34 #[.pointer (some ⟨A, 0, none⟩), .int .i64 hb[k].1, .int .i64 n] w fun e w' =>
      ((e = .returned (.int .i64 8) ∧ (∀ i, i < (nodes F (rem hb k)).length → gap (nodes F (rem hb k)) size i < n) ∧ (∃ f', Rp w' A C M F f' size least nn cs hb)) ∨
      (e = .returned (.int .i64 0) ∧ ∃ k', ∃ hk' : k' < (nodes F (rem hb k)).length, (n : Int) ≤ gap (nodes F (rem hb k)) size k' ∧ (∀ i, i < k' → gap (nodes F (rem hb k)) size i < n) ∧
        ∃ f', Rp w' A C M F f' size least nn (layC cs hb[k].2.a (min n hb[k].2.s) ((nodes F (rem hb k))[k'].a + (nodes F (rem hb k))[k'].s) n) (ins (rem hb k) k' (hb[k].1, ⟨hb[k].2.p, (nodes F (rem hb k))[k'].a + (nodes F (rem hb k))[k'].s, n⟩)))) ∧ Kept (FP A C M F hb) w w' := by
  have hn' := rl_true hn
  have h1 : k < (nodes F hb).length := by simp [nodes]; omega
  have hsp := nodes_split2 F hb hk
  have hpk := h.pos hb[k] (List.getElem_mem hk)
  have hm : hb[k].2 ∈ nodes F hb := List.mem_cons_of_mem _ (List.mem_map_of_mem (List.getElem_mem hk))
  have hbd := h.geo.bd _ hm
  have hnode : w.heap[hb[k].2.p]? = some (nd hb[k].2.a hb[k].2.s (some (nodes F hb)[k].p) (hd ((nodes F hb).drop (k + 2)) none)) := by
    have hs := h.seg
    rw [hsp, Seg_append] at hs
    exact hs.2.2.1
  have hAp : A ≠ hb[k].2.p := h.ne.2.1 _ hm
  have hCp : C ≠ hb[k].2.p := h.ne.2.2 _ hm
  have hout : hb[k].2.p ∉ (nodes F (rem hb k)).map Nd.p := by
    have hp2 : ((nodes F hb).map Nd.p).Perm (hb[k].2.p :: (nodes F (rem hb k)).map Nd.p) := by
      rw [nodes_rem F hb hk]
      conv => lhs; rw [nodes_split2 F hb hk]
      simp only [List.map_append, List.map_cons]
      refine List.Perm.trans ?_ List.perm_middle
      refine List.Perm.append_left _ (List.Perm.swap _ _ _)
    exact (List.nodup_cons.1 (hp2.nodup_iff.1 h.nod)).1
  have hFPr : ∀ j, j ∈ (nodes F (rem hb k)).map Nd.p → FP A C M F hb j := fun j e => by
    obtain ⟨y, hy, e⟩ := List.mem_map.1 e
    refine .inr (.inr (.inr ?_))
    rw [← e]
    rw [nodes_rem F hb hk] at hy
    exact List.mem_map_of_mem (by rw [hsp]; exact sub_mem hy)
  have HX : Hid (hb[k].2.p ∉ (nodes F (rem hb k)).map Nd.p ∧ (∀ j, j ∈ (nodes F (rem hb k)).map Nd.p → FP A C M F hb j) ∧ FP A C M F hb hb[k].2.p ∧ A ≠ hb[k].2.p ∧ C ≠ hb[k].2.p ∧ M ≠ hb[k].2.p) := ⟨hout, hFPr, .inr (.inr (.inr (List.mem_map_of_mem hm))), hAp, hCp, h.map_ne.2.2 _ hm⟩
  have HR : Hid (Rp w A C M F f size least nn cs hb ∧ wf hb[k].1 ∧ look hb hb[k].1 = some hb[k].2.p) := ⟨h, hw, look_mem h.hnd (List.getElem_mem hk)⟩
  obtain ⟨x0, x1, x2, x3⟩ := nd_cells hnode
  rw [pt_some] at x2
  have HP : Hid (1 ≤ hb[k].2.s ∧ hb[k].2.a + hb[k].2.s ≤ size) := ⟨hpk.1, hbd⟩
  clear h hw hnode hout hFPr hAp hCp hm hpk hbd hsp
  go_enter Try.func34, Try.ntmps34
  go_wp2_with (first | (go_at_call 50; refine (find_some _ _ HR.out.1.hA HR.out.1.map HR.out.2.1 HR.out.2.2).mono ?_; rintro e w' ⟨rfl, rfl⟩) | (go_at_call 38; refine (right_any _ _).mono ?_; rintro e w' ⟨rfl, rfl⟩))
  refine (HR.out.1.unlink w hk).mono ?_
  rintro e w1 ⟨⟨v, rfl⟩, ⟨f1, q1⟩, hb1, hM1, hk1⟩
  have H1 : Hid (Rq w1 A C M F f1 size least cs (nodes F (rem hb k)) ∧ w1.heap[hb[k].2.p]? = some (nd hb[k].2.a hb[k].2.s (some (nodes F hb)[k].p) (hd ((nodes F hb).drop (k + 2)) none)) ∧ MapIs w1 M nn (look hb) ∧ Kept (FP A C M F hb) w w1) := ⟨q1, hb1, hM1, hk1⟩
  clear q1 hb1 hM1 hk1
  go_wp2_with fail
  refine (H1.out.1.place (n := n) (by omega)).mono ?_
  rintro e w2 ⟨r, rfl, hr, ⟨f2, q2⟩, hk2⟩
  have hb2 := hk2.heap H1.out.2.1 (fun e => HX.out.2.2.2.1 e.symm)
  have hM2 := H1.out.2.2.1.kept hk2 (HR.out.1.map_ne.1)
  have H2 : Hid (Rq w2 A C M F f2 size least cs (nodes F (rem hb k)) ∧ w2.heap[hb[k].2.p]? = some (nd hb[k].2.a hb[k].2.s (some (nodes F hb)[k].p) (hd ((nodes F hb).drop (k + 2)) none)) ∧ MapIs w2 M nn (look hb) ∧ Kept (FP A C M F hb) w w2) := ⟨q2, hb2, hM2, H1.out.2.2.2.trans (hk2.mono (fun j e => .inl e))⟩
  clear q2 hb2 hM2 hk2
  rcases hr with ⟨k', hk', rfl, hg1, hg2⟩ | ⟨rfl, hg⟩
  · rw [pt_some]
    have HG : Hid ((n : Int) ≤ gap (nodes F (rem hb k)) size k' ∧ ∀ i, i < k' → gap (nodes F (rem hb k)) size i < n) := ⟨hg1, hg2⟩
    obtain ⟨y, HY⟩ : ∃ y, Hid ((nodes F (rem hb k))[k'] = y) := ⟨(nodes F (rem hb k))[k'], show _ = _ from rfl⟩
    have hsp := nodes_split F (rem hb k) hk'
    have hfit : y.a + y.s + n ≤ size := by
      have hg := Geo.insert (b := 0) (m := n) k' hk' H2.out.1.geo hg1
      have := hg.bd ⟨0, (nodes F (rem hb k))[k'].a + (nodes F (rem hb k))[k'].s, n⟩ (List.mem_append.2 (.inr (List.mem_cons_of_mem _ List.mem_cons_self)))
      rw [HY.out] at this
      exact this
    have HS : Hid (Seg w2 none ((nodes F (rem hb k)).take k' ++ y :: (nodes F (rem hb k)).drop (k' + 1)) none ∧ (((nodes F (rem hb k)).take k' ++ y :: (nodes F (rem hb k)).drop (k' + 1)).map Nd.p).Nodup ∧ hb[k].2.p ∉ ((nodes F (rem hb k)).take k' ++ y :: (nodes F (rem hb k)).drop (k' + 1)).map Nd.p) := by
      rw [← HY.out, ← hsp]; exact ⟨H2.out.1.seg, H2.out.1.nod, HX.out.1⟩
    rw [HY.out]
    clear hg1 hg2 hsp
    go_wp2_with fail
    refine (putB_list (n := n) w2 H2.out.1.hA H2.out.1.hC H2.out.1.len HS.out.1 HS.out.2.1 H2.out.2.1 HS.out.2.2 (by omega) HP.out.2 hfit H2.out.1.sz (by have := HP.out; omega)).mono ?_
    rintro e w3 ⟨⟨v, rfl⟩, hC3, hs3, hk3, hz3⟩
    have H3 : Hid (w3.heap[C]? = some (cl (layC cs hb[k].2.a (min n hb[k].2.s) (y.a + y.s) n)) ∧ Seg w3 none ((nodes F (rem hb k)).take k' ++ y :: ⟨hb[k].2.p, y.a + y.s, n⟩ :: (nodes F (rem hb k)).drop (k' + 1)) none ∧ Kept (PB C hb[k].2.p ((nodes F (rem hb k)).take k' ++ y :: (nodes F (rem hb k)).drop (k' + 1))) w2 w3) := ⟨hC3, hs3, hk3⟩
    clear hC3 hs3 hk3 hz3
    go_wp2
    go_ret
    obtain ⟨hC3, hs3, hk3⟩ := H3.out
    have hsp := nodes_split F (rem hb k) hk'
    obtain ⟨n1, n2, n3⟩ := H2.out.1.ne
    have hmem : ∀ j, PB C hb[k].2.p ((nodes F (rem hb k)).take k' ++ y :: (nodes F (rem hb k)).drop (k' + 1)) j → j = C ∨ j = hb[k].2.p ∨ j ∈ (nodes F (rem hb k)).map Nd.p := fun j e => by
      rcases e with e | e | e
      · exact .inl e
      · exact .inr (.inl e)
      · rw [hsp, HY.out]; exact .inr (.inr e)
    have hA3 := hk3.heap H2.out.1.hA (fun e => by
      rcases hmem _ e with e | e | e
      · exact n1 e
      · exact HX.out.2.2.2.1 e
      · obtain ⟨z, hz, e⟩ := List.mem_map.1 e
        exact n2 z hz e.symm)
    have hM3 := H2.out.2.2.1.kept hk3 (fun e => by
      rcases hmem _ e with e | e | e
      · exact HR.out.1.map_ne.2.1 e
      · exact HX.out.2.2.2.2.2 e
      · obtain ⟨z, hz, e⟩ := List.mem_map.1 e
        refine HR.out.1.map_ne.2.2 z ?_ e.symm
        rw [nodes_rem F hb hk] at hz
        rw [nodes_split2 F hb hk]; exact sub_mem hz)
    refine ⟨.inr ⟨rfl, k', hk', HG.out.1, HG.out.2, f2, ?_⟩, H2.out.2.2.2.trans (hk3.mono (fun j e => ?_))⟩
    · refine Rq.back HR.out.1 hk H2.out.1 hk' (by omega) (by have := HG.out.1; omega) (Geo.insert k' hk' H2.out.1.geo HG.out.1) hA3 (by rw [HY.out]; exact hC3) ?_ (by rw [HY.out]; exact hs3) hM3
      have hl := H2.out.1.len
      have hP := HP.out
      rw [HY.out]
      unfold layC
      rw [putL_length, putL_length]
      · exact hl
      · simp; omega
      · rw [putL_length (by simp; omega)]; simp; omega
    · rcases hmem _ e with e | e | e
      · exact .inr (.inl e)
      · rw [e]; exact HX.out.2.2.1
      · exact HX.out.2.1 _ e
  · rw [pt_none]
    have HG : Hid (∀ i, i < (nodes F (rem hb k)).length → gap (nodes F (rem hb k)) size i < n) := hg
    clear hg
    have HS : Hid (Seg w2 none ((nodes F hb).take k ++ (nodes F hb)[k] :: (nodes F hb).drop (k + 2)) none ∧ (((nodes F hb).take k ++ (nodes F hb)[k] :: (nodes F hb).drop (k + 2)).map Nd.p).Nodup ∧ hb[k].2.p ∉ ((nodes F hb).take k ++ (nodes F hb)[k] :: (nodes F hb).drop (k + 2)).map Nd.p) := by
      rw [← nodes_rem F hb hk]; exact ⟨H2.out.1.seg, H2.out.1.nod, HX.out.1⟩
    go_wp2_with fail
    refine (link_list w2 HS.out.1 HS.out.2.1 H2.out.2.1 HS.out.2.2).mono ?_
    rintro e w3 ⟨⟨v, rfl⟩, hs3, hk3⟩
    have H3 : Hid (Seg w3 none ((nodes F hb).take k ++ (nodes F hb)[k] :: hb[k].2 :: (nodes F hb).drop (k + 2)) none ∧ Kept (fun j => j = hb[k].2.p ∨ j ∈ ((nodes F hb).take k ++ (nodes F hb)[k] :: (nodes F hb).drop (k + 2)).map Nd.p) w2 w3) := ⟨hs3, hk3⟩
    clear hs3 hk3
    go_wp2
    go_ret
    obtain ⟨hs3, hk3⟩ := H3.out
    obtain ⟨n1, n2, n3⟩ := H2.out.1.ne
    have hmem : ∀ j, (j = hb[k].2.p ∨ j ∈ ((nodes F hb).take k ++ (nodes F hb)[k] :: (nodes F hb).drop (k + 2)).map Nd.p) → j = hb[k].2.p ∨ j ∈ (nodes F (rem hb k)).map Nd.p := fun j e => by
      rw [nodes_rem F hb hk]; exact e
    have hA3 := hk3.heap H2.out.1.hA (fun e => by
      rcases hmem _ e with e | e
      · exact HX.out.2.2.2.1 e
      · obtain ⟨z, hz, e⟩ := List.mem_map.1 e
        exact n2 z hz e.symm)
    have hC3 := hk3.heap H2.out.1.hC (fun e => by
      rcases hmem _ e with e | e
      · exact HX.out.2.2.2.2.1 e
      · obtain ⟨z, hz, e⟩ := List.mem_map.1 e
        exact n3 z hz e.symm)
    have hM3 := H2.out.2.2.1.kept hk3 (fun e => by
      rcases hmem _ e with e | e
      · exact HX.out.2.2.2.2.2 e
      · obtain ⟨z, hz, e⟩ := List.mem_map.1 e
        refine HR.out.1.map_ne.2.2 z ?_ e.symm
        rw [nodes_rem F hb hk] at hz
        rw [nodes_split2 F hb hk]; exact sub_mem hz)
    refine ⟨.inl ⟨rfl, HG.out, f2, ?_⟩, H2.out.2.2.2.trans (hk3.mono (fun j e => ?_))⟩
    · obtain ⟨hkr, e1, e2, e3⟩ := nodes_rem_at F hb hk
      have hgeo := HR.out.1.geo
      rw [nodes_split2 F hb hk] at hgeo
      have hl : ((nodes F hb).take k).length = k := by rw [List.length_take]; omega
      have hgap := gap_out HP.out.1 _ hgeo
      rw [hl, ← nodes_rem F hb hk] at hgap
      have := Rq.back (k' := k) (a := hb[k].2.a) (m := hb[k].2.s) (w5 := w3) (cs5 := cs) HR.out.1 hk H2.out.1 hkr HP.out.1 hgap (by rw [e1, e2, e3]; exact hgeo) hA3 hC3 H2.out.1.len (by rw [e1, e2, e3]; exact hs3) hM3
      have hi : ins (rem hb k) k (hb[k].1, ⟨hb[k].2.p, hb[k].2.a, hb[k].2.s⟩) = hb := ins_rem hk
      rw [hi] at this
      exact this
    · rcases hmem _ e with e | e
      · rw [e]; exact HX.out.2.2.1
      · exact HX.out.2.1 _ e
end Go.Proofs.Ytdaklohfecinjaa
