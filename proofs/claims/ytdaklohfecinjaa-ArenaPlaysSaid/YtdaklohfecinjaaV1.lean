/- cells: the cells of a block, as a row; what Extend leaves in each block. -/
import Derived.Test.YtdaklohfecinjaaK2
namespace Go.Proofs.Ytdaklohfecinjaa
open Go.RowKit
set_option linter.unusedSimpArgs false
set_option linter.unusedVariables false

set_option maxHeartbeats 1000000 in
theorem cells_some {A C M F f size least nn : Nat} {cs : List Int} {hb : List (Nat × Nd)} {x : Nat × Nd} (hx : x ∈ hb) (hw : wf x.1) (w : World) (h : Rp w A C M F f size least nn cs hb) :
    Calls Try.prog 37 #[.pointer (some ⟨A, 0, none⟩), .int .i64 x.1] w fun e w' => ∃ v, e = .returned v ∧ w'.ownsRow w.heap.size 2 1 v x.2.s (rowD cs x.2.a x.2.s) ∧ Kept No w w' := by
  obtain ⟨i0, hi, hz0, hz1, hz2⟩ := info_parts info2
  have hm : x.2 ∈ nodes F hb := List.mem_cons_of_mem _ (List.mem_map_of_mem hx)
  have hbd := h.geo.bd _ hm
  have hsz := h.sz
  obtain ⟨s, HS⟩ : ∃ s, Hid (x.2.s = s) := ⟨_, show _ = _ from rfl⟩
  obtain ⟨a, HA⟩ : ∃ a, Hid (x.2.a = a) := ⟨_, show _ = _ from rfl⟩
  obtain ⟨i, HI⟩ : ∃ i, Hid (x.1 = i) := ⟨_, show _ = _ from rfl⟩
  have HLen : Hid (∀ w', Kept No w w' → Calls Try.prog 18 #[.pointer (some ⟨A, 0, none⟩), .int .i64 i] w' fun e w'' => e = .returned (.int .i64 s) ∧ w' = w'') := fun w' hk' => by
    have := Len_some hx hw w' (h.no hk')
    rw [HI.out, HS.out] at this; exact this
  have HLoad : Hid (∀ w' (j : Nat), Kept No w w' → j < s → Calls Try.prog 30 #[.pointer (some ⟨A, 0, none⟩), .int .i64 i, .int .i64 j] w' fun e w'' => e = .returned (.tuple #[.int .i64 (cs.getD (a + j) 0), .int .i64 0]) ∧ Kept No w' w'') := fun w' j hk' hj => by
    have := Load_some hx hw j (by rw [HS.out]; exact hj) w' (h.no hk')
    rw [HI.out, HA.out] at this; exact this
  rw [HS.out, HA.out] at hbd
  rw [HS.out, HA.out, HI.out]
  have hs64 : s ≤ 65536 := by omega
  clear hm h hx hw
  go_enter Try.func37, Try.ntmps37
  go_wp2_with fail
  go_loopw [5, 6, 7, 8] (fun v i _ _ wr => ∃ (j : Nat) (u : Value), j ≤ s ∧ i = .int .i64 j ∧ u = v ∧ Hid (wr.ownsRow w.heap.size 2 1 u j (rowD cs a j) ∧ Kept No w wr)) (fun _ i _ _ _ => s - (intOf i).toNat)
  case atStart => exact ⟨0, _, Nat.zero_le _, rfl, rfl, World.ownsRow_nil _ _ _ _, Kept.refl _ _⟩
  case round =>
    obtain ⟨j, u, hj, rfl, hu, HJ⟩ := hrel
    subst hu
    by_cases hlt : j < s
    · have k2 : (j : Int) < (s : Int) := by omega
      go_wp2_with (go_at_call 18; refine (HLen.out _ HJ.out.2).mono ?_; rintro e w' ⟨rfl, rfl⟩)
      refine (HLoad.out _ j HJ.out.2 hlt).mono ?_
      rintro e w2 ⟨rfl, hk2⟩
      have H2 : Hid (w2.ownsRow w.heap.size 2 1 u j (rowD cs a j) ∧ Kept No w w2) := ⟨ownsRow_no HJ.out.1 hk2, HJ.out.2.trans hk2⟩
      clear hk2
      obtain ⟨y, HX⟩ : ∃ y, Hid (cs.getD (a + j) 0 = y) := ⟨_, show _ = _ from rfl⟩
      rw [HX.out]
      go_wp2_with (at_builtin; refine wpList_append_own _ rfl _ _ 51 rfl w.heap.size 2 i0 (.int .i64 0) 1 8 Try.underlying51 hi hz0 hz1 hz2 rfl (by decide) u j (rowD cs a j) rfl (H2.out.1.alloc _) ⟨w2.heap.size, 0, none⟩ 1 1 [.int .i64 y] rfl ?qc1 ?qc2 ?qc3 ?qc4 ?qc5 ?qc6 ?_)
      case qc1 => rfl
      case qc2 =>
        intro t z ht
        have e0 : t = 0 := by
          have := (List.getElem?_eq_some_iff.1 ht).1
          simpa using this
        subst e0
        simp at ht
        subst ht
        rw [Addr.add_lit]
        have := World.alloc_heap_new w2 (.cells #[.int .i64 y] 2)
        rw [cell_of this]; rfl
      case qc3 => intro z hz; rw [List.mem_singleton] at hz; subst hz; rfl
      case qc4 => unfold maxLen; omega
      case qc5 => omega
      case qc6 => have := H2.out.2.size; simp; omega
      intro u' w3 hown hgrow hnil
      have H3 : Hid (w3.ownsRow w.heap.size 2 1 u' (j + 1) (rowD cs a (j + 1)) ∧ Kept No w w3) := by
        refine ⟨?_, (H2.out.2.alloc _).grown hgrow (fun q e => .inr ?_)⟩
        · rw [rowD_succ, HX.out]
          exact hown
        · exact (H2.out.1.lt q e).1
      clear hown hgrow hnil
      go_wp2
      go_roundw
      case rel => exact ⟨j + 1, _, by omega, by go_num, rfl, H3.out⟩
      case measure => simp [intOf]; omega
    · have hj2 : ¬ (j : Int) < (s : Int) := by omega
      obtain rfl : s = j := by omega
      go_wp2_with (go_at_call 18; refine (HLen.out _ HJ.out.2).mono ?_; rintro e w' ⟨rfl, rfl⟩)
      go_ret
      exact ⟨_, rfl, HJ.out⟩

theorem geo_rem {w : World} {A C M F f size least nn k : Nat} {cs : List Int} {hb : List (Nat × Nd)} (hR : Rp w A C M F f size least nn cs hb) (hk : k < hb.length) : Geo size 0 (nodes F (rem hb k)) := by
  have hg := hR.geo
  rw [nodes_split2 F hb hk] at hg
  rw [nodes_rem F hb hk]
  have key : ∀ (X : List Nd) (o : Nat) (x y : Nd) (Y : List Nd), Geo size o (X ++ x :: y :: Y) → Geo size o (X ++ x :: Y) := by
    intro X
    induction X with
    | nil =>
      rintro o x y Y ⟨g1, g2, g3⟩
      refine ⟨g1, ?_⟩
      cases Y with
      | nil => exact (by have : y.a + y.s ≤ size := g3; show x.a + x.s ≤ size; omega)
      | cons z Z => exact ⟨by have := g3.1; omega, g3.2⟩
    | cons z Z ih => rintro o x y Y ⟨g1, g2⟩; exact ⟨g1, ih _ x y Y g2⟩
  exact key _ _ _ _ _ hg
theorem lay_len {w : World} {A C M F f size least nn k n : Nat} {cs : List Int} {hb : List (Nat × Nd)} (hR : Rp w A C M F f size least nn cs hb) (hk : k < hb.length) (hf : sumS (nodes F (rem hb k)) + n ≤ size) :
    (layC (cc cs (nodes F (rem hb k)) (nodes F (rem hb k)).length) hb[k].2.a (min n hb[k].2.s) (sumS (nodes F (rem hb k))) n).length = size := by
  have hbk := hR.geo.bd hb[k].2 (List.mem_cons_of_mem _ (List.mem_map_of_mem (List.getElem_mem hk)))
  have hcl := cc_length (geo_rem hR hk) hR.len (nodes F (rem hb k)).length
  unfold layC
  rw [putL_length, putL_length]
  · exact hcl
  · simp; omega
  · rw [putL_length (by simp; omega)]; simp; omega

/-- What lies in another block stays. -/
theorem ext_hold {w : World} {A C M F f size least nn k n h0 : Nat} {cs d : List Int} {hb : List (Nat × Nd)} (hR : Rp w A C M F f size least nn cs hb) (hk : k < hb.length) (hf : sumS (nodes F (rem hb k)) + n ≤ size) (hne : hb[k].1 ≠ h0) (hH : Hold cs hb h0 d) :
    Hold (extC cs (nodes F (rem hb k)) hb[k].2 n) (cmpH 0 (rem hb k ++ [(hb[k].1, ⟨hb[k].2.p, 0, n⟩)])) h0 d := by
  have hgr := geo_rem hR hk
  have hHr : Hold cs (rem hb k) h0 d := hH.other (fun x hx e1 => ⟨mem_rem hk hx (fun e => hne (by rw [← e, e1])), fun _ _ => rfl⟩)
  obtain ⟨x, hx, e1, e2, e4, e3⟩ := hHr.compact hgr hR.len
  refine ⟨x, ?_, e1, e2, fun j hj => ?_⟩
  · rw [cmpH_append]; exact List.mem_append.2 (.inl hx)
  · have hbk := hR.geo.bd hb[k].2 (List.mem_cons_of_mem _ (List.mem_map_of_mem (List.getElem_mem hk)))
    have hcl := cc_length hgr hR.len (nodes F (rem hb k)).length
    have hlay := lay_len hR hk hf
    rw [← e3 j hj]
    unfold extC
    rw [putL_out (by simp [data]; omega) (by omega), layC_out (by omega) (by omega) (by omega) (by omega)]

/-- What lies in the block itself. -/
theorem ext_own {w : World} {A C M F f size least nn k n : Nat} {cs : List Int} {hb : List (Nat × Nd)} (hR : Rp w A C M F f size least nn cs hb) (hk : k < hb.length) (hf : sumS (nodes F (rem hb k)) + n ≤ size) :
    ((hb[k].1, ⟨hb[k].2.p, sumS (nodes F (rem hb k)), n⟩) : Nat × Nd) ∈ cmpH 0 (rem hb k ++ [(hb[k].1, ⟨hb[k].2.p, 0, n⟩)]) ∧
    ∀ j, j < n → (extC cs (nodes F (rem hb k)) hb[k].2 n).getD (sumS (nodes F (rem hb k)) + j) 0 = if j < hb[k].2.s then cs.getD (hb[k].2.a + j) 0 else 0 := by
  have hgr := geo_rem hR hk
  have hbk := hR.geo.bd hb[k].2 (List.mem_cons_of_mem _ (List.mem_map_of_mem (List.getElem_mem hk)))
  have hcl := cc_length hgr hR.len (nodes F (rem hb k)).length
  have hlay := lay_len hR hk hf
  have hlen := hR.len
  refine ⟨?_, fun j hj => ?_⟩
  · rw [cmpH_append]
    refine List.mem_append.2 (.inr ?_)
    simp [cmpH, nodes, sumS]
  · unfold extC
    have hd : ((data cs hb[k].2).take (min hb[k].2.s n)).length = min hb[k].2.s n := by simp [data]; omega
    rw [putL_getD _ _ _ (by rw [hd]; omega), hd]
    by_cases hj2 : j < hb[k].2.s
    · rw [if_pos (by omega), if_pos hj2, show sumS (nodes F (rem hb k)) + j - sumS (nodes F (rem hb k)) = j by omega]
      have := data_getD (cs := cs) (x := hb[k].2) (j := j) (by omega) hj2
      rw [← this]
      simp only [List.getD_eq_getElem?_getD]
      rw [List.getElem?_take_of_lt (by omega)]
    · rw [if_neg (by omega), if_neg hj2]
      have := layC_getD (cc cs (nodes F (rem hb k)) (nodes F (rem hb k)).length) hb[k].2.a hb[k].2.s (sumS (nodes F (rem hb k))) n j (by omega) (by omega) hj
      rw [this, if_neg hj2]
end Go.Proofs.Ytdaklohfecinjaa
