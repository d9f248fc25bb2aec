/- slices.Clone; Extend where it is refused. -/
import Derived.Test.YtdaklohfecinjaaE3
namespace Go.Proofs.Ytdaklohfecinjaa
open Go.RowKit
set_option linter.unusedSimpArgs false
set_option linter.unusedVariables false

set_option maxHeartbeats 1000000 in
theorem Clone_any (C off n cap : Nat) (ys : List Int) (w : World) (hy : ys.length = n) (hn : 1 ≤ n ∧ n ≤ 65536) (hc : ∀ j, j < n → w.cell? ⟨C, off + j, none⟩ = some (.int .i64 (ys.getD j 0))) :
    Calls Try.prog 65 #[.slice (some ⟨C, off, none⟩) n cap] w fun e w' => ∃ g cap' cur, e = .returned (.slice (some ⟨g, 0, none⟩) n cap') ∧ w.heap.size ≤ g ∧ w'.heap[g]? = some (.cells cur 2 (0, 0)) ∧ (∀ j, j < n → cur[j]? = some (.int .i64 (ys.getD j 0))) ∧ Kept No w w' := by
  obtain ⟨i0, hi, hz0, hz1, hz2⟩ := info_parts info2
  have q51 : ∀ (w : World) (a : Option Addr) (n c n' c' : Nat), (binOp .eql 51 (.slice a n c) (.slice none n' c')).run Try.prog w = .ok (.bool a.isNone) w := fun w a n c n' c' => Lib.run_eql_slice_nil w _ _ a n c n' c' Try.underlying51
  have HC : Hid (∀ j, j < n → w.cell? ⟨C, off + j, none⟩ = some (.int .i64 (ys.getD j 0))) := hc
  clear hc
  go_enter Try.func65, Try.ntmps65
  go_wp2_with (at_builtin; refine wpList_append_own _ rfl _ _ 51 rfl w.heap.size 2 i0 (.int .i64 0) 1 8 Try.underlying51 hi hz0 hz1 hz2 rfl (by decide) _ _ _ rfl (World.ownsRow_made w #[] 0 (Nat.le_refl _) (Nat.zero_le _) (by simp)) ⟨C, off, none⟩ n cap (ys.map (Value.int .i64)) rfl ?qc1 ?qc2 ?qc3 ?qc4 ?qc5 ?qc6 ?_)
  case qc1 => simp [hy]
  case qc2 =>
    intro j u hj
    rw [Addr.add_lit]
    refine Lib.cell?_alloc_some _ ?_
    have hjn : j < n := by rw [← hy]; have := (List.getElem?_eq_some_iff.1 hj).1; simpa using this
    rw [HC.out j hjn, ← hj]
    simp [List.getD, List.getElem?_eq_getElem (show j < ys.length by omega)]
  case qc3 => intro u hu; obtain ⟨m, _, rfl⟩ := List.mem_map.1 hu; rfl
  case qc4 => unfold maxLen; omega
  case qc5 => omega
  case qc6 => simp
  intro v' w1 hown hgrow hnil
  have HO : Hid (w1.ownsRow w.heap.size 2 1 v' n (ys.map (Value.int .i64))) := hown
  have HK : Hid (Kept No w w1) := ((Kept.refl No w).alloc _).grown hgrow (by intro k hk; simp [Value.ownBlock] at hk; exact .inr (by omega))
  clear hown hgrow hnil
  go_wp2
  go_ret
  obtain ⟨hl, ⟨_, h0⟩ | ⟨g, cap', cur, rfl, hg, hh, hcap, hm, hs, ht⟩⟩ := HO.out
  · omega
  · refine ⟨g, cap', cur, rfl, hg, hh, fun j hj => ?_, HK.out⟩
    have : (cur.toList.take (n * 1))[j]? = cur[j]? := by
      rw [List.getElem?_take, if_pos (by omega), Array.getElem?_toList]
    rw [← this, ht]
    simp [List.getD, List.getElem?_eq_getElem (show j < ys.length by omega)]

set_option maxHeartbeats 400000 in
theorem Extend_none {A C M F f size least nn : Nat} {cs : List Int} {hb : List (Nat × Nd)} (i n : Int) (hw : wf i) (w : World) (h : Rp w A C M F f size least nn cs hb) (hl : look hb i = none) :
    Calls Try.prog 36 #[.pointer (some ⟨A, 0, none⟩), .int .i64 i, .int .i64 n] w fun e w' => e = .returned (.int .i64 5) ∧ w = w' := by
  have HR : Hid (Rp w A C M F f size least nn cs hb ∧ wf i ∧ look hb i = none) := ⟨h, hw, hl⟩
  clear h hw hl
  go_enter Try.func36, Try.ntmps36
  go_wp2_with (go_at_call 50; refine (find_none _ _ HR.out.1.hA HR.out.1.map HR.out.2.1 HR.out.2.2).mono ?_; rintro e w' ⟨rfl, rfl⟩)
  go_ret
  exact ⟨rfl, rfl⟩

set_option maxHeartbeats 400000 in
theorem Extend_arg {A C M F f size least nn : Nat} {cs : List Int} {hb : List (Nat × Nd)} {x : Nat × Nd} (hx : x ∈ hb) (hw : wf x.1) (n : Int) (hn : rl n = false) (w : World) (h : Rp w A C M F f size least nn cs hb) :
    Calls Try.prog 36 #[.pointer (some ⟨A, 0, none⟩), .int .i64 x.1, .int .i64 n] w fun e w' => e = .returned (.int .i64 1) ∧ w = w' := by
  have HR : Hid (Rp w A C M F f size least nn cs hb ∧ wf x.1 ∧ look hb x.1 = some x.2.p) := ⟨h, hw, look_mem h.hnd hx⟩
  clear h hw hx
  go_enter Try.func36, Try.ntmps36
  go_wp2_with (first | (go_at_call 50; refine (find_some _ _ HR.out.1.hA HR.out.1.map HR.out.2.1 HR.out.2.2).mono ?_; rintro e w' ⟨rfl, rfl⟩) | (go_at_call 38; refine (right_any _ _).mono ?_; rintro e w' ⟨rfl, rfl⟩))
  go_ret
  exact ⟨rfl, rfl⟩

theorem Rp.no {w w' : World} {A C M F f size least n : Nat} {cs : List Int} {hb : List (Nat × Nd)} (h : Rp w A C M F f size least n cs hb) (hk : Kept No w w') : Rp w' A C M F f size least n cs hb := h.kept hk (fun _ _ => id)

theorem sum_node {F : Nat} {hb : List (Nat × Nd)} {k : Nat} (hk : k < hb.length) : sumS (nodes F hb) = sumS (nodes F (rem hb k)) + hb[k].2.s := by
  rw [nodes_rem F hb hk]
  conv => lhs; rw [nodes_split2 F hb hk]
  simp only [sumS_append, sumS_cons]
  omega

set_option maxHeartbeats 1000000 in
theorem Extend_full {A C M F f size least nn k n : Nat} {cs : List Int} {hb : List (Nat × Nd)} (w : World) (h : Rp w A C M F f size least nn cs hb) (hk : k < hb.length) (hw : wf hb[k].1) (hn : rl n = true) (hf : size < sumS (nodes F (rem hb k)) + n) :
    Calls Try.prog 36 #[.pointer (some ⟨A, 0, none⟩), .int .i64 hb[k].1, .int .i64 n] w fun e w' => e = .returned (.int .i64 8) ∧ Rp w' A C M F f size least nn cs hb ∧ Kept No w w' := by
  have hn' := rl_true hn
  have hsn := sum_node (F := F) hk
  have hm : hb[k].2 ∈ nodes F hb := List.mem_cons_of_mem _ (List.mem_map_of_mem (List.getElem_mem hk))
  obtain ⟨ah, bh, hnode⟩ := h.node (List.getElem_mem hk)
  have hle := h.geo.le
  have hsz := h.sz
  have HR : Hid (Rp w A C M F f size least nn cs hb ∧ wf hb[k].1 ∧ look hb hb[k].1 = some hb[k].2.p) := ⟨h, hw, look_mem h.hnd (List.getElem_mem hk)⟩
  have HN : Hid (∀ w', Kept No w w' → w'.cell? ⟨hb[k].2.p, 1, none⟩ = some (.int .i64 (hb[k].2.s : Int))) := fun w' hk => (nd_cells (hk.heap hnode id)).2.1
  obtain ⟨x0, x1, x2, x3⟩ := nd_cells hnode
  generalize hS : sumS (nodes F hb) = S at *
  generalize sumS (nodes F (rem hb k)) = T at *
  have u1 : IntKind.i64.wrap ((S : Int) - (hb[k].2.s : Int)) = (T : Int) := by rw [IntKind.wrap_i64]; omega
  have u2 : IntKind.i64.wrap ((T : Int) + (n : Int)) = (T : Int) + (n : Int) := by rw [IntKind.wrap_i64]; omega
  have hlt : ¬ (T : Int) + (n : Int) ≤ (size : Int) := by omega
  have HL : Hid (sumS (nodes F hb) = S) := hS
  clear h hw hnode hm hS hsn hle hf
  go_enter Try.func36, Try.ntmps36
  go_wp2_with (first | (go_at_call 50; refine (find_some _ _ HR.out.1.hA HR.out.1.map HR.out.2.1 HR.out.2.2).mono ?_; rintro e w' ⟨rfl, rfl⟩) | (go_at_call 38; refine (right_any _ _).mono ?_; rintro e w' ⟨rfl, rfl⟩))
  go_region_held3 (fun w' => w'.cell? ⟨hb[k].2.p, 1, none⟩ = some (.int .i64 (hb[k].2.s : Int))) (go_keep)
    (first
    | (go_at_call 24; refine (Live_rp _ (HR.out.1.no ((Kept.refl No w).drew))).mono ?_; rintro e w1 ⟨rfl, hk1⟩; rw [HL.out]; have H1 : Hid (Kept No w w1) := (Kept.refl No w).drew.trans hk1; have x11 := HN.out w1 H1.out; clear hk1)
    | (go_at_call 26; refine (Size_any _ (HR.out.1.no H1.out)).mono ?_; rintro e w2 ⟨rfl, rfl⟩))
  go_wp2
  go_ret
  exact ⟨rfl, HR.out.1.no H1.out, H1.out⟩
end Go.Proofs.Ytdaklohfecinjaa
