/- Load, Store and the looks, walked for any arena. -/
import Derived.Test.YtdaklohfecinjaaC2
import Derived.BigQuiet
namespace Go.Proofs.Ytdaklohfecinjaa
open Go.RowKit
set_option linter.unusedSimpArgs false
set_option linter.unusedVariables false

set_option maxHeartbeats 400000 in
theorem Load_none {A C M F f size least nn : Nat} {cs : List Int} {hb : List (Nat × Nd)} (i j : Int) (hw : wf i) (w : World) (h : Rp w A C M F f size least nn cs hb) (hl : look hb i = none) :
    Calls Try.prog 30 #[.pointer (some ⟨A, 0, none⟩), .int .i64 i, .int .i64 j] w fun e w' => e = .returned (.tuple #[.int .i64 0, .int .i64 5]) ∧ w = w' := by
  have HR : Hid (Rp w A C M F f size least nn cs hb ∧ wf i ∧ look hb i = none) := ⟨h, hw, hl⟩
  clear h hw hl
  go_enter Try.func30, Try.ntmps30
  go_wp2_with (go_at_call 50; refine (find_none _ _ HR.out.1.hA HR.out.1.map HR.out.2.1 HR.out.2.2).mono ?_; rintro e w' ⟨rfl, rfl⟩)
  go_ret2
  exact ⟨rfl, rfl⟩

set_option maxHeartbeats 400000 in
theorem Store_none {A C M F f size least nn : Nat} {cs : List Int} {hb : List (Nat × Nd)} (i j v : Int) (hw : wf i) (w : World) (h : Rp w A C M F f size least nn cs hb) (hl : look hb i = none) :
    Calls Try.prog 28 #[.pointer (some ⟨A, 0, none⟩), .int .i64 i, .int .i64 j, .int .i64 v] w fun e w' => e = .returned (.int .i64 5) ∧ w = w' := by
  have HR : Hid (Rp w A C M F f size least nn cs hb ∧ wf i ∧ look hb i = none) := ⟨h, hw, hl⟩
  clear h hw hl
  go_enter Try.func28, Try.ntmps28
  go_wp2_with (go_at_call 50; refine (find_none _ _ HR.out.1.hA HR.out.1.map HR.out.2.1 HR.out.2.2).mono ?_; rintro e w' ⟨rfl, rfl⟩)
  go_ret
  exact ⟨rfl, rfl⟩

set_option maxHeartbeats 400000 in
theorem Load_arg {A C M F f size least nn : Nat} {cs : List Int} {hb : List (Nat × Nd)} {x : Nat × Nd} (hx : x ∈ hb) (hw : wf x.1) (j : Int) (hj : (decide (0 ≤ j) && decide (j < x.2.s)) = false) (w : World) (h : Rp w A C M F f size least nn cs hb) :
    Calls Try.prog 30 #[.pointer (some ⟨A, 0, none⟩), .int .i64 x.1, .int .i64 j] w fun e w' => e = .returned (.tuple #[.int .i64 0, .int .i64 1]) ∧ w = w' := by
  have HR : Hid (Rp w A C M F f size least nn cs hb ∧ wf x.1 ∧ look hb x.1 = some x.2.p) := ⟨h, hw, look_mem h.hnd hx⟩
  obtain ⟨ah, bh, hr⟩ := h.node hx
  have HN : Hid (w.heap[x.2.p]? = some (nd x.2.a x.2.s ah bh)) := hr
  clear h hw hx hr
  go_enter Try.func30, Try.ntmps30
  go_wp2_with (first | (go_at_call 50; refine (find_some _ _ HR.out.1.hA HR.out.1.map HR.out.2.1 HR.out.2.2).mono ?_; rintro e w' ⟨rfl, rfl⟩) | (go_at_call 61; refine (has_any _ _ HN.out).mono ?_; rintro e w' ⟨rfl, rfl⟩; rw [hj]))
  go_ret2
  exact ⟨rfl, rfl⟩

set_option maxHeartbeats 400000 in
theorem Store_arg {A C M F f size least nn : Nat} {cs : List Int} {hb : List (Nat × Nd)} {x : Nat × Nd} (hx : x ∈ hb) (hw : wf x.1) (j v : Int) (hj : (decide (0 ≤ j) && decide (j < x.2.s)) = false) (w : World) (h : Rp w A C M F f size least nn cs hb) :
    Calls Try.prog 28 #[.pointer (some ⟨A, 0, none⟩), .int .i64 x.1, .int .i64 j, .int .i64 v] w fun e w' => e = .returned (.int .i64 1) ∧ w = w' := by
  have HR : Hid (Rp w A C M F f size least nn cs hb ∧ wf x.1 ∧ look hb x.1 = some x.2.p) := ⟨h, hw, look_mem h.hnd hx⟩
  obtain ⟨ah, bh, hr⟩ := h.node hx
  have HN : Hid (w.heap[x.2.p]? = some (nd x.2.a x.2.s ah bh)) := hr
  clear h hw hx hr
  go_enter Try.func28, Try.ntmps28
  go_wp2_with (first | (go_at_call 50; refine (find_some _ _ HR.out.1.hA HR.out.1.map HR.out.2.1 HR.out.2.2).mono ?_; rintro e w' ⟨rfl, rfl⟩) | (go_at_call 61; refine (has_any _ _ HN.out).mono ?_; rintro e w' ⟨rfl, rfl⟩; rw [hj]))
  go_ret
  exact ⟨rfl, rfl⟩

set_option maxHeartbeats 1000000 in
theorem Load_some {A C M F f size least nn : Nat} {cs : List Int} {hb : List (Nat × Nd)} {x : Nat × Nd} (hx : x ∈ hb) (hw : wf x.1) (j : Nat) (hj : j < x.2.s) (w : World) (h : Rp w A C M F f size least nn cs hb) :
    Calls Try.prog 30 #[.pointer (some ⟨A, 0, none⟩), .int .i64 x.1, .int .i64 j] w fun e w' => e = .returned (.tuple #[.int .i64 (cs.getD (x.2.a + j) 0), .int .i64 0]) ∧ Kept No w w' := by
  have HR : Hid (Rp w A C M F f size least nn cs hb ∧ wf x.1 ∧ look hb x.1 = some x.2.p) := ⟨h, hw, look_mem h.hnd hx⟩
  obtain ⟨ah, bh, hr⟩ := h.node hx
  have hm : x.2 ∈ nodes F hb := List.mem_cons_of_mem _ (List.mem_map_of_mem hx)
  have hbd := h.geo.bd x.2 hm
  have hsz := h.sz
  obtain ⟨x0, x1, x2, x3⟩ := nd_cells hr
  obtain ⟨a0, a1, a2, a3, a4⟩ := ar_cells h.hA
  have c0 := cl_cell h.hC (j := x.2.a + j) (by have := h.len; omega)
  have HN : Hid (w.heap[x.2.p]? = some (nd x.2.a x.2.s ah bh)) := hr
  have hje : (decide (0 ≤ (j : Int)) && decide ((j : Int) < (x.2.s : Int))) = true := by simp; omega
  clear h hw hx hr hm
  go_enter Try.func30, Try.ntmps30
  go_wp2_with (first | (go_at_call 50; refine (find_some _ _ HR.out.1.hA HR.out.1.map HR.out.2.1 HR.out.2.2).mono ?_; rintro e w' ⟨rfl, rfl⟩) | (go_at_call 61; refine (has_any _ _ HN.out).mono ?_; rintro e w' ⟨rfl, rfl⟩; rw [hje]))
  go_quiet (fail)
  go_wp2
  go_ret2
  exact ⟨rfl, (Kept.refl _ _).drewN _⟩

/-- Other cells in it. -/
theorem Rp.recell {w w' : World} {A C M F f size least n : Nat} {cs cs' : List Int} {hb : List (Nat × Nd)} (h : Rp w A C M F f size least n cs hb) (hk : Kept (Only C) w w') (hC : w'.heap[C]? = some (cl cs')) (hl : cs'.length = size) : Rp w' A C M F f size least n cs' hb :=
  { hA := hk.heap h.hA h.ne.1, hC := hC, len := hl, seg := h.seg.kept hk (fun x hx e => h.ne.2.2 x hx e.symm), nod := h.nod, geo := h.geo, pos := h.pos, sz1 := h.sz1, sz := h.sz,
    map := h.map.kept hk h.map_ne.2.1, hnd := h.hnd, full := h.full, lst := h.lst }

set_option maxHeartbeats 1000000 in
theorem Store_some {A C M F f size least nn : Nat} {cs : List Int} {hb : List (Nat × Nd)} {x : Nat × Nd} (hx : x ∈ hb) (hw : wf x.1) (j : Nat) (v : Int) (hj : j < x.2.s) (w : World) (h : Rp w A C M F f size least nn cs hb) :
    Calls Try.prog 28 #[.pointer (some ⟨A, 0, none⟩), .int .i64 x.1, .int .i64 j, .int .i64 v] w fun e w' => e = .returned (.int .i64 0) ∧ Rp w' A C M F f size least nn (putL cs (x.2.a + j) [v]) hb ∧ Kept (Only C) w w' := by
  have HR : Hid (Rp w A C M F f size least nn cs hb ∧ wf x.1 ∧ look hb x.1 = some x.2.p) := ⟨h, hw, look_mem h.hnd hx⟩
  obtain ⟨ah, bh, hr⟩ := h.node hx
  have hm : x.2 ∈ nodes F hb := List.mem_cons_of_mem _ (List.mem_map_of_mem hx)
  have hbd := h.geo.bd x.2 hm
  have hsz := h.sz
  obtain ⟨x0, x1, x2, x3⟩ := nd_cells hr
  obtain ⟨a0, a1, a2, a3, a4⟩ := ar_cells h.hA
  have c0 := cl_cell h.hC (j := x.2.a + j) (by have := h.len; omega)
  have cf := cl_frozen h.hC (x.2.a + j)
  have HN : Hid (w.heap[x.2.p]? = some (nd x.2.a x.2.s ah bh)) := hr
  have hje : (decide (0 ≤ (j : Int)) && decide ((j : Int) < (x.2.s : Int))) = true := by simp; omega
  have hAC : A ≠ C := h.ne.1
  have u1 : IntKind.i64.wrap ((x.2.a : Int) + (j : Int)) = (x.2.a : Int) + (j : Int) := by rw [IntKind.wrap_i64]; omega
  have j1 : (0 : Int) ≤ (x.2.a : Int) + (j : Int) := by omega
  have j2 : (x.2.a : Int) + (j : Int) < (size : Int) := by omega
  have j3 : ((x.2.a : Int) + (j : Int)).toNat = x.2.a + j := by omega
  have hpC : x.2.p ≠ C := fun e => h.ne.2.2 _ hm e.symm
  have q1 : (w.setCell ⟨C, x.2.a + j, none⟩ (.int .i64 v)).drew.cell? ⟨A, 0, none⟩ = some (.slice (some ⟨C, 0, none⟩) size size) := (cell_setCells_ne C [.int .i64 v] (x.2.a + j) w A 0 hAC).trans a0
  have q2 : (w.setCell ⟨C, x.2.a + j, none⟩ (.int .i64 v)).drew.cell? ⟨x.2.p, 0, none⟩ = some (.int .i64 (x.2.a : Int)) := (cell_setCells_ne C [.int .i64 v] (x.2.a + j) w x.2.p 0 hpC).trans x0
  clear h hw hx hr hm
  go_enter Try.func28, Try.ntmps28
  go_wp2_with (first | (go_at_call 50; refine (find_some _ _ HR.out.1.hA HR.out.1.map HR.out.2.1 HR.out.2.2).mono ?_; rintro e w' ⟨rfl, rfl⟩) | (go_at_call 61; refine (has_any _ _ HN.out).mono ?_; rintro e w' ⟨rfl, rfl⟩; rw [hje]))
  go_region_held3 (fun w' => w'.cell? ⟨A, 0, none⟩ = some (.slice (some ⟨C, 0, none⟩) size size) ∧ w'.cell? ⟨x.2.p, 0, none⟩ = some (.int .i64 (x.2.a : Int))) (first | exact ⟨q1, q2⟩ | go_keep) (fail)
  go_wp2
  go_ret
  have h := HR.out.1
  have hk : Kept (Only C) w (w.setCell ⟨C, x.2.a + j, none⟩ (.int .i64 v)).drew := (Kept.one w C _ _).drew
  have hl : x.2.a + j + [v].length ≤ cs.length := by have := h.len; simp; omega
  exact ⟨rfl, h.recell hk (hp_setCells C [v] (x.2.a + j) w cs h.hC hl) (by rw [putL_length hl]; exact h.len), hk⟩

theorem Size_any {A C M F f size least nn : Nat} {cs : List Int} {hb : List (Nat × Nd)} (w : World) (h : Rp w A C M F f size least nn cs hb) :
    Calls Try.prog 26 #[.pointer (some ⟨A, 0, none⟩)] w fun e w' => e = .returned (.int .i64 size) ∧ w = w' := by
  have HA : Hid (w.heap[A]? = some (ar C M F f size least)) := h.hA
  obtain ⟨a0, a1, a2, a3, a4⟩ := ar_cells h.hA
  clear h
  go_enter Try.func26, Try.ntmps26
  go_wp2_with (go_at_call 52; refine (made_any _ HA.out).mono ?_; rintro e w' ⟨rfl, rfl⟩)
  go_ret
  exact ⟨rfl, rfl⟩

theorem Live_rp {A C M F f size least nn : Nat} {cs : List Int} {hb : List (Nat × Nd)} (w : World) (h : Rp w A C M F f size least nn cs hb) :
    Calls Try.prog 24 #[.pointer (some ⟨A, 0, none⟩)] w fun e w' => e = .returned (.int .i64 (sumS (nodes F hb))) ∧ Kept No w w' :=
  Live_any (nodes F hb) w h.hA h.seg rfl h.nod h.bd h.sz h.nodes_len

theorem Gap_rp {A C M F f size least nn : Nat} {cs : List Int} {hb : List (Nat × Nd)} (w : World) (h : Rp w A C M F f size least nn cs hb) :
    Calls Try.prog 32 #[.pointer (some ⟨A, 0, none⟩)] w fun e w' => e = .returned (.int .i64 (gm (nodes F hb) size (nodes F hb).length)) ∧ Kept No w w' :=
  Gap_any (nodes F hb) w h.hA h.seg rfl h.nod h.bd h.sz
end Go.Proofs.Ytdaklohfecinjaa
