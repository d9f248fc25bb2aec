/- New; the looks. -/
import Derived.Test.YtdaklohfecinjaaB8
namespace Go.Proofs.Ytdaklohfecinjaa
open Go.RowKit
set_option linter.unusedSimpArgs false
set_option linter.unusedVariables false

theorem info2 : (Try.prog.info? 2).map (fun i => (i.zero, i.size, i.bytes)) = some (some (.int .i64 0), 1, 8) := by kernel_rfl

theorem run_mk (n : Nat) (hn : n ≤ 65536) (w : World) : (Instr.makeSlice 51 (.int .i64 (n : Int)) (.int .i64 (n : Int))).run Try.prog w = .ok (.slice (some ⟨w.heap.size, 0, none⟩) n n) (w.alloc (cl (List.replicate n 0))) := by
  obtain ⟨i0, hi, hz0, hz1, hz2⟩ := info_parts info2
  rw [run_make w 51 2 i0 (.int .i64 0) Try.underlying51 hi hz0 .i64 .i64 (n : Int) (n : Int) (by omega) (Int.le_refl _) (by rw [hz2]; omega) (by omega)]
  rw [hz1, Int.toNat_natCast, Nat.mul_one]
  have : madeCells (Value.int .i64 0).cells n = ((List.replicate n (0 : Int)).map (Value.int .i64)).toArray := by
    apply Array.ext
    · simp [madeCells]
    · intro i h1 h2
      simp [madeCells, Value.cells, Nat.mod_one]
  rw [this]; rfl

set_option maxHeartbeats 400000 in
theorem New_arg (n : Int) (hn : rl n = false) (w : World) : Calls Try.prog 12 #[.int .i64 n] w fun e w' => e = .returned (.tuple #[.pointer none, .int .i64 1]) ∧ w = w' := by
  go_enter Try.func12, Try.ntmps12
  go_wp2_with (go_at_call 38; refine (right_any _ _).mono ?_; rintro e w' ⟨rfl, rfl⟩)
  go_ret2
  exact ⟨rfl, rfl⟩

set_option maxHeartbeats 1000000 in
theorem New_ok (n : Nat) (hn : rl n = true) (w : World) : Calls Try.prog 12 #[.int .i64 n] w fun e w' => e = .returned (.tuple #[.pointer (some ⟨w.heap.size + 1 + 1 + 1, 0, none⟩), .int .i64 0]) ∧
    Rp w' (w.heap.size + 1 + 1 + 1) (w.heap.size + 1) (w.heap.size + 1 + 1) w.heap.size w.heap.size n 1 0 (List.replicate n 0) [] ∧ Kept No w w' := by
  have hn' := rl_true hn
  have hmk := run_mk n (by omega)
  have hmm := @run_makeMap Try.prog
  go_enter Try.func12, Try.ntmps12
  go_wp2_with (go_at_call 38; refine (right_any _ _).mono ?_; rintro e w' ⟨rfl, rfl⟩)
  go_ret2
  have h1 : (((((w.alloc (.cells #[.int .i64 0, .int .i64 0, .pointer none, .pointer none] 61)).alloc (cl (List.replicate n 0))).alloc (.map #[] 0)).alloc (.cells #[.slice (some ⟨w.heap.size + 1, 0, none⟩) n n, .map (some (w.heap.size + 1 + 1)), .pointer (some ⟨w.heap.size, 0, none⟩), .pointer (some ⟨w.heap.size, 0, none⟩), .int .i64 1] 64))).heap[w.heap.size]? = some (nd 0 0 none none) :=
    ((((Kept.refl No _).alloc _).alloc _).alloc _).heap (World.alloc_heap_new w _) id
  have h2 : (((((w.alloc (.cells #[.int .i64 0, .int .i64 0, .pointer none, .pointer none] 61)).alloc (cl (List.replicate n 0))).alloc (.map #[] 0)).alloc (.cells #[.slice (some ⟨w.heap.size + 1, 0, none⟩) n n, .map (some (w.heap.size + 1 + 1)), .pointer (some ⟨w.heap.size, 0, none⟩), .pointer (some ⟨w.heap.size, 0, none⟩), .int .i64 1] 64))).heap[w.heap.size + 1]? = some (cl (List.replicate n 0)) := by
    have := World.alloc_heap_new (w.alloc (.cells #[.int .i64 0, .int .i64 0, .pointer none, .pointer none] 61)) (cl (List.replicate n 0))
    rw [World.size_alloc] at this
    exact (((Kept.refl No _).alloc _).alloc _).heap this id
  have h4 : (((((w.alloc (.cells #[.int .i64 0, .int .i64 0, .pointer none, .pointer none] 61)).alloc (cl (List.replicate n 0))).alloc (.map #[] 0)).alloc (.cells #[.slice (some ⟨w.heap.size + 1, 0, none⟩) n n, .map (some (w.heap.size + 1 + 1)), .pointer (some ⟨w.heap.size, 0, none⟩), .pointer (some ⟨w.heap.size, 0, none⟩), .int .i64 1] 64))).heap[w.heap.size + 1 + 1 + 1]? = some (ar (w.heap.size + 1) (w.heap.size + 1 + 1) w.heap.size w.heap.size n 1) := by
    have := World.alloc_heap_new (((w.alloc (.cells #[.int .i64 0, .int .i64 0, .pointer none, .pointer none] 61)).alloc (cl (List.replicate n 0))).alloc (.map #[] 0)) (.cells #[.slice (some ⟨w.heap.size + 1, 0, none⟩) n n, .map (some (w.heap.size + 1 + 1)), .pointer (some ⟨w.heap.size, 0, none⟩), .pointer (some ⟨w.heap.size, 0, none⟩), .int .i64 1] 64)
    simp only [World.size_alloc] at this
    exact this
  have h3 := MapIs.made ((w.alloc (.cells #[.int .i64 0, .int .i64 0, .pointer none, .pointer none] 61)).alloc (cl (List.replicate n 0)))
  simp only [World.size_alloc] at h3
  have h3' := h3.kept ((Kept.refl No _).alloc (.cells #[.slice (some ⟨w.heap.size + 1, 0, none⟩) n n, .map (some (w.heap.size + 1 + 1)), .pointer (some ⟨w.heap.size, 0, none⟩), .pointer (some ⟨w.heap.size, 0, none⟩), .int .i64 1] 64)) id
  refine ⟨rfl, ⟨h4, h2, by simp, ⟨h1, trivial⟩, by simp [nodes], ⟨Nat.le_refl _, Nat.zero_le _⟩, by simp, by omega, by omega, h3', by simp, ⟨0, by simp [nodes], rfl, fun i hi => by omega⟩, ⟨Nat.le_refl _, fun h h1 h2 => by omega⟩⟩, ((((Kept.refl _ _).alloc _).alloc _).alloc _).alloc _⟩

set_option maxHeartbeats 400000 in
theorem Addr_nil (h : Int) (w : World) : Calls Try.prog 20 #[.pointer none, .int .i64 h] w fun e w' => e = .returned (.int .i64 (-1)) ∧ w = w' := by
  go_enter Try.func20, Try.ntmps20
  go_wp2_with (go_at_call 50; refine (find_nil _ _).mono ?_; rintro e w' ⟨rfl, rfl⟩)
  go_ret
  exact ⟨rfl, rfl⟩
set_option maxHeartbeats 400000 in
theorem Len_nil (h : Int) (w : World) : Calls Try.prog 18 #[.pointer none, .int .i64 h] w fun e w' => e = .returned (.int .i64 0) ∧ w = w' := by
  go_enter Try.func18, Try.ntmps18
  go_wp2_with (go_at_call 50; refine (find_nil _ _).mono ?_; rintro e w' ⟨rfl, rfl⟩)
  go_ret
  exact ⟨rfl, rfl⟩

set_option maxHeartbeats 400000 in
theorem Addr_none {A C M F f size least nn : Nat} {cs : List Int} {hb : List (Nat × Nd)} (i : Int) (hw : wf i) (w : World) (h : Rp w A C M F f size least nn cs hb) (hl : look hb i = none) :
    Calls Try.prog 20 #[.pointer (some ⟨A, 0, none⟩), .int .i64 i] w fun e w' => e = .returned (.int .i64 (-1)) ∧ w = w' := by
  have HR : Hid (Rp w A C M F f size least nn cs hb ∧ wf i ∧ look hb i = none) := ⟨h, hw, hl⟩
  clear h hw hl
  go_enter Try.func20, Try.ntmps20
  go_wp2_with (go_at_call 50; refine (find_none _ _ HR.out.1.hA HR.out.1.map HR.out.2.1 HR.out.2.2).mono ?_; rintro e w' ⟨rfl, rfl⟩)
  go_ret
  exact ⟨rfl, rfl⟩
set_option maxHeartbeats 400000 in
theorem Len_none {A C M F f size least nn : Nat} {cs : List Int} {hb : List (Nat × Nd)} (i : Int) (hw : wf i) (w : World) (h : Rp w A C M F f size least nn cs hb) (hl : look hb i = none) :
    Calls Try.prog 18 #[.pointer (some ⟨A, 0, none⟩), .int .i64 i] w fun e w' => e = .returned (.int .i64 0) ∧ w = w' := by
  have HR : Hid (Rp w A C M F f size least nn cs hb ∧ wf i ∧ look hb i = none) := ⟨h, hw, hl⟩
  clear h hw hl
  go_enter Try.func18, Try.ntmps18
  go_wp2_with (go_at_call 50; refine (find_none _ _ HR.out.1.hA HR.out.1.map HR.out.2.1 HR.out.2.2).mono ?_; rintro e w' ⟨rfl, rfl⟩)
  go_ret
  exact ⟨rfl, rfl⟩

/-- A block's record. -/
theorem Rp.node {w : World} {A C M F f size least nn : Nat} {cs : List Int} {hb : List (Nat × Nd)} (h : Rp w A C M F f size least nn cs hb) {x : Nat × Nd} (hx : x ∈ hb) : ∃ ah bh, w.heap[x.2.p]? = some (nd x.2.a x.2.s ah bh) := by
  have hm : x.2 ∈ nodes F hb := List.mem_cons_of_mem _ (List.mem_map_of_mem hx)
  obtain ⟨k, hk, e⟩ := List.getElem_of_mem hm
  obtain ⟨ah, h1⟩ := h.seg.at hk
  rw [e] at h1
  exact ⟨ah, _, h1⟩

set_option maxHeartbeats 400000 in
theorem Addr_some {A C M F f size least nn : Nat} {cs : List Int} {hb : List (Nat × Nd)} {x : Nat × Nd} (hx : x ∈ hb) (hw : wf x.1) (w : World) (h : Rp w A C M F f size least nn cs hb) :
    Calls Try.prog 20 #[.pointer (some ⟨A, 0, none⟩), .int .i64 x.1] w fun e w' => e = .returned (.int .i64 x.2.a) ∧ w = w' := by
  have HR : Hid (Rp w A C M F f size least nn cs hb ∧ wf x.1 ∧ look hb x.1 = some x.2.p) := ⟨h, hw, look_mem h.hnd hx⟩
  obtain ⟨ah, bh, hr⟩ := h.node hx
  obtain ⟨x0, x1, x2, x3⟩ := nd_cells hr
  clear h hw hx hr
  go_enter Try.func20, Try.ntmps20
  go_wp2_with (go_at_call 50; refine (find_some _ _ HR.out.1.hA HR.out.1.map HR.out.2.1 HR.out.2.2).mono ?_; rintro e w' ⟨rfl, rfl⟩)
  go_ret
  exact ⟨rfl, rfl⟩
set_option maxHeartbeats 400000 in
theorem Len_some {A C M F f size least nn : Nat} {cs : List Int} {hb : List (Nat × Nd)} {x : Nat × Nd} (hx : x ∈ hb) (hw : wf x.1) (w : World) (h : Rp w A C M F f size least nn cs hb) :
    Calls Try.prog 18 #[.pointer (some ⟨A, 0, none⟩), .int .i64 x.1] w fun e w' => e = .returned (.int .i64 x.2.s) ∧ w = w' := by
  have HR : Hid (Rp w A C M F f size least nn cs hb ∧ wf x.1 ∧ look hb x.1 = some x.2.p) := ⟨h, hw, look_mem h.hnd hx⟩
  obtain ⟨ah, bh, hr⟩ := h.node hx
  obtain ⟨x0, x1, x2, x3⟩ := nd_cells hr
  clear h hw hx hr
  go_enter Try.func18, Try.ntmps18
  go_wp2_with (go_at_call 50; refine (find_some _ _ HR.out.1.hA HR.out.1.map HR.out.2.1 HR.out.2.2).mono ?_; rintro e w' ⟨rfl, rfl⟩)
  go_ret
  exact ⟨rfl, rfl⟩
end Go.Proofs.Ytdaklohfecinjaa
