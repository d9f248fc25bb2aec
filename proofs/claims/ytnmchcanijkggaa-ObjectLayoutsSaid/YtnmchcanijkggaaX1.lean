/- Texts in cells, as package text has them: Cells, split. -/
import Derived.Test.YtnmchcanijkggaaD4
import Derived.Laws.BytesArg
namespace Go.Proofs.Ytnmchcanijkggaa.Tx
open Go.RowKit

/-- Bytes as cells. -/
def bc (l : List Nat) : List Value := l.map fun (n : Nat) => .int .u8 (n : Int)
theorem bc_one (l : List Nat) : ∀ u ∈ bc l, u.oneCell' = true := by
  intro u hu; simp only [bc, List.mem_map] at hu; obtain ⟨n, _, rfl⟩ := hu; rfl
theorem bc_append (a b : List Nat) : bc (a ++ b) = bc a ++ bc b := by simp [bc]
theorem info5 : (Try.prog.info? 5).map (fun i => (i.zero, i.size, i.bytes)) = some (some (.int .u8 0), 1, 1) := by kernel_rfl
/-- The bytes of a text. -/
def bl (s : ByteArray) : List Nat := s.data.toList.map UInt8.toNat
/-- The text of bytes. -/
def str (l : List Nat) : ByteArray := strOfNums (l.map fun (n : Nat) => (n : Int))
theorem size5 : (Try.prog.info? 5).map (·.size) = some 1 := by kernel_rfl
abbrev Z8 : Array Value := #[.int .u8 0, .int .u8 0, .int .u8 0, .int .u8 0, .int .u8 0, .int .u8 0, .int .u8 0, .int .u8 0]
theorem size91 : (Try.prog.info? 91).map (·.size) = some 8 := by kernel_rfl


set_option maxHeartbeats 400000 in
theorem Cells_any (n : Nat) (w : World) (h : n ≤ 9223372036854775807) :
    Calls Try.prog 68 #[.int .i64 n] w fun e w' => e = .returned (.int .i64 (((n + 7) / 8 : Nat) : Int)) ∧ w = w' := by
  by_cases h0 : (n : Int) < 1
  · have e : (n + 7) / 8 = 0 := by omega
    rw [e]
    go_enter Try.func68, Try.ntmps68
    go_wp2
    go_ret
    exact ⟨rfl, rfl⟩
  · obtain ⟨m, hm⟩ : ∃ m : Nat, m = (n + 7) / 8 := ⟨_, rfl⟩
    have e : ((n : Int) - 1) / 8 + 1 = (m : Int) := by omega
    rw [← hm]; clear hm
    go_enter Try.func68, Try.ntmps68
    go_wp2
    go_ret
    exact ⟨by rw [← e]; rfl, rfl⟩

set_option maxHeartbeats 400000 in
theorem Cells_neg (n : Int) (w : World) (h : n < 1) :
    Calls Try.prog 68 #[.int .i64 n] w fun e w' => e = .returned (.int .i64 0) ∧ w = w' := by
  go_enter Try.func68, Try.ntmps68
  go_wp2
  go_ret
  exact ⟨rfl, rfl⟩

theorem pow256 (k : Nat) : 2 ^ (8 * k) = 256 ^ k := by rw [Nat.pow_mul]


/-- Byte i of a number. -/
def byteN (u i : Nat) : Nat := u / 256 ^ i % 256
/-- Eight bytes, the first k of them laid. -/
def spK (u k : Nat) : List Nat := (List.range 8).map fun i => if i < k then byteN u i else 0
/-- The eight bytes of a number. -/
def splitL (u : Nat) : List Nat := (List.range 8).map (byteN u)

theorem spK_all (u : Nat) : spK u 8 = splitL u := rfl
theorem spK_zero (u : Nat) : bc (spK u 0) = Z8.toList := rfl
theorem spK_set (u k : Nat) (_hk : k < 8) : (bc (spK u k)).toArray.setIfInBounds k (.int .u8 (byteN u k : Int)) = (bc (spK u (k + 1))).toArray := by
  rw [List.setIfInBounds_toArray]
  congr 1
  apply List.ext_getElem?
  intro j
  simp only [bc, spK, List.map_map, List.getElem?_set, List.length_map, List.length_range, List.getElem?_map]
  by_cases hj : k = j
  · subst hj; simp [_hk]
  · simp only [hj, if_false]
    by_cases hk : j < 8
    · simp only [List.getElem?_range hk, Option.map_some, Function.comp]
      have : (j < k) = (j < k + 1) := by apply propext; omega
      simp only [this]
    · rw [List.getElem?_eq_none (by simp; omega)]; rfl
theorem byte_walk (u k : Nat) : (u : Int) / 2 ^ (8 * k) % 256 = (byteN u k : Int) := by
  unfold byteN
  rw [← pow256]; simp
theorem spK_len (u k : Nat) : (bc (spK u k)).length = 8 := by simp [bc, spK]
theorem spK_at (u k : Nat) (hk : k < 8) : (bc (spK u k)).toArray[k]? = some (.int .u8 0) := by
  simp [bc, spK, hk]

theorem asAddr_run (a : Addr) (W : World) : (asAddr (.pointer (some a))).run Try.prog W = .ok a W := by simp [asAddr]

set_option maxHeartbeats 1000000 in
theorem split_any (c : Int) (w : World) :
    Calls Try.prog 69 #[.int .i64 c] w fun e w' => e = .returned (.agg (bc (splitL (IntKind.u64.wrap c).toNat)).toArray) ∧ Below w.heap.size w w' := by
  obtain ⟨u, hu⟩ : ∃ u : Nat, (u : Int) = IntKind.u64.wrap c := ⟨(IntKind.u64.wrap c).toNat, by rw [IntKind.wrap_u64]; omega⟩
  have hu2 : (IntKind.u64.wrap c).toNat = u := by rw [← hu]; rfl
  rw [hu2]; clear hu2
  have hu1 : IntKind.u64.wrap c = (u : Int) := hu.symm
  clear hu
  go_enter Try.func69, Try.ntmps69
  go_wp2_with fail
  go_loopw [4, 5] (fun _ i wr => ∃ k : Nat, k ≤ 8 ∧ i = .int .i64 k ∧ Hid (wr.heap[w.heap.size]? = some (.cells Z8 91 (0, 0))) ∧ Hid (wr.heap[w.heap.size + 1]? = some (.cells (bc (spK u k)).toArray 91 (0, 0))) ∧ Hid (Below w.heap.size w wr)) (fun _ i _ => 8 - (intOf i).toNat)
  case atStart =>
    refine ⟨0, Nat.zero_le _, rfl, ?_, ?_, ((Below.refl _ _).alloc (Nat.le_refl _) _).alloc (by simp) _⟩
    · exact (((Below.refl (w.heap.size + 1) (w.alloc (.cells Z8 91))).alloc (by simp) _).block w.heap.size (by omega)).trans (heap_alloc_new w _)
    · have h := heap_alloc_new (w.alloc (.cells Z8 91)) (.cells Z8 91)
      have e : (w.alloc (.cells Z8 91)).heap.size = w.heap.size + 1 := by simp
      rw [e] at h; exact h
  case round =>
    obtain ⟨k, hk, rfl, H1, H2, HB⟩ := hrel
    by_cases hlt : k < 8
    · have c1 : wr.cell? ⟨w.heap.size + 1, k, none⟩ = some (.int .u8 0) := by rw [cell_of_row wr _ _ _ _ _ H2.out]; exact spK_at u k hlt
      have f1 : wr.frozen? ⟨w.heap.size + 1, k, none⟩ = false := frozen_of_row wr _ _ _ _ H2.out
      have hv := byte_walk u k
      go_wp2
      have H2' : Hid ((wr.setCell ⟨w.heap.size + 1, k, none⟩ (.int .u8 (byteN u k : Int))).heap[w.heap.size + 1]? = some (.cells (bc (spK u (k + 1))).toArray 91 (0, 0))) := by
        have h := heap_setCell_same wr (w.heap.size + 1) k _ 91 (.int .u8 (byteN u k : Int)) H2.out
        rw [spK_set u k hlt] at h; exact h
      have H1' : Hid ((wr.setCell ⟨w.heap.size + 1, k, none⟩ (.int .u8 (byteN u k : Int))).heap[w.heap.size]? = some (.cells Z8 91 (0, 0))) := by
        show _ = _
        rw [Below.heap_setCell _ _ _ _ (by simp)]; exact H1.out
      have HB' : Hid (Below w.heap.size w (wr.setCell ⟨w.heap.size + 1, k, none⟩ (.int .u8 (byteN u k : Int)))) := HB.out.setCell (by simp) _
      go_roundw
      case rel => exact ⟨k + 1, by omega, by go_num, H1'.out, H2'.out, HB'.out⟩
      case measure => simp [intOf]; omega
    · have he : k = 8 := by omega
      subst he
      have HR : Hid (wr.rangeAt (w.heap.size + 1) 0 (bc (splitL u))) := by
        intro j v hv
        rw [cell_of_row wr _ _ _ _ _ H2.out, spK_all]; simpa using hv
      have HT : Hid (wr.there w.heap.size 0 (bc (splitL u)).toArray.size) := by
        intro j hj
        have hj8 : j < 8 := by simpa [bc, splitL] using hj
        rw [Nat.zero_add, cell_of_row wr _ _ _ _ _ H1.out]
        refine ⟨?_, frozen_of_row wr _ _ _ _ H1.out⟩
        have : j < Z8.size := hj8
        rw [Array.getElem?_eq_getElem this]; rfl
      have hl8 : (Try.prog.info? 91).map (·.size) = some (bc (splitL u)).length := by rw [size91]; simp [bc, splitL]
      have hs8 : (Try.prog.info? 91).map (·.size) = some (bc (splitL u)).toArray.size := by rw [size91]; simp [bc, splitL]
      have h1c : (bc (splitL u)).toArray.all (·.oneCell') = true := all_oneCell_toArray (bc_one _)
      have HS : Hid ((wr.setCells w.heap.size 0 (bc (splitL u))).rangeAt w.heap.size 0 (bc (splitL u))) := World.rangeAt_setCells_same wr _ _ _ (by have := HT.out; simpa using this)
      have HBS : Hid (Below w.heap.size w (wr.setCells w.heap.size 0 (bc (splitL u)))) := below_setCells (Nat.le_refl _) _ _ _ HB.out
      clear H1 H2 HB
      go_wp2_with (first | (refine wpList_load_mid rfl 91 (.tmp 3) rfl (w.heap.size + 1) 0 rfl (bc (splitL u)) _ HR.out Try.underlying91 rfl hl8 ?_) | (refine wpList_store_mid rfl 91 (.tmp 2) (.tmp 17) rfl w.heap.size 0 (bc (splitL u)).toArray rfl rfl HT.out hs8 h1c ?_))
      have hld := run_loadVar_mid (P := Try.prog) (wr.setCells w.heap.size 0 (bc (splitL u))) w.heap.size  0 91 (bc (splitL u)) _ HS.out Try.underlying91 rfl hl8
      refine bodyPost_ret (v := .agg (bc (splitL u)).toArray) ?_ rfl ⟨rfl, HBS.out⟩
      simp [results, Try.results69, Act.put, asAddr_run, hld]

/-- All bytes of cells. -/
def flat (zs : List Int) : List Nat := zs.flatMap fun c => splitL (IntKind.u64.wrap c).toNat

theorem split_len (u : Nat) : (splitL u).length = 8 := by simp [splitL]
theorem flat_len (zs : List Int) : (flat zs).length = 8 * zs.length := by
  induction zs with
  | nil => rfl
  | cons a l ih =>
    have e : flat (a :: l) = splitL (IntKind.u64.wrap a).toNat ++ flat l := by simp [flat]
    rw [e, List.length_append, split_len, ih, List.length_cons]; omega
end Go.Proofs.Ytnmchcanijkggaa.Tx
