/- Pack: a text as cells. -/
import Derived.Test.YtinhfgpcgbnhdaaT4
import Derived.Lib.LazyBuf
import Derived.Lib.BufferWrite
import Derived.Deep.MidRow
namespace Go.Proofs.Ytinhfgpcgbnhdaa
open Go.RowKit Go.Lib

theorem info2 : (Try.prog.info? 2).map (fun i => (i.zero, i.size, i.bytes)) = some (some (.int .i64 0), 1, 8) := by kernel_rfl

/-- copy from a text, as much as there is room for. -/
theorem run_copy_row_min {P : Program} (w : World) (dT sT ty elem : TypeId) (g o dLen dCap : Nat) (s : ByteArray) (cur : Array Value) (t : TypeId)
    (hu : P.underlying dT = some (.slice elem)) (hs : (P.info? elem).map (·.size) = some 1) (hg : w.heap[g]? = some (.cells cur t (0, 0))) (m : Nat) (hm : Nat.min s.size dLen = m) (hfit : o + m ≤ cur.size) :
    (Builtin.copy_ #[dT, sT] ty #[.slice (some ⟨g, o, none⟩) dLen dCap, .string s]).run P w =
      .ok (goInt m) (w.setRow g (cur.toList.take o ++ byteCells (s.data.toList.take m) ++ cur.toList.drop (o + m)).toArray) := by
  have hms : m ≤ s.size := by rw [← hm]; exact Nat.min_le_left _ _
  have hlen : (byteCells (s.data.toList.take m)).length = m := by rw [byteCells_length, List.length_take, ← size_eq]; omega
  have hst := run_storeCells_at P g o t (byteCells (s.data.toList.take m)) 0 cur w hg (by rw [hlen]; simpa using hfit) (byteCells_one _)
  have htk : List.take m (List.map (fun b : UInt8 => Value.int IntKind.u8 (b.toNat : Int)) s.data.toList) = byteCells (s.data.toList.take m) := by
    unfold byteCells; rw [List.map_take]
  rw [hlen] at hst
  simp only [Nat.add_zero] at hst
  cases hq : P.info? elem with
  | none => simp [hq] at hs
  | some i =>
    simp [Builtin.copy_, run_underlying hu, Builtin.lenOf, Builtin.firstCells, sizeOf, typeInfo, hq, hm]
    rw [htk, hst]
    simp [Result.andThen]

/-- .. as a step of a region that draws its order. -/
theorem step_copy_min {P : Program} {ops : Array Oper} {o : Oper} {a : Act} {w : World} {K : Act → World → Prop} {Q : Exit → Act → World → Prop} {E : Prop}
    (hgd : o.guard = none) (d x : Operand) (dT sT : TypeId) (hop : o.op = Op.call { callee := Callee.builtin Builtin.copy, args := #[d, x], argTypes := #[dT, sT] })
    (elem : TypeId) (hu : P.underlying dT = some (.slice elem)) (hs : (P.info? elem).map (·.size) = some 1)
    (g off dLen dCap : Nat) (hd : a.eval d = .slice (some ⟨g, off, none⟩) dLen dCap) (s : ByteArray) (hx : a.eval x = .string s)
    (cur : Array Value) (t : TypeId) (hg : w.heap[g]? = some (.cells cur t (0, 0))) (m : Nat) (hm : Nat.min s.size dLen = m) (hfit : off + m ≤ cur.size)
    (hK : ∀ w', Hid (w'.heap[g]? = some (.cells (cur.toList.take off ++ (byteCells (s.data.toList.take m) ++ cur.toList.drop (off + m))).toArray t (0, 0))) → Hid (w.grownBy w' (some g)) → K (a.put o.dst (goInt m)) w') :
    if Region.wanted o (yielded ops a.tmps) = true then Oper.wp P o a w K Q else E := by
  have hw : Region.wanted o (yielded ops a.tmps) = true := by simp [Region.wanted, hgd]
  rw [if_pos hw]
  have hrun := run_copy_row_min (P := P) w dT sT o.type elem g off dLen dCap s cur t hu hs hg m hm hfit
  unfold Oper.wp
  simp [execOp, hop, resolve, invoke, builtin, hd, hx, hrun, Result.andThen]
  exact hK _ (setRow_heap w g cur _ t _ hg) ⟨rfl, rfl, rfl, by simp, fun k _ hk => setRow_other w g k _ (fun e => hk (by rw [e]))⟩

/-- The number in cell k. -/
def cellN (l : List Nat) (k : Nat) : Nat := val ((l.drop (8 * k)).take 8)
/-- Ints as cells. -/
def ic (l : List Int) : List Value := l.map (Value.int .i64)
/-- n cells, the first k of them laid. -/
def pz (l : List Nat) (n k : Nat) : List Int := (List.range n).map fun i => if i < k then wrap64 (cellN l i) else 0
/-- The cells of bytes. -/
def packL (l : List Nat) : List Int := (List.range ((l.length + 7) / 8)).map fun i => wrap64 (cellN l i)

theorem pz_zero (l : List Nat) (n : Nat) : ic (pz l n 0) = List.replicate n (.int .i64 0) := by
  unfold ic pz; rw [List.map_map]
  apply List.ext_getElem?
  intro j
  by_cases hj : j < n
  · simp [hj]
  · simp [hj]
theorem pz_all (l : List Nat) : pz l ((l.length + 7) / 8) ((l.length + 7) / 8) = packL l := by
  unfold pz packL
  apply List.map_congr_left
  intro i hi
  rw [if_pos (List.mem_range.1 hi)]
theorem pz_set (l : List Nat) (n k : Nat) : (ic (pz l n k)).set k (.int .i64 (wrap64 (cellN l k))) = ic (pz l n (k + 1)) := by
  apply List.ext_getElem?
  intro j
  simp only [ic, pz, List.map_map, List.getElem?_set, List.length_map, List.length_range, List.getElem?_map]
  by_cases hj : k = j
  · subst hj
    by_cases hk : k < n
    · simp [hk]
    · simp [hk]
  · simp only [hj, if_false]
    by_cases hk : j < n
    · simp only [List.getElem?_range hk, Option.map_some, Function.comp]
      have : (j < k) = (j < k + 1) := by apply propext; omega
      simp only [this]
    · rw [List.getElem?_eq_none (by simp; omega)]; rfl

/-- Eight bytes of a text from a place on, 0 where there are none. -/
def chunk (l : List Nat) (k : Nat) : List Nat := (l.drop (8 * k)).take 8 ++ List.replicate (8 - (l.length - 8 * k)) 0

theorem val_zeros (l : List Nat) (n : Nat) : val (l ++ List.replicate n 0) = val l := by
  induction l with
  | nil => induction n with
    | zero => rfl
    | succ n ih => simp only [List.nil_append, List.replicate_succ, val] at ih ⊢; omega
  | cons a l ih => simp only [List.cons_append, val, ih]
theorem chunk_val (l : List Nat) (k : Nat) : val (chunk l k) = cellN l k := val_zeros _ _
theorem chunk_len (l : List Nat) (k : Nat) : (chunk l k).length = 8 := by
  unfold chunk; rw [List.length_append, List.length_take, List.length_drop, List.length_replicate]; omega
theorem bl_lt (s : ByteArray) : ∀ a ∈ bl s, a < 256 := by
  intro a ha; unfold bl at ha; obtain ⟨b, _, rfl⟩ := List.mem_map.1 ha; exact UInt8.toNat_lt b
theorem chunk_lt (s : ByteArray) (k : Nat) : ∀ a ∈ chunk (bl s) k, a < 256 := by
  intro a ha
  rcases List.mem_append.1 ha with h | h
  · exact bl_lt s a (List.mem_of_mem_drop (List.mem_of_mem_take h))
  · rw [(List.mem_replicate.1 h).2]; decide

theorem size5 : (Try.prog.info? 5).map (·.size) = some 1 := by kernel_rfl
abbrev Z8 : Array Value := #[.int .u8 0, .int .u8 0, .int .u8 0, .int .u8 0, .int .u8 0, .int .u8 0, .int .u8 0, .int .u8 0]

theorem min8 (a : Nat) : 0 + Nat.min a 8 ≤ Z8.size := by
  have h : Nat.min a 8 ≤ 8 := Nat.min_le_right a 8
  show 0 + Nat.min a 8 ≤ 8; omega
theorem size47 : (Try.prog.info? 47).map (·.size) = some 8 := by kernel_rfl

theorem byteCells_bc (l : List UInt8) : byteCells l = bc (l.map UInt8.toNat) := by simp [byteCells, bc]
theorem chunk_cells (s : ByteArray) (k m : Nat) (hm : m = k * 8) :
    List.take 0 Z8.toList ++ (byteCells (List.take (Nat.min (s.size - m) 8) (s.extract m s.size).data.toList) ++ List.drop (0 + Nat.min (s.size - m) 8) Z8.toList) = bc (chunk (bl s) k) := by
  have hz : Z8.toList = List.replicate 8 (.int .u8 0) := rfl
  have he : (s.extract m s.size).data.toList = s.data.toList.drop m := by
    rw [Lib.extract_data, List.take_of_length_le]; simp
  have hl : s.data.toList.length = s.size := rfl
  have h8 : Nat.min (s.size - m) 8 = min 8 (s.size - m) := Nat.min_comm _ _
  have ht : List.take (Nat.min (s.size - m) 8) (s.data.toList.drop m) = (s.data.toList.drop m).take 8 := by
    rw [h8, ← List.take_take, List.take_of_length_le (i := s.size - m) (by rw [List.length_drop, hl]; exact Nat.le_refl _)]
  rw [he, ht, byteCells_bc, hz, List.drop_replicate, h8]
  unfold chunk bl
  rw [bc_append, List.map_take, List.map_drop, List.length_map, hl, show 8 * k = m by omega]
  have e0 : bc (List.replicate (8 - (s.size - m)) 0) = List.replicate (8 - (s.size - m)) (.int .u8 0) := by simp [bc]
  rw [e0, show 8 - (0 + min 8 (s.size - m)) = 8 - (s.size - m) by omega]
  simp

theorem grown_of_below {w w' : World} (h : Below w.heap.size w w') : w.grownBy w' none :=
  ⟨h.os, h.tape, h.output, h.size, fun k hk _ => h.block k hk⟩

theorem own_at {w w' : World} {base e g n cap k : Nat} {xs : List Value} (h : w.ownsRow base e 1 (.slice (some ⟨g, 0, none⟩) n cap) n xs) (hb : Below w.heap.size w w') (hk : k < n) :
    w'.ownsRow base e 1 (.slice (some ⟨g, 0, none⟩) n cap) n xs ∧ (∃ v, w'.cell? ⟨g, k, none⟩ = some v) ∧ w'.frozen? ⟨g, k, none⟩ = false := by
  have h' := h.kept (grown_of_below hb) (Or.inr (by simp [Value.ownBlock]))
  refine ⟨h', ?_, h'.frozenAt k⟩
  have hl : k < xs.length := by have := h.1; omega
  rw [h'.cellAt k (by omega), List.getElem?_eq_getElem hl]
  exact ⟨_, rfl⟩

set_option maxHeartbeats 1000000 in
theorem Pack_any (s : ByteArray) (w : World) (hs : s.size ≤ 3000) :
    Calls Try.prog 17 #[.string s] w fun e w' => e = .returned (.slice (some ⟨w.heap.size, 0, none⟩) ((s.size + 7) / 8) ((s.size + 7) / 8)) ∧
      w'.ownsRow w.heap.size 2 1 (.slice (some ⟨w.heap.size, 0, none⟩) ((s.size + 7) / 8) ((s.size + 7) / 8)) ((s.size + 7) / 8) (ic (packL (bl s))) ∧ Below w.heap.size w w' := by
  obtain ⟨i0, hi, hz0, hz1, hz2⟩ := info_parts info2
  obtain ⟨n, hn⟩ : ∃ n : Nat, n = (s.size + 7) / 8 := ⟨_, rfl⟩
  have HN : Hid (n = (s.size + 7) / 8) := hn
  have hn1 : 8 * n ≤ s.size + 7 := by omega
  have hn2 : s.size ≤ 8 * n := by omega
  have hnI : ((s.size : Int) + 7) / 8 = (n : Int) := by omega
  rw [← hn]; clear hn
  go_enter Try.func17, Try.ntmps17
  go_wp2_with (first | (go_at_call 19; refine (Cells_any _ _ (by omega)).mono ?_; rintro e w' ⟨rfl, rfl⟩) | (at_make; refine wpList_make_full _ rfl _ _ 28 rfl w.heap.size 2 i0 (.int .i64 0) 1 Try.underlying28 hi hz0 hz1 .i64 .i64 _ _ n rfl rfl ?_ ?_ ?_ ?_ ?_ ?_))
  · omega
  · omega
  · rw [hz2]; omega
  · unfold maxLen; omega
  · exact Nat.le_refl _
  intro w1 hown1 hgrow1
  have HB1 : Hid (Below w.heap.size w w1) := (Below.refl _ _).grown hgrow1 (Nat.le_refl _) (fun k hk => by cases hk)
  have HO1 : Hid (w1.ownsRow w.heap.size 2 1 (.slice (some ⟨w.heap.size, 0, none⟩) n n) n (ic (pz (bl s) n 0))) := by
    show World.ownsRow _ _ _ _ _ _ _
    rw [pz_zero, ← toList_madeCells_one, ← Nat.mul_one n]; simpa using hown1
  clear hown1 hgrow1
  generalize hB : w.heap.size = B at HB1 HO1 ⊢
  go_wp2_with fail
  go_loopw [4, 5, 12] (fun _ _ i wr => ∃ k : Nat, k ≤ n ∧ i = .int .i64 k ∧ Hid (wr.ownsRow B 2 1 (.slice (some ⟨B, 0, none⟩) n n) n (ic (pz (bl s) n k))) ∧ Hid (Below B w wr)) (fun _ _ i _ => n - (intOf i).toNat)
  case atStart => exact ⟨0, Nat.zero_le _, rfl, HO1.out, HB1.out⟩
  case round =>
    clear HO1 HB1
    obtain ⟨k, hk, rfl, HO, HB⟩ := hrel
    by_cases hlt : k < n
    · have k1 : (0 : Int) ≤ (k : Int) := by omega
      obtain ⟨m, hm⟩ : ∃ m : Nat, m = k * 8 := ⟨_, rfl⟩
      have k2 : (m : Int) ≤ (s.size : Int) := by omega
      have k3 : (0 : Int) ≤ (m : Int) := by omega
      have k4 : IntKind.i64.wrap (m : Int) = (m : Int) := by rw [IntKind.wrap_i64]; omega
      have k5 : (k : Int) * 8 = (m : Int) := by omega
      have hsl : ∀ wx, (Instr.slice 9 (.string s) (some (.int .i64 (m : Int))) none none).run Try.prog wx = .ok (.string (s.extract m s.size)) wx := by
        intro wx
        rw [run_slice_string_from_if wx 9 s .i64 (m : Int) Try.underlying9, if_pos ⟨k3, k2⟩]; simp
      have HM : Hid (m = k * 8) := hm
      clear hm
      go_wp2
      go_region_held3 (fun _ => True) (trivial) ((refine step_copy_min (by rfl) _ _ 48 9 (by rfl) 5 Try.underlying48 size5 wr.heap.size 0 8 8 (by rfl) (s.extract m s.size) (by rfl) Z8 47 (heap_alloc_new wr _) (Nat.min (s.size - m) 8) (by rw [ByteArray.size_extract, Nat.min_self]) (min8 _) ?_; intro w2 hr2 hg2))
      have HR : Hid (w2.rangeAt wr.heap.size 0 (bc (chunk (bl s) k))) := by
        have h := hr2.out
        rw [chunk_cells s k m HM.out] at h
        intro j v hv
        rw [cell_of_row w2 _ _ _ _ _ h]; simpa using hv
      have HB2 : Hid (Below B w w2) := HB.out.trans ((((Below.refl _ _).alloc (by have := HB.out.size; omega) _).drew).grown hg2.out (by have := HB.out.size; simp; omega) (fun j hj => by cases hj; have := HB.out.size; omega))
      have HO2 : Hid (w2.ownsRow B 2 1 (.slice (some ⟨B, 0, none⟩) n n) n (ic (pz (bl s) n k))) :=
        ((HO.out.alloc _).drew).kept hg2.out (Or.inr (by have := (HO.out.lt B rfl).2; simp [Value.ownBlock]; omega))
      clear hr2 hg2 HB HO
      generalize wr.heap.size = G at *
      have hlen8 : (Try.prog.info? 47).map (·.size) = some (bc (chunk (bl s) k)).length := by rw [size47]; simp [bc, chunk_len]
      go_wp2_with (first | (go_at_call 28; refine (join_any (chunk (bl s) k) (chunk_len _ _) (chunk_lt s k) _).mono ?_; rintro e w3 ⟨rfl, hb3⟩; obtain ⟨ho3, ⟨v3, hv3⟩, hf3⟩ := own_at HO2.out hb3 hlt) | (refine wpList_load_mid rfl 47 (.tmp 5) rfl G 0 rfl (bc (chunk (bl s) k)) _ HR.out Try.underlying47 rfl hlen8 ?_))
      have HO4 : Hid ((w3.setCell ⟨B, k, none⟩ (.int .i64 (wrap64 (val (chunk (bl s) k))))).ownsRow B 2 1 (.slice (some ⟨B, 0, none⟩) n n) n (ic (pz (bl s) n (k + 1)))) := by
        have h := (ho3.stored k (.int .i64 (wrap64 (cellN (bl s) k)))).1
        rw [pz_set] at h
        show World.ownsRow _ _ _ _ _ _ _; rw [chunk_val]; exact h
      have HB4 : Hid (Below B w (w3.setCell ⟨B, k, none⟩ (.int .i64 (wrap64 (val (chunk (bl s) k)))))) :=
        (HB2.out.trans (hb3.mono (by have := HB2.out.size; omega))).setCell (Nat.le_refl _) _
      go_roundw
      case rel => exact ⟨k + 1, by omega, by go_num, HO4.out, HB4.out⟩
      case measure => simp [intOf]; omega
    · have he : k = n := by omega
      subst he
      go_wp2
      go_ret
      have e : packL (bl s) = pz (bl s) k k := by rw [← pz_all, bl_len, ← HN.out]
      rw [e, hB]
      exact ⟨rfl, HO.out, HB.out⟩
end Go.Proofs.Ytinhfgpcgbnhdaa
