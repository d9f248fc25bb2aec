/- Unpack: the text of cells. -/
import Derived.Test.YtnmchcanijkggaaX1
import Derived.Deep.QuietTactic
import Derived.BigQuiet
import Derived.Laws.CopyOwn
namespace Go.Proofs.Ytnmchcanijkggaa.Tx
open Go.RowKit

/-- The value is a slice with these ints in its cells. -/
def SliceIs (w : World) (v : Value) (zs : List Int) : Prop :=
  ∃ ao cap, v = .slice ao zs.length cap ∧ (0 < zs.length → ∃ b off, ao = some ⟨b, off, none⟩ ∧ ∀ i, i < zs.length → w.cell? ⟨b, off + i, none⟩ = some (.int .i64 (zs.getD i 0)))

/-- What Unpack gives. -/
def unpackT (zs : List Int) (n : Int) : Value :=
  if n < 0 ∨ zs.length ≠ (n.toNat + 7) / 8 then .tuple #[.string ⟨#[]⟩, .int .i64 1]
  else if ((flat zs).drop n.toNat).all (· == 0) then .tuple #[.string (str ((flat zs).take n.toNat)), .int .i64 0]
  else .tuple #[.string ⟨#[]⟩, .int .i64 6]

set_option maxHeartbeats 2000000 in
theorem Unpack_neg (ao : Option Addr) (m cap : Nat) (n : Int) (w : World) (h1 : n < 0) :
    Calls Try.prog 66 #[.slice ao m cap, .int .i64 n] w fun e w' => e = .returned (.tuple #[.string ⟨#[]⟩, .int .i64 1]) ∧ Below w.heap.size w w' := by
  go_enter Try.func66, Try.ntmps66
  go_wp2
  go_ret2
  exact ⟨rfl, Below.refl _ _⟩

set_option maxHeartbeats 2000000 in
theorem Unpack_len (ao : Option Addr) (m cap n : Nat) (w : World) (hn : n ≤ 9223372036854775807) (h1 : m ≠ (n + 7) / 8) :
    Calls Try.prog 66 #[.slice ao m cap, .int .i64 n] w fun e w' => e = .returned (.tuple #[.string ⟨#[]⟩, .int .i64 1]) ∧ Below w.heap.size w w' := by
  obtain ⟨k, hk⟩ : ∃ k : Nat, k = (n + 7) / 8 := ⟨_, rfl⟩
  have c1 := Cells_any n
  rw [← hk] at c1
  have C1 : Hid (∀ w, n ≤ 9223372036854775807 → Calls Try.prog 68 #[.int .i64 n] w fun e w' => e = .returned (.int .i64 (k : Int)) ∧ w = w') := c1
  have hne : ((m : Int) != (k : Int)) = true := by simp; omega
  clear c1 hk h1
  go_enter Try.func66, Try.ntmps66
  go_wp2_with (first | (go_at_call 68; refine (C1.out _ hn).mono ?_; rintro e w' ⟨rfl, rfl⟩))
  go_ret2
  exact ⟨rfl, Below.refl _ _⟩

/-- M bytes, those of the first k cells laid. -/
def fz (zs : List Int) (M k : Nat) : List Nat := flat (zs.take k) ++ List.replicate (M - 8 * k) 0
theorem fz_zero (zs : List Int) (M : Nat) : bc (fz zs M 0) = List.replicate M (.int .u8 0) := by
  unfold fz; simp [flat, bc]

theorem own_block {w : World} {base g n : Nat} {xs : List Value} {t : TypeId} (h : w.ownsRow base t 1 (.slice (some ⟨g, 0, none⟩) n n) n xs) : w.heap[g]? = some (.cells xs.toArray t (0, 0)) := by
  rcases h.2 with ⟨h', _⟩ | ⟨g', cap', cur, h', _, hg, _, _, hcs, htake⟩
  · simp at h'
  · simp only [Value.slice.injEq, Option.some.injEq, Addr.mk.injEq, and_true, true_and] at h'
    obtain ⟨rfl, rfl⟩ := h'
    rw [hg]
    have e : cur.toList = xs := by rw [← htake, List.take_of_length_le (by rw [Array.length_toList]; omega)]
    rw [← e]
theorem lt_of_block {w : World} {g : Nat} {o : Obj} (h : w.heap[g]? = some o) : g < w.heap.size := by
  rcases Nat.lt_or_ge g w.heap.size with hlt | hge
  · exact hlt
  · rw [Array.getElem?_eq_none hge] at h; cases h

theorem bc_len (l : List Nat) : (bc l).length = l.length := by simp [bc]
theorem range_cells {w : World} {g : Nat} {cs : List Value} (h : w.rangeAt g 0 cs) : ∀ j v, cs[j]? = some v → w.cell? ((⟨g, 0, none⟩ : Addr).add j) = some v := by
  intro j v hv; rw [Addr.add_mid]; exact h j v hv

theorem flat_snoc (zs : List Int) (k : Nat) (hk : k < zs.length) : flat (zs.take (k + 1)) = flat (zs.take k) ++ splitL (IntKind.u64.wrap (zs.getD k 0)).toNat := by
  unfold flat
  rw [List.take_succ_eq_append_getElem hk, List.flatMap_append]
  simp only [List.flatMap_cons, List.flatMap_nil, List.append_nil, List.getD, List.getElem?_eq_getElem hk, Option.getD_some]
theorem fz_splice (zs : List Int) (M k K8 : Nat) (x : Int) (S : List Nat) (hk : k < zs.length) (hM : M = zs.length * 8) (hx : x = zs.getD k 0) (hS : S = splitL (IntKind.u64.wrap x).toNat) (hK : K8 = k * 8) :
    splice (bc (fz zs M k)) K8 (bc S) = bc (fz zs M (k + 1)) := by
  have hl : (bc (flat (zs.take k))).length = K8 := by rw [bc_len, flat_len, List.length_take]; omega
  have hSl : (bc S).length = 8 := by rw [bc_len, hS, split_len]
  unfold splice fz
  rw [bc_append, List.take_append_of_le_length (by omega), List.take_of_length_le (by omega), hSl, flat_snoc zs k hk, ← hx, ← hS, bc_append, bc_append, List.drop_append, List.drop_of_length_le (by omega), hl]
  have e : bc (List.replicate (M - 8 * k) 0) = List.replicate (M - 8 * k) (.int .u8 0) := by simp [bc]
  have e' : bc (List.replicate (M - 8 * (k + 1)) 0) = List.replicate (M - 8 * (k + 1)) (.int .u8 0) := by simp [bc]
  rw [e, e', List.drop_replicate, List.nil_append, List.append_assoc, show M - 8 * k - (K8 + 8 - K8) = M - 8 * (k + 1) by omega]
theorem fz_all (zs : List Int) (M k : Nat) (hk : k = zs.length) (hM : M = k * 8) : fz zs M k = flat zs := by
  unfold fz
  rw [List.take_of_length_le (by omega), show M - 8 * k = 0 by omega]; simp

theorem conv_block {w : World} {g : Nat} {l : List Nat} (n c : Nat) (h : w.heap[g]? = some (.cells (bc l).toArray 5 (0, 0))) (hn : n ≤ l.length) :
    (convert 89 9 (.slice (some ⟨g, 0, none⟩) n c)).run Try.prog w = .ok (.string (str (l.take n))) w := by
  refine run_convert_bytes_arg w 89 5 Try.underlying89 Try.underlying5 g 0 n c ((l.take n).map fun (n : Nat) => (n : Int)) (by simp; omega) ?_ 9 Try.underlying9
  intro i hi
  rw [Nat.zero_add, cell_of_row w _ _ _ _ _ h]
  simp [bc, List.getD, List.getElem?_eq_getElem (show i < l.length by omega), hi]

set_option maxHeartbeats 2000000 in
theorem Unpack_ok (zs : List Int) (ao : Option Addr) (cap n : Nat) (w : World) (hz : zs.length ≤ 400) (h1 : zs.length = (n + 7) / 8)
    (hc : 0 < zs.length → ∃ b off, ao = some ⟨b, off, none⟩ ∧ ∀ i, i < zs.length → w.cell? ⟨b, off + i, none⟩ = some (.int .i64 (zs.getD i 0))) :
    Calls Try.prog 66 #[.slice ao zs.length cap, .int .i64 n] w fun e w' => e = .returned (unpackT zs n) ∧ Below w.heap.size w w' := by
  obtain ⟨i0, hi, hz0, hz1, hz2⟩ := info_parts info5
  have hm1 : n ≤ 8 * zs.length := by omega
  have C1 : Hid (∀ w, Calls Try.prog 68 #[.int .i64 n] w fun e w' => e = .returned (.int .i64 (zs.length : Int)) ∧ w = w') := by
    intro w; rw [h1]; exact Cells_any n w (by omega)
  have HC : Hid (0 < zs.length → ∃ b off, ao = some ⟨b, off, none⟩ ∧ ∀ i, i < zs.length → w.cell? ⟨b, off + i, none⟩ = some (.int .i64 (zs.getD i 0))) := hc
  have HU : Hid (unpackT zs n = if ((flat zs).drop n).all (· == 0) then .tuple #[.string (str ((flat zs).take n)), .int .i64 0] else .tuple #[.string ⟨#[]⟩, .int .i64 6]) := by
    show _ = _
    unfold unpackT
    rw [if_neg]
    · rfl
    · rintro (h | h)
      · omega
      · exact h (by simpa using h1)
  obtain ⟨m, hm⟩ : ∃ m : Nat, m = zs.length := ⟨_, rfl⟩
  have HM : Hid (m = zs.length) := hm
  rw [← hm] at C1 hm1 hz ⊢
  obtain ⟨M, hMM⟩ : ∃ M : Nat, M = m * 8 := ⟨_, rfl⟩
  have HMM : Hid (M = m * 8) := hMM
  have hm8 : (m : Int) * 8 = (M : Int) := by omega
  have hnM : n ≤ M := by omega
  have hM4 : M ≤ 3200 := by omega
  clear hm h1 hc hMM
  go_enter Try.func66, Try.ntmps66
  go_wp2_with (first | (go_at_call 68; refine (C1.out _).mono ?_; rintro e w' ⟨rfl, rfl⟩) | (at_make; refine wpList_make_full _ rfl _ _ 89 rfl w.heap.size 5 i0 (.int .u8 0) 1 Try.underlying89 hi hz0 hz1 .i64 .i64 _ _ M rfl rfl ?_ ?_ ?_ ?_ ?_ ?_))
  · rfl
  · rfl
  · rw [hz2]; omega
  · unfold maxLen; omega
  · exact Nat.le_refl _
  intro w1 hown1 hgrow1
  have HB1 : Hid (Below w.heap.size w w1) := (Below.refl _ _).grown hgrow1 (Nat.le_refl _) (fun k hk => by cases hk)
  have HO1 : Hid (w1.heap[w.heap.size]? = some (.cells (bc (fz zs M 0)).toArray 5 (0, 0))) := by
    have e : (madeCells #[.int .u8 0] M).toList = bc (fz zs M 0) := by
      rw [fz_zero]; exact toList_madeCells_one _ _
    rw [e] at hown1
    exact own_block hown1
  clear hown1 hgrow1
  generalize hB : w.heap.size = B at HB1 HO1 ⊢
  go_wp2_with fail
  go_loopw [7, 8, 9, 27] (fun _ _ _ i wr => ∃ k : Nat, k ≤ m ∧ i = .int .i64 k ∧ Hid (wr.heap[B]? = some (.cells (bc (fz zs M k)).toArray 5 (0, 0))) ∧ Hid (Below B w wr)) (fun _ _ _ i _ => m - (intOf i).toNat)
  case atStart => exact ⟨0, Nat.zero_le _, rfl, HO1.out, HB1.out⟩
  case round =>
    clear HO1 HB1
    obtain ⟨k, hk, rfl, HO, HB⟩ := hrel
    by_cases hlt : k < m
    · obtain ⟨b, off, rfl, hg⟩ := HC.out (by rw [← HM.out]; omega)
      obtain ⟨x, hx⟩ : ∃ x, x = zs.getD k 0 := ⟨_, rfl⟩
      have HX : Hid (x = zs.getD k 0) := hx
      have hcl : wr.cell? ⟨b, off + k, none⟩ = some (.int .i64 x) := by
        rw [hx]; exact cell_later (by rw [hB]; exact HB.out) (hg k (by rw [← HM.out]; exact hlt))
      clear hg hx
      obtain ⟨K8, hK8⟩ : ∃ K8 : Nat, K8 = k * 8 := ⟨_, rfl⟩
      have k1 : (0 : Int) ≤ (k : Int) := by omega
      have k2 : (k : Int) < (m : Int) := by omega
      have k3 : (0 : Int) ≤ (K8 : Int) := by omega
      have k4 : IntKind.i64.wrap (K8 : Int) = (K8 : Int) := by rw [IntKind.wrap_i64]; omega
      have k5 : (k : Int) * 8 = (K8 : Int) := by omega
      have k6 : (K8 : Int) ≤ (M : Int) := by omega
      have k7 : K8 + 8 ≤ M := by have := HMM.out; omega
      have HK8 : Hid (K8 = k * 8) := hK8
      clear hK8
      obtain ⟨S, hS⟩ : ∃ S, S = splitL (IntKind.u64.wrap x).toNat := ⟨_, rfl⟩
      have s1 := split_any x
      rw [← hS] at s1
      have S1 : Hid (∀ w, Calls Try.prog 69 #[.int .i64 x] w fun e w' => e = .returned (.agg (bc S).toArray) ∧ Below w.heap.size w w') := s1
      have HSl : Hid (S.length = 8) := by show _ = _; rw [hS, split_len]
      have HSS : Hid (S = splitL (IntKind.u64.wrap x).toNat) := hS
      clear s1 hS
      go_wp2_with fail
      refine (S1.out _).mono ?_
      rintro e w2 ⟨rfl, hb2⟩
      have HO2 : Hid (w2.heap[B]? = some (.cells (bc (fz zs M k)).toArray 5 (0, 0))) := by
        show _ = _; rw [hb2.block B (by have := lt_of_block HO.out; exact this)]; exact HO.out
      have HB2 : Hid (Below B w w2) := HB.out.trans (hb2.mono (by have := HB.out.size; omega))
      clear hb2 HO HB
      have HT : Hid ((w2.alloc (.cells Z8 91)).there w2.heap.size 0 (bc S).toArray.size) := by
        intro j hj
        have hj8 : j < 8 := by have := HSl.out; simpa [bc, this] using hj
        have hb := heap_alloc_new w2 (.cells Z8 91)
        rw [Nat.zero_add, cell_of_row _ _ _ _ _ _ hb]
        refine ⟨?_, frozen_of_row _ _ _ _ _ hb⟩
        have : j < Z8.size := hj8
        rw [Array.getElem?_eq_getElem this]; rfl
      have hs8 : (Try.prog.info? 91).map (·.size) = some (bc S).toArray.size := by rw [size91]; simp [bc, HSl.out]
      have h1c : (bc S).toArray.all (·.oneCell') = true := all_oneCell_toArray (bc_one _)
      go_wp2_with (first | (refine wpList_store_mid rfl 91 (.tmp 9) (.tmp 33) rfl w2.heap.size 0 (bc S).toArray rfl rfl HT.out hs8 h1c ?_))
      have hb3 : Below w2.heap.size w2 ((w2.alloc (.cells Z8 91)).setCells w2.heap.size 0 (bc S)) := below_setCells (Nat.le_refl _) _ _ _ ((Below.refl _ _).alloc (Nat.le_refl _) _)
      have HR3 : Hid (((w2.alloc (.cells Z8 91)).setCells w2.heap.size 0 (bc S)).rangeAt w2.heap.size 0 (bc S)) := World.rangeAt_setCells_same _ _ _ _ (by have := HT.out; simpa using this)
      have HO3 : Hid (((w2.alloc (.cells Z8 91)).setCells w2.heap.size 0 (bc S)).heap[B]? = some (.cells (bc (fz zs M k)).toArray 5 (0, 0))) := by
        show _ = _; rw [hb3.block B (lt_of_block HO2.out)]; exact HO2.out
      have HB3 : Hid (Below B w ((w2.alloc (.cells Z8 91)).setCells w2.heap.size 0 (bc S))) := HB2.out.trans (hb3.mono (by have := lt_of_block HO2.out; omega))
      clear hb3 HT HO2 HB2
      simp only [Act.put]
      generalize (w2.alloc (.cells Z8 91)).setCells w2.heap.size 0 (bc S) = w3 at HR3 HO3 HB3 ⊢
      generalize w2.heap.size = G at HR3 ⊢
      have HL : Hid ((bc (fz zs M k)).length = M) := by
        show _ = _
        have := HM.out; have := HMM.out
        simp only [bc, List.length_map, fz, List.length_append, flat_len, List.length_take, List.length_replicate]; omega
      go_region_held3 (fun _ => True) (trivial) ((refine step_copy_splice (by rfl) _ _ 89 89 (by rfl) 5 Try.underlying89 size5 (if M = K8 then some ⟨B, 0, none⟩ else some ⟨B, K8, none⟩) (some ⟨G, 0, none⟩) (M - K8) (M - K8) 8 8 (by rfl) (by rfl) B K8 (bc (fz zs M k)) 5 HO3.out (bc S) (by rw [bc_len, HSl.out]; exact (Nat.min_eq_left (by omega)).symm) (fun _ => ⟨if_neg (by omega), _, rfl, range_cells HR3.out⟩) (by rw [HL.out, bc_len, HSl.out]; omega) (bc_one _) B w (HB3.out.drew) (Nat.le_refl _) ?_; intro w4 hr4 hb4))
      have HO4 : Hid (w4.heap[B]? = some (.cells (bc (fz zs M (k + 1))).toArray 5 (0, 0))) := by
        have h := hr4.out
        rw [fz_splice zs M k K8 x S (by rw [← HM.out]; exact hlt) (by rw [← HM.out]; exact HMM.out) HX.out HSS.out HK8.out] at h
        exact h
      have HB4 : Hid (Below B w w4) := hb4
      clear hr4 hb4 HO3 HB3 HR3
      go_wp2
      go_roundw
      case rel => exact ⟨k + 1, by omega, by go_num, HO4.out, HB4.out⟩
      case measure => simp [intOf]; omega
    · have he : k = m := by omega
      subst he
      have HO' : Hid (wr.heap[B]? = some (.cells (bc (flat zs)).toArray 5 (0, 0))) := by
        have h := HO.out
        rw [fz_all zs M k HM.out HMM.out] at h; exact h
      have HLf : Hid ((flat zs).length = M) := by show _ = _; rw [flat_len, ← HM.out, HMM.out]; omega
      clear HO hk hlt
      have n1 : (0 : Int) ≤ (n : Int) := by omega
      have n2 : (n : Int) ≤ (M : Int) := by omega
      by_cases hMn : M = n
      · subst hMn
        have HF : Hid (unpackT zs (M : Int) = .tuple #[.string (str ((flat zs).take M)), .int .i64 0]) := by
          show _ = _
          rw [HU.out, List.drop_of_length_le (by rw [HLf.out]; exact Nat.le_refl _)]; rfl
        have hcv := conv_block M M HO'.out (by rw [HLf.out]; exact Nat.le_refl _)
        go_wp2_with fail
        go_loop [45] (fun i => i = .int .i64 0) (fun _ => 0)
        case atStart => rfl
        case round =>
          subst hrel
          go_wp2
          go_ret2
          exact ⟨by rw [HF.out]; rfl, HB.out⟩
      · obtain ⟨D, hD⟩ : ∃ D : Nat, D = M - n := ⟨_, rfl⟩
        have d1 : n + D = M := by omega
        have HD : Hid (D = M - n) := hD
        have hcv := conv_block n M HO'.out (by rw [HLf.out]; omega)
        go_wp2_with fail
        rw [← hD]
        clear hD
        go_loop [45] (fun i => ∃ j : Nat, j ≤ D ∧ i = .int .i64 j ∧ Hid ((((flat zs).drop n).take j).all (· == 0) = true)) (fun i => D - (intOf i).toNat)
        case atStart => exact ⟨0, Nat.zero_le _, rfl, rfl⟩
        case round =>
          obtain ⟨j, hj, rfl, HA⟩ := hrel
          by_cases hjD : j < D
          · have hjl : n + j < (flat zs).length := by rw [HLf.out]; omega
            have hjd : j < ((flat zs).drop n).length := by rw [List.length_drop]; omega
            obtain ⟨y, hy⟩ : ∃ y, y = ((flat zs).drop n)[j] := ⟨_, rfl⟩
            have hcy : wr.cell? ⟨B, n + j, none⟩ = some (.int .u8 (y : Int)) := by
              rw [cell_of_row wr _ _ _ _ _ HO'.out, hy]
              simp [bc, List.getElem?_eq_getElem hjl]
            have j1 : (0 : Int) ≤ (j : Int) := by omega
            have j2 : (j : Int) < (D : Int) := by omega
            by_cases hy0 : y = 0
            · have HA' : Hid ((((flat zs).drop n).take (j + 1)).all (· == 0) = true) := by
                show _ = _
                rw [List.take_succ_eq_append_getElem hjd, List.all_append, HA.out, ← hy, hy0]; rfl
              subst hy0
              clear hy HA
              go_wp2
              go_round
              case rel => exact ⟨j + 1, by omega, by go_num, HA'.out⟩
              case measure => simp [intOf]; omega
            · have HF : Hid (unpackT zs (n : Int) = .tuple #[.string ⟨#[]⟩, .int .i64 6]) := by
                show _ = _
                rw [HU.out, if_neg]
                intro h
                have := List.all_eq_true.1 h _ (List.getElem_mem hjd)
                rw [← hy] at this
                exact hy0 (by simpa using this)
              have hyn : ((y : Int) != 0) = true := by simp; omega
              clear hy HA
              go_wp2
              go_ret2
              exact ⟨by rw [HF.out]; rfl, HB.out⟩
          · have hje : j = D := by omega
            have HF : Hid (unpackT zs (n : Int) = .tuple #[.string (str ((flat zs).take n)), .int .i64 0]) := by
              have h := HA.out
              rw [List.take_of_length_le (by rw [List.length_drop, HLf.out]; omega)] at h
              show _ = _
              rw [HU.out, if_pos h]
            subst hje
            clear HA
            go_wp2
            go_ret2
            exact ⟨by rw [HF.out]; rfl, HB.out⟩

theorem Unpack_any (v : Value) (zs : List Int) (n : Int) (w : World) (hv : SliceIs w v zs) (hz : zs.length ≤ 400) (h2 : n ≤ 9223372036854775807) :
    Calls Try.prog 66 #[v, .int .i64 n] w fun e w' => e = .returned (unpackT zs n) ∧ Below w.heap.size w w' := by
  obtain ⟨ao, cap, rfl, hc⟩ := hv
  by_cases h0 : n < 0
  · have e : unpackT zs n = .tuple #[.string ⟨#[]⟩, .int .i64 1] := by unfold unpackT; rw [if_pos (Or.inl h0)]
    rw [e]; exact Unpack_neg ao _ cap n w h0
  · obtain ⟨k, rfl⟩ := Int.eq_ofNat_of_zero_le (show 0 ≤ n by omega)
    by_cases h1 : zs.length = (k + 7) / 8
    · exact Unpack_ok zs ao cap k w hz h1 hc
    · have e : unpackT zs (k : Int) = .tuple #[.string ⟨#[]⟩, .int .i64 1] := by unfold unpackT; rw [if_pos (Or.inr (by simpa using h1))]
      rw [e]; exact Unpack_len ao _ cap k w (by omega) h1
end Go.Proofs.Ytnmchcanijkggaa.Tx
