/- The document's Cells and Unpack of texts. -/
import Derived.Test.YtnmchcanijkggaaX4
namespace Go.Proofs.Ytnmchcanijkggaa.Tx
open Go.RowKit

theorem own_len {w : World} {base n g cap : Nat} {xs : List Nat} (h : w.ownsRow base 5 1 (.slice (some ⟨g, 0, none⟩) n cap) n (bc xs)) : xs.length = n := by
  have := h.1; simpa [bc] using this

set_option maxHeartbeats 1000000 in
theorem RCells_any (n : Nat) (w : World) (h : n ≤ 100000) :
    Calls Try.prog 67 #[.int .i64 n] w fun e w' => e = .returned (.int .i64 (((n + 7) / 8 : Nat) : Int)) ∧ w = w' := by
  obtain ⟨m, hm⟩ : ∃ m : Nat, m = (n + 7) / 8 := ⟨_, rfl⟩
  have m1 : n ≤ 8 * m := by omega
  have m2 : 8 * m ≤ n + 7 := by omega
  rw [← hm]; clear hm
  go_enter Try.func67, Try.ntmps67
  go_wp2_with fail
  go_loop [3] (fun k => ∃ j : Nat, j ≤ m ∧ k = .int .i64 j) (fun k => m - (intOf k).toNat)
  case atStart => exact ⟨0, Nat.zero_le _, rfl⟩
  case round =>
    obtain ⟨j, hj, rfl⟩ := hrel
    by_cases hlt : j < m
    · have e : (8 : Int) * (j : Int) < (n : Int) := by omega
      go_wp2
      go_round
      case rel => exact ⟨j + 1, by omega, by go_num⟩
      case measure => simp [intOf]; omega
    · have he : j = m := by omega
      subst he
      have e : (n : Int) ≤ (8 : Int) * (j : Int) := by omega
      go_wp2
      go_ret
      exact ⟨rfl, rfl⟩



set_option maxHeartbeats 2000000 in
theorem RUnpack_neg (ao : Option Addr) (m cap : Nat) (n : Int) (w : World) (h1 : n < 0) :
    Calls Try.prog 63 #[.slice ao m cap, .int .i64 n] w fun e w' => e = .returned (.tuple #[.string ⟨#[]⟩, .int .i64 1]) ∧ Below w.heap.size w w' := by
  go_enter Try.func63, Try.ntmps63
  go_wp2
  go_ret2
  exact ⟨rfl, Below.refl _ _⟩

set_option maxHeartbeats 2000000 in
theorem RUnpack_big (ao : Option Addr) (m cap n : Nat) (w : World) (hm : m ≤ 400) (h1 : 8 * m < n) :
    Calls Try.prog 63 #[.slice ao m cap, .int .i64 n] w fun e w' => e = .returned (.tuple #[.string ⟨#[]⟩, .int .i64 1]) ∧ Below w.heap.size w w' := by
  have h2 : (8 : Int) * (m : Int) < (n : Int) := by omega
  go_enter Try.func63, Try.ntmps63
  go_wp2
  go_ret2
  exact ⟨rfl, Below.refl _ _⟩

set_option maxHeartbeats 2000000 in
theorem RUnpack_len (ao : Option Addr) (m cap n : Nat) (w : World) (hm : m ≤ 400) (h0 : n ≤ 8 * m) (h1 : m ≠ (n + 7) / 8) :
    Calls Try.prog 63 #[.slice ao m cap, .int .i64 n] w fun e w' => e = .returned (.tuple #[.string ⟨#[]⟩, .int .i64 1]) ∧ Below w.heap.size w w' := by
  obtain ⟨k, hk⟩ : ∃ k : Nat, k = (n + 7) / 8 := ⟨_, rfl⟩
  have C1 : Hid (∀ w, Calls Try.prog 67 #[.int .i64 n] w fun e w' => e = .returned (.int .i64 (k : Int)) ∧ w = w') := by
    intro w; rw [hk]; exact RCells_any n w (by omega)
  have hne : ((k : Int) != (m : Int)) = true := by simp; omega
  have h2 : (n : Int) ≤ (8 : Int) * (m : Int) := by omega
  clear hk h1
  go_enter Try.func63, Try.ntmps63
  go_wp2_with (first | (go_at_call 67; refine (C1.out _).mono ?_; rintro e w' ⟨rfl, rfl⟩))
  go_ret2
  exact ⟨rfl, Below.refl _ _⟩

theorem byteN_step (u j : Nat) : u / 256 ^ j / 256 = u / 256 ^ (j + 1) := by rw [Nat.div_div_eq_div_mul, ← Nat.pow_succ]
theorem split_snoc (u j : Nat) (hj : j < 8) : (splitL u).take (j + 1) = (splitL u).take j ++ [byteN u j] := by
  have h : j < (splitL u).length := by rw [split_len]; exact hj
  rw [List.take_succ_eq_append_getElem h]; simp [splitL]

theorem conv_own_take {w : World} {base m g cap : Nat} {xs : List Nat} (n c : Nat) (h : w.ownsRow base 5 1 (.slice (some ⟨g, 0, none⟩) m cap) m (bc xs)) (hn : n ≤ xs.length) :
    (convert 89 9 (.slice (some ⟨g, 0, none⟩) n c)).run Try.prog w = .ok (.string (str (xs.take n))) w := by
  have hl := own_len h
  refine run_convert_bytes_arg w 89 5 Try.underlying89 Try.underlying5 g 0 n c ((xs.take n).map fun (n : Nat) => (n : Int)) (by simp; omega) ?_ 9 Try.underlying9
  intro i hi
  rw [Nat.zero_add, h.cellAt i (by omega)]
  simp [bc, List.getD, List.getElem?_eq_getElem (show i < xs.length by omega), hi]

set_option maxHeartbeats 4000000 in
theorem RUnpack_ok (zs : List Int) (ao : Option Addr) (cap n : Nat) (w : World) (hz : zs.length ≤ 400) (h1 : zs.length = (n + 7) / 8)
    (hc : 0 < zs.length → ∃ b off, ao = some ⟨b, off, none⟩ ∧ ∀ i, i < zs.length → w.cell? ⟨b, off + i, none⟩ = some (.int .i64 (zs.getD i 0))) :
    Calls Try.prog 63 #[.slice ao zs.length cap, .int .i64 n] w fun e w' => e = .returned (unpackT zs n) ∧ Below w.heap.size w w' := by
  obtain ⟨i0, hi, hz0, hz1, hz2⟩ := info_parts info5
  have hm1 : n ≤ 8 * zs.length := by omega
  have C1 : Hid (∀ w, Calls Try.prog 67 #[.int .i64 n] w fun e w' => e = .returned (.int .i64 (zs.length : Int)) ∧ w = w') := by
    intro w; rw [h1]; exact RCells_any n w (by omega)
  have HC : Hid (0 < zs.length → ∃ b off, ao = some ⟨b, off, none⟩ ∧ ∀ i, i < zs.length → w.cell? ⟨b, off + i, none⟩ = some (.int .i64 (zs.getD i 0))) := hc
  have HU : Hid (unpackT zs n = if ((flat zs).drop n).all (· == 0) then .tuple #[.string (str ((flat zs).take n)), .int .i64 0] else .tuple #[.string ⟨#[]⟩, .int .i64 6]) := by
    show _ = _
    unfold unpackT
    rw [if_neg]
    · rfl
    · rintro (h | h)
      · omega
      · exact h (by simpa using h1)
  obtain ⟨m, hm⟩ : ∃ m : Nat, m = zs.length := ⟨_, rfl⟩
  have HM : Hid (m = zs.length) := hm
  rw [← hm] at C1 hm1 hz ⊢
  have h2 : (n : Int) ≤ (8 : Int) * (m : Int) := by omega
  clear hm h1 hc
  go_enter Try.func63, Try.ntmps63
  go_wp2_with (first | (go_at_call 67; refine (C1.out _).mono ?_; rintro e w' ⟨rfl, rfl⟩))
  go_loopw [6, 7] (fun v i wr => ∃ k : Nat, k ≤ m ∧ i = .int .i64 k ∧ Hid (wr.ownsRow w.heap.size 5 1 v (8 * k) (bc (flat (zs.take k)))) ∧ Hid (Below w.heap.size w wr)) (fun _ i _ => m - (intOf i).toNat)
  case atStart => exact ⟨0, Nat.zero_le _, rfl, World.ownsRow_nil _ _ _ _, Below.refl _ _⟩
  case round =>
    obtain ⟨k, hk, rfl, HO, HB⟩ := hrel
    by_cases hlt : k < m
    · obtain ⟨b, off, rfl, hg⟩ := HC.out (by rw [← HM.out]; omega)
      obtain ⟨x, hx⟩ : ∃ x, x = zs.getD k 0 := ⟨_, rfl⟩
      have HX : Hid (x = zs.getD k 0) := hx
      have hcl : wr.cell? ⟨b, off + k, none⟩ = some (.int .i64 x) := by
        rw [hx]; exact cell_later HB.out (hg k (by rw [← HM.out]; exact hlt))
      clear hg hx
      obtain ⟨u, hu⟩ : ∃ u : Nat, (u : Int) = IntKind.u64.wrap x := ⟨(IntKind.u64.wrap x).toNat, by rw [IntKind.wrap_u64]; omega⟩
      have HUU : Hid ((IntKind.u64.wrap x).toNat = u) := by show _ = _; rw [← hu]; rfl
      have hu1 : IntKind.u64.wrap x = (u : Int) := hu.symm
      have HU64 : Hid (u < 18446744073709551616) := by show _ < _; rw [IntKind.wrap_u64] at hu; omega
      clear hu
      have k1 : (0 : Int) ≤ (k : Int) := by omega
      have k2 : (k : Int) < (m : Int) := by omega
      have HFS : Hid (flat (zs.take (k + 1)) = flat (zs.take k) ++ splitL u) := by
        show _ = _; rw [flat_snoc zs k (by rw [← HM.out]; exact hlt), ← HX.out, HUU.out]
      go_wp2_with fail
      go_loopw [6, 8, 9] (fun v x i wr => ∃ j y : Nat, j ≤ 8 ∧ i = .int .i64 j ∧ x = .int .u64 y ∧ Hid (y = u / 256 ^ j) ∧ Hid (wr.ownsRow w.heap.size 5 1 v (8 * k + j) (bc (flat (zs.take k) ++ (splitL u).take j))) ∧ Hid (Below w.heap.size w wr)) (fun _ _ i _ => 8 - (intOf i).toNat)
      case atStart => exact ⟨0, u, Nat.zero_le _, rfl, rfl, by show u = u / 1; rw [Nat.div_one], by show World.ownsRow _ _ _ _ _ _ _; rw [List.take_zero, List.append_nil]; exact HO.out, HB.out⟩
      case round =>
        clear HO HB hcl
        obtain ⟨j, y, hj, rfl, rfl, HY, HO, HB⟩ := hrel
        have hbr : w.heap.size ≤ wr.heap.size := HB.out.size
        by_cases hj8 : j < 8
        · have HY' : Hid (y / 256 = u / 256 ^ (j + 1)) := by show _ = _; rw [HY.out, byteN_step]
          obtain ⟨c, hc⟩ : ∃ c : Nat, c = y % 256 := ⟨_, rfl⟩
          have HCc : Hid (c = byteN u j) := by show _ = _; rw [hc, HY.out]; rfl
          have c1 : (y : Int) % 256 = (c : Int) := by omega
          have c2 : (c : Int) % 256 = (c : Int) := by omega
          obtain ⟨q, hq⟩ : ∃ q : Nat, q = y / 256 := ⟨_, rfl⟩
          have c3 : IntKind.u64.wrap ((y : Int) / 256) = (q : Int) := by
            have h1 : y ≤ u := by rw [HY.out]; exact Nat.div_le_self _ _
            have h2 := HU64.out
            rw [IntKind.wrap_u64]; omega
          have HY'' : Hid (q = u / 256 ^ (j + 1)) := by show _ = _; rw [hq, HY'.out]
          clear hc HY hq HY'
          go_wp2_with (first | (at_builtin; refine wpList_append_own _ rfl _ _ 89 rfl w.heap.size 5 i0 (.int .u8 0) 1 1 Try.underlying89 hi hz0 hz1 hz2 rfl (by decide) _ (8 * k + j) _ rfl (HO.out.alloc _) ⟨wr.heap.size, 0, none⟩ 1 1 [.int .u8 c] rfl rfl ?_ ?_ ?_ ?_ ?_ ?_))
          · exact World.news_of_block (cs := #[.int .u8 c]) (t := 5) (fr := (0, 0)) (heap_alloc_new wr _)
          · exact bc_one [c]
          · unfold maxLen; omega
          · omega
          · simp; omega
          · intro v4 w4 hown4 hgrow4 _
            have HO4 : Hid (w4.ownsRow w.heap.size 5 1 v4 (8 * k + (j + 1)) (bc (flat (zs.take k) ++ (splitL u).take (j + 1)))) := by
              have e : bc (flat (zs.take k) ++ (splitL u).take (j + 1)) = bc (flat (zs.take k) ++ (splitL u).take j) ++ [.int .u8 c] := by
                rw [split_snoc u j hj8, ← HCc.out, ← List.append_assoc, bc_append]; rfl
              show World.ownsRow _ _ _ _ _ _ _; rw [e]; exact hown4
            have HB4 : Hid (Below w.heap.size w w4) := HB.out.trans (((Below.refl _ _).alloc hbr _).grown hgrow4 (by simp; omega) (fun q hq => (HO.out.lt q hq).1))
            clear hown4 hgrow4 HO HB
            go_wp2
            go_roundw
            case rel => exact ⟨j + 1, q, by omega, by go_num, rfl, HY''.out, HO4.out, HB4.out⟩
            case measure => simp [intOf]; omega
        · have he : j = 8 := by omega
          subst he
          have HO' : Hid (wr.ownsRow w.heap.size 5 1 u6 (8 * (k + 1)) (bc (flat (zs.take (k + 1))))) := by
            show World.ownsRow _ _ _ _ _ _ _
            rw [HFS.out]
            have h := HO.out
            rw [List.take_of_length_le (l := splitL u) (by rw [split_len]; exact Nat.le_refl _)] at h
            exact h
          clear HO HY
          go_wp2
          go_roundw
          case rel => exact ⟨k + 1, by omega, by go_num, HO'.out, HB.out⟩
          case measure => simp [intOf]; omega
    · have he : k = m := by omega
      subst he
      have HO' : Hid (wr.ownsRow w.heap.size 5 1 u6 (8 * k) (bc (flat zs))) := by
        have h := HO.out
        rw [List.take_of_length_le (by rw [← HM.out]; exact Nat.le_refl _)] at h; exact h
      have HLf : Hid ((flat zs).length = 8 * k) := by show _ = _; rw [flat_len, ← HM.out]
      clear HO hk hlt
      rcases HO'.out.2 with ⟨rfl, h0⟩ | ⟨g, cp, cur, rfl, _, _, hcp, _⟩
      · have hk0 : k = 0 := by omega
        subst hk0
        have hn0 : n = 0 := by omega
        subst hn0
        have HF : Hid (unpackT zs 0 = .tuple #[.string ⟨#[]⟩, .int .i64 0]) := by
          show unpackT zs ((0 : Nat) : Int) = _
          have hfz : flat zs = [] := List.eq_nil_of_length_eq_zero (by rw [HLf.out])
          rw [HU.out, hfz]; rfl
        have hcv := run_convert_bytes_nil (P := Try.prog) wr 89 5 Try.underlying89 Try.underlying5 0 0 9 Try.underlying9
        go_wp2_with fail
        go_loop [10] (fun i => i = .int .i64 0) (fun _ => 0)
        case atStart => rfl
        case round =>
          subst hrel
          go_wp2
          go_ret2
          exact ⟨by rw [HF.out]; rfl, HB.out⟩
      · have hcv := conv_own_take n cp HO'.out (by rw [HLf.out]; exact hm1)
        obtain ⟨M, hM⟩ : ∃ M : Nat, M = 8 * k := ⟨_, rfl⟩
        rw [← hM] at HO' HLf hm1 hcp ⊢
        have hM4 : M ≤ 3200 := by omega
        clear hM
        have n1 : (0 : Int) ≤ (n : Int) := by omega
        have n2 : (n : Int) ≤ (M : Int) := by omega
        have n3 : (n : Int) ≤ (cp : Int) := by omega
        go_wp2_with fail
        go_loop [10] (fun i => ∃ j : Nat, n ≤ j ∧ j ≤ M ∧ i = .int .i64 j ∧ Hid ((((flat zs).drop n).take (j - n)).all (· == 0) = true)) (fun i => M - (intOf i).toNat)
        case atStart => exact ⟨n, Nat.le_refl _, hm1, rfl, by show _ = true; rw [Nat.sub_self]; rfl⟩
        case round =>
          obtain ⟨j, hnj, hj, rfl, HA⟩ := hrel
          by_cases hjD : j < M
          · have hjl : j < (flat zs).length := by rw [HLf.out]; omega
            have hjd : j - n < ((flat zs).drop n).length := by rw [List.length_drop]; omega
            obtain ⟨y, hy⟩ : ∃ y, y = ((flat zs).drop n)[j - n] := ⟨_, rfl⟩
            have hcy : wr.cell? ⟨g, j, none⟩ = some (.int .u8 (y : Int)) := by
              have e : (flat zs)[j] = y := by simp only [hy, List.getElem_drop, show n + (j - n) = j by omega]
              rw [HO'.out.cellAt j (by omega)]
              simp [bc, List.getElem?_eq_getElem hjl, e]
            have j1 : (0 : Int) ≤ (j : Int) := by omega
            have j2 : (j : Int) < (M : Int) := by omega
            by_cases hy0 : y = 0
            · have HA' : Hid ((((flat zs).drop n).take (j + 1 - n)).all (· == 0) = true) := by
                show _ = _
                rw [show j + 1 - n = j - n + 1 by omega, List.take_succ_eq_append_getElem hjd, List.all_append, HA.out, ← hy, hy0]; rfl
              subst hy0
              clear hy HA
              go_wp2
              go_round
              case rel => exact ⟨j + 1, by omega, by omega, by go_num, HA'.out⟩
              case measure => simp [intOf]; omega
            · have HF : Hid (unpackT zs (n : Int) = .tuple #[.string ⟨#[]⟩, .int .i64 6]) := by
                show _ = _
                rw [HU.out, if_neg]
                intro h
                have := List.all_eq_true.1 h _ (List.getElem_mem hjd)
                rw [← hy] at this
                exact hy0 (by simpa using this)
              have hyn : ((y : Int) != 0) = true := by simp; omega
              clear hy HA
              go_wp2
              go_ret2
              exact ⟨by rw [HF.out]; rfl, HB.out⟩
          · have hje : j = M := by omega
            have HF : Hid (unpackT zs (n : Int) = .tuple #[.string (str ((flat zs).take n)), .int .i64 0]) := by
              have h := HA.out
              rw [List.take_of_length_le (by rw [List.length_drop, HLf.out]; omega)] at h
              show _ = _
              rw [HU.out, if_pos h]
            subst hje
            clear HA
            go_wp2
            go_ret2
            exact ⟨by rw [HF.out]; rfl, HB.out⟩

theorem RUnpack_any (v : Value) (zs : List Int) (n : Int) (w : World) (hv : SliceIs w v zs) (hz : zs.length ≤ 400) :
    Calls Try.prog 63 #[v, .int .i64 n] w fun e w' => e = .returned (unpackT zs n) ∧ Below w.heap.size w w' := by
  obtain ⟨ao, cap, rfl, hc⟩ := hv
  by_cases h0 : n < 0
  · have e : unpackT zs n = .tuple #[.string ⟨#[]⟩, .int .i64 1] := by unfold unpackT; rw [if_pos (Or.inl h0)]
    rw [e]; exact RUnpack_neg ao _ cap n w h0
  · obtain ⟨k, rfl⟩ := Int.eq_ofNat_of_zero_le (show 0 ≤ n by omega)
    by_cases h1 : zs.length = (k + 7) / 8
    · exact RUnpack_ok zs ao cap k w hz h1 hc
    · have e : unpackT zs (k : Int) = .tuple #[.string ⟨#[]⟩, .int .i64 1] := by unfold unpackT; rw [if_pos (Or.inr (by simpa using h1))]
      rw [e]
      by_cases h2 : 8 * zs.length < k
      · exact RUnpack_big ao _ cap k w hz h2
      · exact RUnpack_len ao _ cap k w hz (by omega) h1
end Go.Proofs.Ytnmchcanijkggaa.Tx
