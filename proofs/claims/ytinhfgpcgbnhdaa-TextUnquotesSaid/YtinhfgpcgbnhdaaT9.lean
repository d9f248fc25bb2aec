/- The document's Cells, cell and Pack. -/
import Derived.Test.YtinhfgpcgbnhdaaT8
namespace Go.Proofs.Ytinhfgpcgbnhdaa
open Go.RowKit

set_option maxHeartbeats 1000000 in
theorem RCells_any (n : Nat) (w : World) (h : n ≤ 100000) :
    Calls Try.prog 20 #[.int .i64 n] w fun e w' => e = .returned (.int .i64 (((n + 7) / 8 : Nat) : Int)) ∧ w = w' := by
  obtain ⟨m, hm⟩ : ∃ m : Nat, m = (n + 7) / 8 := ⟨_, rfl⟩
  have m1 : n ≤ 8 * m := by omega
  have m2 : 8 * m ≤ n + 7 := by omega
  rw [← hm]; clear hm
  go_enter Try.func20, Try.ntmps20
  go_wp2_with fail
  go_loop [3] (fun k => ∃ j : Nat, j ≤ m ∧ k = .int .i64 j) (fun k => m - (intOf k).toNat)
  case atStart => exact ⟨0, Nat.zero_le _, rfl⟩
  case round =>
    obtain ⟨j, hj, rfl⟩ := hrel
    by_cases hlt : j < m
    · have e : (8 : Int) * (j : Int) < (n : Int) := by omega
      go_wp2
      go_round
      case rel => exact ⟨j + 1, by omega, by go_num⟩
      case measure => simp [intOf]; omega
    · have he : j = m := by omega
      subst he
      have e : (n : Int) ≤ (8 : Int) * (j : Int) := by omega
      go_wp2
      go_ret
      exact ⟨rfl, rfl⟩

set_option maxHeartbeats 1000000 in
theorem RCells_neg (n : Int) (w : World) (h : n ≤ 0) :
    Calls Try.prog 20 #[.int .i64 n] w fun e w' => e = .returned (.int .i64 0) ∧ w = w' := by
  go_enter Try.func20, Try.ntmps20
  go_wp2_with fail
  go_loop [3] (fun k => k = .int .i64 0) (fun _ => 0)
  case atStart => rfl
  case round =>
    subst hrel
    go_wp2
    go_ret
    exact ⟨rfl, rfl⟩

theorem val_drop (l : List Nat) (j : Nat) (h : j < l.length) : val (l.drop j) = l.getD j 0 + 256 * val (l.drop (j + 1)) := by
  rw [List.drop_eq_getElem_cons h]; simp [val, List.getD, List.getElem?_eq_getElem h]

theorem chunk_get (s : ByteArray) (k j : Nat) (hj : j < 8) : (chunk (bl s) k).getD j 0 = (bl s).getD (8 * k + j) 0 := by
  unfold chunk
  simp only [List.getD]
  by_cases h : 8 * k + j < (bl s).length
  · rw [List.getElem?_append_left (by rw [List.length_take, List.length_drop]; omega), List.getElem?_take, if_pos hj, List.getElem?_drop]
  · rw [List.getElem?_append_right (by rw [List.length_take, List.length_drop]; omega), List.getElem?_eq_none (i := 8 * k + j) (by omega)]
    rw [List.getElem?_replicate]
    split <;> rfl

theorem bl_getD (s : ByteArray) (i : Nat) (h : i < s.size) : (bl s).getD i 0 = s[i].toNat := by
  have h' : i < (bl s).length := by rw [bl_len]; exact h
  simp only [List.getD, List.getElem?_eq_getElem h', Option.getD_some]
  exact List.getElem_map (l := s.data.toList) (f := UInt8.toNat) (i := i) (h := by simpa [bl] using h')

theorem cell_bd (s : ByteArray) (k j : Nat) : val ((chunk (bl s) k).drop j) < 18446744073709551616 := by
  have h := val_lt ((chunk (bl s) k).drop j) (fun a ha => chunk_lt s k a (List.mem_of_mem_drop ha))
  have hp : (256 : Nat) ^ ((chunk (bl s) k).drop j).length ≤ 256 ^ 8 := Nat.pow_le_pow_right (by decide) (by rw [List.length_drop, chunk_len]; omega)
  have h8 : (256 : Nat) ^ 8 = 18446744073709551616 := by decide
  omega

theorem cell_in (s : ByteArray) (k j x a : Nat) (hj : j + 1 ≤ 8) (ha : a = 8 * k) (hx : x = val ((chunk (bl s) k).drop (j + 1))) (h : a + j < s.size) :
    IntKind.u64.wrap (IntKind.u64.wrap ((x : Int) * 256) + IntKind.u64.wrap (s[a + j].toNat : Int)) = ((val ((chunk (bl s) k).drop j) : Nat) : Int) := by
  have e := val_drop (chunk (bl s) k) j (by rw [chunk_len]; omega)
  have b := cell_bd s k j
  rw [chunk_get s k j (by omega), ← ha, bl_getD s (a + j) h, ← hx] at e
  simp only [IntKind.wrap_u64]
  omega
theorem cell_out (s : ByteArray) (k j x a : Nat) (hj : j + 1 ≤ 8) (ha : a = 8 * k) (hx : x = val ((chunk (bl s) k).drop (j + 1))) (h : ¬ a + j < s.size) :
    IntKind.u64.wrap ((x : Int) * 256) = ((val ((chunk (bl s) k).drop j) : Nat) : Int) := by
  have e := val_drop (chunk (bl s) k) j (by rw [chunk_len]; omega)
  have b := cell_bd s k j
  have h0 : (bl s).getD (a + j) 0 = 0 := by simp [List.getD, List.getElem?_eq_none (show (bl s).length ≤ a + j by rw [bl_len]; omega)]
  rw [chunk_get s k j (by omega), ← ha, h0, ← hx] at e
  simp only [IntKind.wrap_u64]
  omega

set_option maxHeartbeats 1000000 in
theorem Rcell_any (s : ByteArray) (k : Nat) (w : World) (hs : s.size ≤ 3000) (hk : k ≤ 1000) :
    Calls Try.prog 29 #[.string s, .int .i64 ((8 * k : Nat) : Int)] w fun e w' => e = .returned (.int .i64 (wrap64 (cellN (bl s) k))) ∧ w = w' := by
  obtain ⟨a, ha⟩ : ∃ a : Nat, a = 8 * k := ⟨_, rfl⟩
  have HA : Hid (a = 8 * k) := ha
  have ha2 : a ≤ 8000 := by omega
  rw [← ha]; clear ha
  have HV : Hid (val (chunk (bl s) k) = cellN (bl s) k) := chunk_val _ _
  go_enter Try.func29, Try.ntmps29
  go_wp2_with fail
  go_loop [5, 6] (fun n i => ∃ j x : Nat, j ≤ 8 ∧ i = .int .i64 ((j : Int) - 1) ∧ n = .int .u64 x ∧ Hid (x = val ((chunk (bl s) k).drop j))) (fun _ i => (intOf i + 1).toNat)
  case atStart => exact ⟨8, 0, Nat.le_refl _, rfl, rfl, by show 0 = val _; rw [List.drop_of_length_le (by rw [chunk_len]; exact Nat.le_refl _)]; rfl⟩
  case round =>
    obtain ⟨j, x, hj, rfl, rfl, HX⟩ := hrel
    match j, hj, HX with
    | 0, _, HX =>
      have HE : Hid (x = cellN (bl s) k) := by show _ = _; rw [HX.out, ← HV.out]; rfl
      clear HX
      go_wp2
      go_ret
      exact ⟨by rw [HE.out]; rfl, rfl⟩
    | j + 1, hj, HX =>
      have ej : ((j + 1 : Nat) : Int) - 1 = (j : Int) := by omega
      rw [ej]
      by_cases hin : a + j < s.size
      · have HI := fun (h : a + j < s.size) => cell_in s k j x a hj HA.out HX.out h
        have HS : Hid (IntKind.u64.wrap (IntKind.u64.wrap ((x : Int) * 256) + IntKind.u64.wrap (s[a + j].toNat : Int)) = ((val ((chunk (bl s) k).drop j) : Nat) : Int)) := HI hin
        clear HX HI
        go_wp2
        go_round
        case rel => exact ⟨j, _, by omega, by go_num, by rw [HS.out], rfl⟩
        case measure => simp [intOf]
      · have HS : Hid (IntKind.u64.wrap ((x : Int) * 256) = ((val ((chunk (bl s) k).drop j) : Nat) : Int)) := cell_out s k j x a hj HA.out HX.out hin
        clear HX
        go_wp2
        go_round
        case rel => exact ⟨j, _, by omega, by go_num, by rw [HS.out], rfl⟩
        case measure => simp [intOf]

theorem Rcell_a (s : ByteArray) (k a : Nat) (ha : a = 8 * k) (w : World) (hs : s.size ≤ 3000) (hk : k ≤ 1000) :
    Calls Try.prog 29 #[.string s, .int .i64 (a : Int)] w fun e w' => e = .returned (.int .i64 (wrap64 (cellN (bl s) k))) ∧ w = w' := by
  subst ha; exact Rcell_any s k w hs hk

theorem pack_take (l : List Nat) (k : Nat) (h : k < (l.length + 7) / 8) : (packL l).take (k + 1) = (packL l).take k ++ [wrap64 (cellN l k)] := by
  have hl : k < (packL l).length := by simp [packL]; omega
  rw [List.take_succ_eq_append_getElem hl]
  simp [packL]

set_option maxHeartbeats 1000000 in
theorem RPack_any (s : ByteArray) (w : World) (hs : s.size ≤ 3000) :
    Calls Try.prog 18 #[.string s] w fun e w' => ∃ v, e = .returned v ∧ w'.ownsRow w.heap.size 2 1 v ((s.size + 7) / 8) (ic (packL (bl s))) ∧ Below w.heap.size w w' := by
  obtain ⟨i0, hi, hz0, hz1, hz2⟩ := info_parts info2
  obtain ⟨n, hn⟩ : ∃ n : Nat, n = (s.size + 7) / 8 := ⟨_, rfl⟩
  have HN : Hid (n = (s.size + 7) / 8) := hn
  have hn1 : 8 * n ≤ s.size + 7 := by omega
  have hn2 : s.size ≤ 8 * n := by omega
  rw [← hn]; clear hn
  go_enter Try.func18, Try.ntmps18
  go_wp2_with fail
  go_loopw [3, 4] (fun o i wr => ∃ k a : Nat, k ≤ n ∧ a = 8 * k ∧ i = .int .i64 a ∧ Hid (wr.ownsRow w.heap.size 2 1 o k (ic ((packL (bl s)).take k))) ∧ Hid (Below w.heap.size w wr)) (fun _ i _ => 8 * n - (intOf i).toNat)
  case atStart => exact ⟨0, 0, Nat.zero_le _, rfl, rfl, World.ownsRow_nil _ _ _ _, Below.refl _ _⟩
  case round =>
    obtain ⟨k, a, hk, ha, rfl, HO, HB⟩ := hrel
    have HA : Hid (a = 8 * k) := ha
    have hbr : w.heap.size ≤ wr.heap.size := HB.out.size
    by_cases hlt : k < n
    · have h1 : (a : Int) < (s.size : Int) := by omega
      have HS : Hid ((packL (bl s)).take (k + 1) = (packL (bl s)).take k ++ [wrap64 (cellN (bl s) k)]) := pack_take _ _ (by rw [bl_len, ← HN.out]; exact hlt)
      have h2 : k ≤ 1000 := by omega
      clear ha
      go_wp2_with (first | (go_at_call 29; refine (Rcell_a s k a HA.out _ hs h2).mono ?_; rintro e w3 ⟨rfl, rfl⟩) | (at_builtin; refine wpList_append_own _ rfl _ _ 28 rfl w.heap.size 2 i0 (.int .i64 0) 1 8 Try.underlying28 hi hz0 hz1 hz2 rfl (by decide) _ k _ rfl (HO.out.alloc _) ⟨wr.heap.size, 0, none⟩ 1 1 [.int .i64 (wrap64 (cellN (bl s) k))] rfl rfl ?_ ?_ ?_ ?_ ?_ ?_))
      · exact World.news_of_block (cs := #[.int .i64 (wrap64 (cellN (bl s) k))]) (t := 2) (fr := (0, 0)) (heap_alloc_new wr _)
      · intro u hu; simp at hu; subst hu; rfl
      · unfold maxLen; omega
      · omega
      · simp; omega
      · intro v4 w4 hown4 hgrow4 _
        have HO4 : Hid (w4.ownsRow w.heap.size 2 1 v4 (k + 1) (ic ((packL (bl s)).take (k + 1)))) := by
          have e : ic ((packL (bl s)).take (k + 1)) = ic ((packL (bl s)).take k) ++ [.int .i64 (wrap64 (cellN (bl s) k))] := by rw [HS.out]; simp [ic]
          show World.ownsRow _ _ _ _ _ _ _; rw [e]; exact hown4
        have HB4 : Hid (Below w.heap.size w w4) := HB.out.trans (((Below.refl _ _).alloc hbr _).grown hgrow4 (by simp; omega) (fun j hj => (HO.out.lt j hj).1))
        clear hown4 hgrow4 HO HB
        go_wp2
        go_roundw
        case rel => exact ⟨k + 1, a + 8, by omega, by have := HA.out; omega, by go_num, HO4.out, HB4.out⟩
        case measure => have := HA.out; simp [intOf]; omega
    · have he : k = n := by omega
      subst he
      have h1 : (s.size : Int) ≤ (a : Int) := by omega
      have HO' : Hid (wr.ownsRow w.heap.size 2 1 u3 k (ic (packL (bl s)))) := by
        have h := HO.out
        rwa [List.take_of_length_le (by simp [packL, bl_len, ← HN.out])] at h
      clear ha
      go_wp2
      go_ret
      exact ⟨_, rfl, HO'.out, HB.out⟩
end Go.Proofs.Ytinhfgpcgbnhdaa
