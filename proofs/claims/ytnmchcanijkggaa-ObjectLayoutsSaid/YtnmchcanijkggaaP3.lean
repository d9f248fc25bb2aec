/- Slots are read out of cells. -/
import Derived.Test.YtnmchcanijkggaaP2
namespace Go.Proofs.Ytnmchcanijkggaa
open Go.RowKit Go.Lib
set_option linter.unusedVariables false

theorem info38 : (Try.prog.info? 38).map (fun i => (i.zero, i.size, i.bytes)) = some (some (.agg #[.int .i64 0, .int .i64 0]), 2, 16) := by kernel_rfl

/-- The first m values that cells tell. -/
def pairsOf (zs : List Int) (m : Nat) : List (Int × Int) := (List.range m).map fun i => (zs.getD (2 * i) 0, zs.getD (2 * i + 1) 0)
/-- n values, the first k of them told. -/
def part2 (zs : List Int) (m k : Nat) : List (Int × Int) := (List.range m).map fun i => if i < k then (zs.getD (2 * i) 0, zs.getD (2 * i + 1) 0) else (0, 0)
/-- A row of values that a call has made. -/
def PRow (w : World) (base : Nat) (v : Value) (ps : List (Int × Int)) : Prop := w.ownsRow base 38 2 v ps.length (ic (flatP ps))

theorem part2_len (zs : List Int) (m k : Nat) : (part2 zs m k).length = m := by simp [part2]
theorem part2_get (zs : List Int) (m k j : Nat) (hj : j < m) : (part2 zs m k).getD j (0, 0) = if j < k then (zs.getD (2 * j) 0, zs.getD (2 * j + 1) 0) else (0, 0) := by
  simp [part2, List.getD, hj]

theorem flat_get {ps : List (Int × Int)} : ∀ (j : Nat), j < ps.length → (flatP ps).getD (2 * j) 0 = (ps.getD j (0, 0)).1 ∧ (flatP ps).getD (2 * j + 1) 0 = (ps.getD j (0, 0)).2 := by
  induction ps with
  | nil => intro j hj; exact absurd hj (by simp)
  | cons p ps ih =>
    intro j hj
    have e : flatP (p :: ps) = p.1 :: p.2 :: flatP ps := rfl
    rw [e]
    cases j with
    | zero => simp
    | succ j =>
      have := ih j (by simpa using hj)
      rw [show 2 * (j + 1) = (2 * j) + 1 + 1 by omega]
      simpa using this

theorem PRow.pairs {w : World} {base : Nat} {v : Value} {ps : List (Int × Int)} (h : PRow w base v ps) : PairsIs w v ps := by
  rcases h.2 with ⟨rfl, h0⟩ | ⟨g, cap, cur, rfl, _⟩
  · exact Or.inl ⟨none, rfl, List.eq_nil_of_length_eq_zero h0⟩
  · refine Or.inr ⟨g, 0, cap, rfl, fun i hi => ?_⟩
    have hf := flat_get (ps := ps) i hi
    have hl := flat_len ps
    rw [Nat.zero_add, World.ownsRow.cellAt h (i * 2) (by omega), World.ownsRow.cellAt h (i * 2 + 1) (by omega), ← hf.1, ← hf.2]
    have a1 : i * 2 < (flatP ps).length := by omega
    have a2 : i * 2 + 1 < (flatP ps).length := by omega
    rw [Nat.mul_comm 2 i]
    simp [ic, List.getD, List.getElem?_eq_getElem a1, List.getElem?_eq_getElem a2]
theorem PRow.mono {w : World} {base base' : Nat} {v : Value} {ps : List (Int × Int)} (h : PRow w base v ps) (hb : base' ≤ base) : PRow w base' v ps := by
  refine ⟨h.1, h.2.imp id ?_⟩
  rintro ⟨g, cap, cur, e, hg, r⟩
  exact ⟨g, cap, cur, e, Nat.le_trans hb hg, r⟩

theorem ic_flat_ext {ps : List (Int × Int)} {ys : List Value} (hl : ys.length = 2 * ps.length)
    (h : ∀ j, j < ps.length → ys[2 * j]? = some (.int .i64 (ps.getD j (0, 0)).1) ∧ ys[2 * j + 1]? = some (.int .i64 (ps.getD j (0, 0)).2)) : ys = ic (flatP ps) := by
  apply List.ext_getElem?
  intro i
  by_cases hi : i < 2 * ps.length
  · have hf := flat_get (ps := ps) (i / 2) (by omega)
    have hy := h (i / 2) (by omega)
    have hlen := flat_len ps
    have e : (ic (flatP ps))[i]? = some (.int .i64 ((flatP ps).getD i 0)) := by
      simp [ic, List.getD, List.getElem?_eq_getElem (show i < (flatP ps).length by omega)]
    rw [e]
    rcases (show i = 2 * (i / 2) ∨ i = 2 * (i / 2) + 1 by omega) with h2 | h2
    · rw [show ys[i]? = ys[2 * (i / 2)]? by rw [← h2], hy.1, ← hf.1, ← h2]
    · rw [show ys[i]? = ys[2 * (i / 2) + 1]? by rw [← h2], hy.2, ← hf.2, ← h2]
  · rw [List.getElem?_eq_none (by omega), List.getElem?_eq_none (by rw [ic_length, flat_len]; omega)]
theorem ic_flat_get {ps : List (Int × Int)} {j : Nat} (hj : j < ps.length) : (ic (flatP ps))[2 * j]? = some (.int .i64 (ps.getD j (0, 0)).1) ∧ (ic (flatP ps))[2 * j + 1]? = some (.int .i64 (ps.getD j (0, 0)).2) := by
  have hf := flat_get (ps := ps) j hj
  have hlen := flat_len ps
  rw [← hf.1, ← hf.2]
  constructor
  · simp [ic, List.getD, List.getElem?_eq_getElem (show 2 * j < (flatP ps).length by omega)]
  · simp [ic, List.getD, List.getElem?_eq_getElem (show 2 * j + 1 < (flatP ps).length by omega)]

theorem part2_zero (zs : List Int) (m : Nat) : (madeCells #[.int .i64 0, .int .i64 0] (m * 2)).toList = ic (flatP (part2 zs m 0)) := by
  have hm : ∀ i, i < m * 2 → (madeCells #[.int .i64 0, .int .i64 0] (m * 2)).toList[i]? = some (.int .i64 0) := by
    intro i hi
    rcases (show i % 2 = 0 ∨ i % 2 = 1 by omega) with h | h <;> simp [madeCells, hi, h]
  apply ic_flat_ext
  · rw [Array.length_toList, size_madeCells, part2_len]; omega
  · intro j hj
    rw [part2_len] at hj
    rw [part2_get _ _ _ _ hj, hm _ (by omega), hm _ (by omega)]
    simp
theorem part2_all (zs : List Int) (m : Nat) : part2 zs m m = pairsOf zs m := by
  unfold part2 pairsOf
  apply List.map_congr_left
  intro i hi
  rw [if_pos (List.mem_range.1 hi)]
theorem part2_set (zs : List Int) (m k : Nat) (hk : k < m) : ((ic (flatP (part2 zs m k))).set (k * 2) (.int .i64 (zs.getD (2 * k) 0))).set (k * 2 + 1) (.int .i64 (zs.getD (2 * k + 1) 0)) = ic (flatP (part2 zs m (k + 1))) := by
  have hlen : (ic (flatP (part2 zs m k))).length = 2 * m := by rw [ic_length, flat_len, part2_len]
  apply ic_flat_ext
  · rw [List.length_set, List.length_set, hlen, part2_len]
  · intro j hj
    rw [part2_len] at hj
    have hg := ic_flat_get (ps := part2 zs m k) (j := j) (by rw [part2_len]; exact hj)
    rw [part2_get _ _ _ _ hj] at hg ⊢
    by_cases hjk : j = k
    · subst hjk
      rw [if_pos (show j < j + 1 by omega)]
      constructor
      · rw [List.getElem?_set_ne (by omega), Nat.mul_comm 2 j, List.getElem?_set_self (by omega)]
      · rw [Nat.mul_comm 2 j, List.getElem?_set_self (by rw [List.length_set]; omega)]
    · rw [List.getElem?_set_ne (by omega), List.getElem?_set_ne (by omega), List.getElem?_set_ne (by omega), List.getElem?_set_ne (by omega), hg.1, hg.2]
      by_cases h : j < k
      · rw [if_pos h, if_pos (by omega)]; exact ⟨rfl, rfl⟩
      · rw [if_neg h, if_neg (by omega)]; exact ⟨rfl, rfl⟩

theorem pairsOf_snoc (zs : List Int) (k : Nat) : pairsOf zs (k + 1) = pairsOf zs k ++ [(zs.getD (2 * k) 0, zs.getD (2 * k + 1) 0)] := by
  simp [pairsOf, List.range_succ]
theorem pairs_not (zs : List Int) {k m : Nat} (hk : k < m) (hv : valB (zs.getD (2 * k) 0) (zs.getD (2 * k + 1) 0) = false) : allB (pairsOf zs m) = false := by
  rw [Bool.eq_false_iff]
  intro h
  have := List.all_eq_true.1 h (zs.getD (2 * k) 0, zs.getD (2 * k + 1) 0) (List.mem_map.2 ⟨k, List.mem_range.2 hk, rfl⟩)
  rw [hv] at this; cases this
theorem iall_get {zs : List Int} (h : Iall zs) {k : Nat} (hk : k < zs.length) : I64 (zs.getD k 0) := by
  rw [List.getD, List.getElem?_eq_getElem hk]; exact h _ (List.getElem_mem hk)
theorem SliceIs.at' {w : World} {ao : Option Addr} {n c : Nat} {zs : List Int} (h : SliceIs w (.slice ao n c) zs) (h0 : 0 < zs.length) :
    ∃ b off, ao = some ⟨b, off, none⟩ ∧ ∀ k, k < zs.length → w.cell? ⟨b, off + k, none⟩ = some (.int .i64 (zs.getD k 0)) := by
  rcases h with ⟨_, _, rfl⟩ | ⟨b, off, cap, hv, hc⟩
  · exact absurd h0 (by simp)
  · injection hv with h1
    exact ⟨b, off, h1, hc⟩

theorem _root_.Go.World.ownsRow.below {w w' : World} {base n size : Nat} {e : TypeId} {v : Value} {xs : List Value} (h : w.ownsRow base e size v n xs) (hb : Below w.heap.size w w') : w'.ownsRow base e size v n xs := by
  refine ⟨h.1, h.2.imp id ?_⟩
  rintro ⟨g, cap, cur, e1, e2, e3, r⟩
  refine ⟨g, cap, cur, e1, e2, ?_, r⟩
  rw [hb.block g (Array.getElem?_eq_some_iff.1 e3).1]; exact e3

set_option maxHeartbeats 4000000 in
theorem readSlots_any (v : Value) (zs : List Int) (m : Nat) (w : World) (hv : SliceIs w v zs) (hm : zs.length / 2 = m) (hz : zs.length ≤ 100000) (hi : Iall zs) :
    Calls Try.prog 46 #[v] w fun e w' => ((allB (pairsOf zs m) = true ∧ ∃ u, e = .returned (.tuple #[u, .bool true]) ∧ PRow w' w.heap.size u (pairsOf zs m)) ∨ (allB (pairsOf zs m) = false ∧ e = .returned (.tuple #[.slice none 0 0, .bool false]))) ∧ Below w.heap.size w w' := by
  obtain ⟨i0, hi0, hz0, hz1, hby⟩ := info_parts info38
  have HV : Hid (∀ W, Below w.heap.size w W → SliceIs W v zs) := fun W hb => hv.later hb
  obtain ⟨ao, ca, rfl⟩ := hv.form
  obtain ⟨L, hL⟩ : ∃ L, L = zs.length := ⟨_, rfl⟩
  have HL : Hid (zs.length = L ∧ Iall zs) := ⟨hL.symm, hi⟩
  rw [← hL] at HV hm hz hv ⊢
  clear hL hi hv
  have hq : (L : Int) / 2 = (m : Int) := by omega
  go_enter Try.func46, Try.ntmps46
  go_wp2_with (first | (at_make; refine wpList_make_full _ rfl _ _ 41 rfl w.heap.size 38 i0 _ 2 Try.underlying41 hi0 hz0 hz1 .i64 .i64 _ _ m rfl rfl ?_ ?_ ?_ ?_ ?_ ?_))
  · rfl
  · rfl
  · rw [hby]; omega
  · unfold maxLen; omega
  · exact Nat.le_refl _
  intro w1 hown1 hgrow1
  have HO1 : Hid (w1.ownsRow w.heap.size 38 2 (.slice (some ⟨w.heap.size, 0, none⟩) m m) m (ic (flatP (part2 zs m 0)))) := by
    show World.ownsRow _ _ _ _ _ _ _
    rw [← part2_zero]; exact hown1
  have HB1 : Hid (Below w.heap.size w w1) := (Below.refl _ _).grown hgrow1 (Nat.le_refl _) (fun k hk => by cases hk)
  clear hown1 hgrow1
  go_wp2_with fail
  go_loopw [5, 12] (fun _ i wr => ∃ k : Nat, k ≤ m ∧ i = .int .i64 k ∧ Hid (wr.ownsRow w.heap.size 38 2 (.slice (some ⟨w.heap.size, 0, none⟩) m m) m (ic (flatP (part2 zs m k)))) ∧ Hid (allB (pairsOf zs k) = true) ∧ Hid (Below w.heap.size w wr)) (fun _ i _ => m - (intOf i).toNat)
  case atStart => exact ⟨0, Nat.zero_le _, rfl, HO1.out, rfl, HB1.out⟩
  case round =>
    obtain ⟨k, hk, rfl, HO, HA, HB⟩ := hrel
    have hbr : w.heap.size ≤ wr.heap.size := HB.out.size
    by_cases hlt : k < m
    · have hlen : zs.length = L := HL.out.1
      obtain ⟨t, ht⟩ : ∃ t, t = zs.getD (2 * k) 0 := ⟨_, rfl⟩
      obtain ⟨n, hn⟩ : ∃ n, n = zs.getD (2 * k + 1) 0 := ⟨_, rfl⟩
      obtain ⟨b, off, hao, hcell⟩ := (HV.out wr HB.out).at' (by omega)
      subst hao
      obtain ⟨p, hp⟩ : ∃ p, p = 2 * k := ⟨_, rfl⟩
      obtain ⟨q, hq2⟩ : ∃ q, q = 2 * k + 1 := ⟨_, rfl⟩
      have c1 : wr.cell? ⟨b, off + p, none⟩ = some (.int .i64 t) := by rw [ht, hp]; exact hcell (2 * k) (by omega)
      have c2 : wr.cell? ⟨b, off + q, none⟩ = some (.int .i64 n) := by rw [hn, hq2]; exact hcell (2 * k + 1) (by omega)
      have k1 : (0 : Int) ≤ (k : Int) := by omega
      have k2 : (k : Int) < (m : Int) := by omega
      have k3 : (p : Int) < (L : Int) := by omega
      have k4 : (q : Int) < (L : Int) := by omega
      have k5 : (0 : Int) ≤ (p : Int) := by omega
      have k6 : (0 : Int) ≤ (q : Int) := by omega
      have e1 : 2 * (k : Int) = (p : Int) := by omega
      have e2 : (p : Int) + 1 = (q : Int) := by omega
      have HPQ : Hid (p = 2 * k ∧ q = 2 * k + 1) := ⟨hp, hq2⟩
      have HT : Hid (t = zs.getD (2 * k) 0 ∧ n = zs.getD (2 * k + 1) 0) := ⟨ht, hn⟩
      have HVl : Hid (∀ w, Calls Try.prog 23 #[AV t n] w fun e w' => e = .returned (.bool (valB t n)) ∧ Below w.heap.size w w') := by
        have hi := iall_get HL.out.2 (k := 2 * k + 1) (by omega)
        rw [← hn] at hi
        exact fun w => Value_any t n w hi.1 hi.2
      have HO2 : Hid (∀ N : Nat, (((wr.drewN N).setCell ⟨w.heap.size, k * 2, none⟩ (.int .i64 t)).setCell ⟨w.heap.size, k * 2 + 1, none⟩ (.int .i64 n)).ownsRow w.heap.size 38 2 (.slice (some ⟨w.heap.size, 0, none⟩) m m) m (ic (flatP (part2 zs m (k + 1)))) ∧
          Below w.heap.size w (((wr.drewN N).setCell ⟨w.heap.size, k * 2, none⟩ (.int .i64 t)).setCell ⟨w.heap.size, k * 2 + 1, none⟩ (.int .i64 n))) := by
        intro N
        have a0 : (wr.drewN N).ownsRow w.heap.size 38 2 (.slice (some ⟨w.heap.size, 0, none⟩) m m) m (ic (flatP (part2 zs m k))) := HO.out
        have a1 := (a0.stored (k * 2) (.int .i64 t)).1
        have a2 := (a1.stored (k * 2 + 1) (.int .i64 n)).1
        rw [ht, hn, part2_set zs m k hlt, ← ht, ← hn] at a2
        exact ⟨a2, ((below_drewN HB.out N).setCell (Nat.le_refl _) _).setCell (Nat.le_refl _) _⟩
      clear hp hq2 ht hn
      have f1 := HO.out.frozenAt (k * 2)
      have f2 := HO.out.frozenAt (k * 2 + 1)
      have g1 : wr.cell? ⟨w.heap.size, k * 2, none⟩ = some (.int .i64 0) := by
        rw [HO.out.cellAt (k * 2) (by omega), Nat.mul_comm k 2, (ic_flat_get (by rw [part2_len]; exact hlt)).1, part2_get _ _ _ _ hlt, if_neg (by omega)]
      have g2 : wr.cell? ⟨w.heap.size, k * 2 + 1, none⟩ = some (.int .i64 0) := by
        rw [HO.out.cellAt (k * 2 + 1) (by omega), Nat.mul_comm k 2, (ic_flat_get (by rw [part2_len]; exact hlt)).2, part2_get _ _ _ _ hlt, if_neg (by omega)]
      clear hcell
      go_wp2
      refine region_quiet_tail 15 (by kernel_rfl) (by kernel_rfl) ?_
      simp only [List.take_succ_cons, List.take_zero, List.drop_succ_cons, List.drop_zero]
      repeat (go_big_quiet_step (fail))
      refine wpQuiet_nil ?_
      rintro _ ⟨nq, rfl⟩
      go_wp2_with fail
      refine (HVl.out _).mono ?_
      rintro e w2 ⟨rfl, hb2⟩
      have hO := (HO2.out nq).1
      have hB := (HO2.out nq).2
      have HO3 : Hid (w2.ownsRow w.heap.size 38 2 (.slice (some ⟨w.heap.size, 0, none⟩) m m) m (ic (flatP (part2 zs m (k + 1))))) := hO.below hb2
      have HB3 : Hid (Below w.heap.size w w2) := hB.trans (hb2.mono hB.size)
      clear hb2 hO hB HO2 HVl c1 c2 f1 f2 g1 g2
      cases hvb : valB t n
      · go_wp2
        go_ret2
        exact ⟨Or.inr ⟨pairs_not zs hlt (by rw [← HT.out.1, ← HT.out.2]; exact hvb), rfl⟩, HB3.out⟩
      · have HA2 : Hid (allB (pairsOf zs (k + 1)) = true) := by
          show _ = _
          rw [pairsOf_snoc, ← HT.out.1, ← HT.out.2]
          simp only [allB, List.all_append, Bool.and_eq_true]
          exact ⟨HA.out, by simpa using hvb⟩
        go_wp2
        go_roundw
        case rel => exact ⟨k + 1, by omega, by go_num, HO3.out, HA2.out, HB3.out⟩
        case measure => simp [intOf]; omega
    · have he : k = m := by omega
      subst he
      have HE : Hid (PRow wr w.heap.size (.slice (some ⟨w.heap.size, 0, none⟩) k k) (pairsOf zs k)) := by
        have h3 := HO.out
        rw [part2_all] at h3
        show World.ownsRow _ _ _ _ _ _ _
        rw [show (pairsOf zs k).length = k by simp [pairsOf]]
        exact h3
      go_wp2
      go_ret2
      exact ⟨Or.inl ⟨HA.out, _, rfl, HE.out⟩, HB.out⟩
end Go.Proofs.Ytnmchcanijkggaa
