/- What is written is read back: plain facts on digits. -/
import Derived.Test.YtdpdpgnpkmfooaaGreatDoorB3
import Derived.Lib.ItoaLen
namespace Go.Proofs.YtdpdpgnpkmfooaaGreatDoor
open Go.RowKit

theorem dgt (d : Nat) (h : d < 10) : (UInt8.ofNat (48 + d)).toNat = 48 + d := by
  rw [UInt8.toNat_ofNat']; omega

theorem pU_append (M : Nat) : ∀ (l : List UInt8) (acc a : Nat) (r : List UInt8), Lib.parseUintM M acc l = .ok a → Lib.parseUintM M acc (l ++ r) = Lib.parseUintM M a r
  | [], acc, a, r, h => by simp only [Lib.parseUintM, Lib.NumEnd.ok.injEq] at h; rw [h]; rfl
  | c :: l, acc, a, r, h => by
    rw [List.cons_append]
    unfold Lib.parseUintM at h
    conv => lhs; unfold Lib.parseUintM
    split at h
    · rename_i h1
      rw [if_pos h1]
      split at h
      · cases h
      · rename_i h2
        rw [if_neg h2]
        split at h
        · cases h
        · rename_i h3
          rw [if_neg h3]
          exact pU_append M l _ a r h
    · cases h

theorem pU_dec (u : Nat) (h : u < 18446744073709551616) : Lib.parseUintM 18446744073709551615 0 (Lib.decDigits u) = .ok u := by
  induction u using Nat.strongRecOn with
  | _ u ih =>
    by_cases h10 : u < 10
    · rw [Lib.decDigits, dif_pos h10]
      unfold Lib.parseUintM
      rw [dgt u h10, if_pos (by omega), if_neg (by omega), if_neg (by omega)]
      show Lib.NumEnd.ok _ = _
      congr 1; omega
    · rw [Lib.decDigits, dif_neg h10, pU_append _ _ _ (u / 10) _ (ih (u / 10) (by omega) (by omega))]
      unfold Lib.parseUintM
      rw [dgt (u % 10) (by omega), if_pos (by omega), if_neg (by omega), if_neg (by omega)]
      show Lib.NumEnd.ok _ = _
      congr 1; omega

theorem dec_mem (u : Nat) : ∀ c ∈ Lib.decDigits u, 48 ≤ c.toNat ∧ c.toNat ≤ 57 := by
  induction u using Nat.strongRecOn with
  | _ u ih =>
    intro c hc
    by_cases h10 : u < 10
    · rw [Lib.decDigits, dif_pos h10, List.mem_singleton] at hc
      rw [hc, dgt u h10]; omega
    · rw [Lib.decDigits, dif_neg h10, List.mem_append, List.mem_singleton] at hc
      rcases hc with hc | hc
      · exact ih (u / 10) (by omega) c hc
      · rw [hc, dgt (u % 10) (by omega)]; omega
theorem dec_ne (u : Nat) : Lib.decDigits u ≠ [] := by
  rw [Lib.decDigits]; split <;> simp

theorem pI_itoa (n : Int) (h1 : -9223372036854775808 ≤ n) (h2 : n ≤ 9223372036854775807) : Lib.parseIntB 64 (Lib.itoa n) = .ok n := by
  have hU : ∀ u : Nat, u < 18446744073709551616 → Lib.parseUintB 64 (Lib.decDigits u) = .ok u := fun u hu => by
    unfold Lib.parseUintB
    rw [if_neg (dec_ne u)]
    exact pU_dec u hu
  unfold Lib.itoa
  by_cases hn : n < 0
  · rw [if_pos hn]
    unfold Lib.parseIntB
    have e45 : (45 : UInt8).toNat = 45 := rfl
    simp only [e45, or_true, if_true, hU n.natAbs (by omega), not_true, false_and, if_false, true_and]
    rw [if_neg (by omega)]
    congr 1; omega
  · rw [if_neg hn]
    have hm := dec_mem n.toNat
    have hu := hU n.toNat (by omega)
    cases hl : Lib.decDigits n.toNat with
    | nil => exact absurd hl (dec_ne _)
    | cons c r =>
      rw [hl] at hu hm
      have hc := hm c (List.mem_cons_self ..)
      have c1 : ¬ c.toNat = 43 := by omega
      have c2 : ¬ c.toNat = 45 := by omega
      unfold Lib.parseIntB
      simp only [c1, c2, or_self, if_false, hu, not_false_eq_true, true_and, false_and]
      rw [if_neg (by omega)]
      congr 1; omega

theorem ixB_none : ∀ (l : List UInt8) (c : UInt8), (∀ x ∈ l, x ≠ c) → Lib.indexByte l c = -1
  | [], _, _ => rfl
  | b :: l, c, h => by
    unfold Lib.indexByte
    rw [if_neg (by simpa using h b (List.mem_cons_self ..)), ixB_none l c (fun x hx => h x (List.mem_cons_of_mem _ hx))]
    rfl

theorem inD_nat : ∀ n, n < 256 → inB dec (UInt8.ofNat n) = (decide (48 ≤ n) && decide (n ≤ 57)) := by decide +kernel
theorem inD (c : UInt8) : inB dec c = (decide (48 ≤ c.toNat) && decide (c.toNat ≤ 57)) := by
  have h := inD_nat c.toNat (UInt8.toNat_lt c)
  have e : UInt8.ofNat c.toNat = c := UInt8.ofNat_toNat
  rwa [e] at h

/-- The text of an int. -/
def txtI (n : Int) : ByteArray := ⟨(Lib.itoa n).toArray⟩
theorem txtI_list (n : Int) : (txtI n).data.toList = Lib.itoa n := by simp [txtI]

theorem txtI_unsg (n : Int) : unsg (txtI n) = ⟨(Lib.decDigits n.natAbs).toArray⟩ := by
  unfold unsg
  rw [txtI_list]
  unfold Lib.itoa Lib.trimPrefix Lib.hasPrefix
  by_cases hn : n < 0
  · rw [if_pos hn]
    rfl
  · rw [if_neg hn]
    have e : n.toNat = n.natAbs := by omega
    rw [e]
    have hm := dec_mem n.natAbs
    cases hl : Lib.decDigits n.natAbs with
    | nil => exact absurd hl (dec_ne _)
    | cons c r =>
      rw [hl] at hm
      have hc := hm c (List.mem_cons_self ..)
      have hne : ((45 : UInt8) == c) = false := by
        rw [beq_eq_false_iff_ne]; intro h; rw [← h] at hc; exact absurd hc.1 (by decide)
      have : dash.data.toList.isPrefixOf (c :: r) = false := by
        show ((45 : UInt8) == c && _) = false
        rw [hne]; rfl
      rw [this]; rfl

theorem digs_cut (u : Nat) : cutA ⟨(Lib.decDigits u).toArray⟩ 46 = ⟨(Lib.decDigits u).toArray⟩ ∧ cutB ⟨(Lib.decDigits u).toArray⟩ 46 = false := by
  have h : Lib.indexByte ((⟨(Lib.decDigits u).toArray⟩ : ByteArray).data.toList) 46 = -1 := by
    refine ixB_none _ _ fun x hx => ?_
    have hx' : x ∈ Lib.decDigits u := by simpa using hx
    intro he
    have := dec_mem u x hx'
    rw [he] at this
    exact absurd this.1 (by decide)
  unfold cutA cutB
  rw [h]
  exact ⟨rfl, rfl⟩
theorem digs_all (u : Nat) : allB ⟨(Lib.decDigits u).toArray⟩ dec = true := by
  unfold allB
  rw [Bool.and_eq_true, List.all_eq_true]
  constructor
  · intro c hc
    have := dec_mem u c (by simpa using hc)
    rw [inD, decide_eq_true this.1, decide_eq_true this.2]; rfl
  · have := dec_ne u
    cases hl : Lib.decDigits u with
    | nil => exact absurd hl this
    | cons a l => rfl

theorem txtI_pnt (n : Int) : pnt (txtI n) = false := by unfold pnt; rw [txtI_unsg]; exact (digs_cut _).2
theorem txtI_bad (n : Int) : bad (txtI n) = false := by
  unfold bad
  rw [txtI_pnt]
  unfold ahd
  rw [txtI_unsg, (digs_cut _).1, digs_all]; rfl
theorem txtI_pre (n : Int) : Lib.hasPrefix (txtI n).data.toList zf.data.toList = false := by
  rw [txtI_list]
  cases h : Lib.hasPrefix (Lib.itoa n) zf.data.toList with
  | false => rfl
  | true =>
    exfalso
    unfold Lib.hasPrefix at h
    have hp := (List.isPrefixOf_iff_prefix.1 h).subset
    have h102 : (102 : UInt8) ∈ Lib.itoa n := hp (by decide)
    unfold Lib.itoa at h102
    split at h102
    · rw [List.mem_cons] at h102
      rcases h102 with h | h
      · exact absurd h (by decide)
      · exact absurd (dec_mem _ _ h).2 (by decide)
    · exact absurd (dec_mem _ _ h102).2 (by decide)
theorem txtI_size (n : Int) (h1 : -9223372036854775808 ≤ n) (h2 : n ≤ 9223372036854775807) : (txtI n).size ≤ 21 := by
  rw [Lib.size_eq, txtI_list]
  unfold Lib.itoa
  split
  · rw [List.length_cons, Lib.decDigits_length]
    have := Lib.nDigits_le20 n.natAbs (by omega); omega
  · rw [Lib.decDigits_length]
    have := Lib.nDigits_le20 n.toNat (by omega); omega

theorem hexD_lot : ∀ d, d < 16 → hx (hexD d).toNat = d ∧ isHex (hexD d) = true := by decide +kernel
theorem hexF_low (U : Nat) : ∀ (k acc : Nat), (hexLow U k).foldl (fun n c => n * 16 + hx c.toNat) acc = acc * 16 ^ k + U % 16 ^ k
  | 0, acc => by simp [hexLow, Nat.mod_one]
  | k + 1, acc => by
    have hd := (hexD_lot (U / 16 ^ k % 16) (Nat.mod_lt _ (by decide))).1
    show (hexLow U k).foldl _ (acc * 16 + hx (hexD (U / 16 ^ k % 16)).toNat) = _
    rw [hexF_low U k, hd, Nat.mod_pow_succ, Nat.pow_succ, Nat.add_mul, Nat.mul_assoc acc 16, Nat.mul_comm 16 (16 ^ k), Nat.mul_comm (U / 16 ^ k % 16)]
    omega
theorem hexV_low (U : Nat) (h : U < 18446744073709551616) : hexV (hexLow U 16) = U := by
  unfold hexV
  rw [hexF_low, Nat.mod_eq_of_lt (by simpa using h)]
  simp
theorem hexLow_hex (U : Nat) : ∀ k, ∀ c ∈ hexLow U k, isHex c = true
  | 0, c, h => by simp [hexLow] at h
  | k + 1, c, h => by
    have h' : c ∈ hexD (U / 16 ^ k % 16) :: hexLow U k := h
    rw [List.mem_cons] at h'
    rcases h' with h' | h'
    · rw [h']; exact (hexD_lot _ (Nat.mod_lt _ (by decide))).2
    · exact hexLow_hex U k c h'

theorem txtF_pre (U : Nat) : Lib.hasPrefix (txtF U).data.toList zf.data.toList = true := by
  unfold txtF; rfl
theorem txtF_off (U : Nat) : offm (txtF U) = ⟨(hexLow U 16).toArray⟩ := by
  unfold offm Lib.trimPrefix
  rw [txtF_pre]
  rfl
theorem txtF_size (U : Nat) : (txtF U).size = 18 := by
  rw [Lib.size_eq]; unfold txtF; simp [hexLow_length]
theorem txtF_bits (n : Int) (h1 : -9223372036854775808 ≤ n) (h2 : n ≤ 9223372036854775807) (hi : isNum 3 n = true) : bitsT (offm (txtF (B n))) = .tuple #[AV 3 n, .int .i64 0] := by
  have hV : hexV (hexLow (B n) 16) = B n := hexV_low _ (B_lt n)
  have hb := bi_B h1 h2
  unfold bi at hb
  have hL : (⟨(hexLow (B n) 16).toArray⟩ : ByteArray).data.toList = hexLow (B n) 16 := by simp
  have hz : (⟨(hexLow (B n) 16).toArray⟩ : ByteArray).size = 16 := by rw [Lib.size_eq, hL, hexLow_length]
  rw [txtF_off]
  unfold bitsT
  rw [hL, hV, hb, if_pos ⟨hz, allB_of_hex _ (by omega) (by rw [hL]; exact hexLow_hex _ _), hi⟩]
end Go.Proofs.YtdpdpgnpkmfooaaGreatDoor
