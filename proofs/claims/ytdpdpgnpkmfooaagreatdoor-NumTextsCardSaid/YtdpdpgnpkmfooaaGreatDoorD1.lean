/- The document's small readers: all digits, the first point. -/
import Derived.Test.YtdpdpgnpkmfooaaGreatDoorB4
namespace Go.Proofs.YtdpdpgnpkmfooaaGreatDoor
open Go.RowKit

theorem dgI (c : UInt8) : inB dec c = true ↔ (48 : Int) ≤ (c.toNat : Int) ∧ (c.toNat : Int) ≤ 57 := by
  rw [inD, Bool.and_eq_true, decide_eq_true_eq, decide_eq_true_eq]; omega

set_option maxHeartbeats 1000000 in
theorem RAll_any (s : ByteArray) (w : World) (hs : s.size ≤ 140737488351232) :
    Calls Tryz.prog 60 #[.string s] w fun e w' => e = .returned (.bool (allB s dec)) ∧ w' = w := by
  go_enter Tryz.func60, Tryz.ntmps60
  go_wp2_with fail
  go_loop [3] (fun i => ∃ k : Nat, k ≤ s.size ∧ i = .int .i64 k ∧ Hid ((s.data.toList.take k).all (inB dec) = true)) (fun i => s.size - (intOf i).toNat)
  case atStart => exact ⟨0, Nat.zero_le _, rfl, rfl⟩
  case round =>
    obtain ⟨k, hk, rfl, ha⟩ := hrel
    by_cases hlt : k < s.size
    · have HT : Hid (s.data.toList.take (k + 1) = s.data.toList.take k ++ [s[k]]) := take_snoc s k hlt
      by_cases hn : inB dec s[k] = true
      · have hd := (dgI s[k]).1 hn
        have h1 : ¬ ((s[k].toNat : Int) < 48) := by omega
        have h2 : ¬ ((57 : Int) < (s[k].toNat : Int)) := by omega
        have HN : Hid (inB dec s[k] = true) := hn
        clear hd hn
        go_wp2
        go_round
        case rel => exact ⟨k + 1, by omega, by go_num, by show List.all _ _ = true; rw [HT.out, List.all_append, ha.out]; simp [HN.out]⟩
        case measure => simp [intOf]; omega
      · have HA : Hid (allB s dec = false) := all_not hlt (by simpa using hn)
        have hd : (s[k].toNat : Int) < 48 ∨ (57 : Int) < (s[k].toNat : Int) := by
          have := mt (dgI s[k]).2 hn; omega
        clear hn
        by_cases h1 : (s[k].toNat : Int) < 48
        · clear hd
          go_wp2
          go_ret
          exact ⟨by rw [HA.out]; rfl, rfl⟩
        · have h2 : (57 : Int) < (s[k].toNat : Int) := by omega
          clear hd
          go_wp2
          go_ret
          exact ⟨by rw [HA.out]; rfl, rfl⟩
    · have he : k = s.size := by omega
      subst he
      have hA : (s.data.toList.take s.size).all (inB dec) = true := ha.out
      rw [List.take_of_length_le (by simp)] at hA
      have HA : Hid (allB s dec = decide (0 < s.size)) := by
        show allB s dec = _; unfold allB; rw [hA, Bool.true_and, Lib.size_eq]
        cases s.data.toList with
        | nil => rfl
        | cons a l =>
          have : 0 < (a :: l).length := by rw [List.length_cons]; omega
          rw [decide_eq_true this]; rfl
      clear ha hA
      go_wp2
      go_ret
      exact ⟨by rw [HA.out]; rfl, rfl⟩

theorem ixB_at : ∀ (l : List UInt8) (c : UInt8) (k : Nat) (h : k < l.length), (∀ x ∈ l.take k, x ≠ c) → l[k] = c → Lib.indexByte l c = k
  | [], _, _, h, _, _ => by simp at h
  | b :: l, c, 0, _, _, h2 => by
    have : b = c := h2
    unfold Lib.indexByte; simp [this]
  | b :: l, c, k + 1, h, h1, h2 => by
    have hb : b ≠ c := h1 b (by simp)
    have hr := ixB_at l c k (by simpa using h) (fun x hx => h1 x (by simp [hx])) (by simpa using h2)
    unfold Lib.indexByte
    rw [if_neg (by simpa using hb), hr, if_neg (by simp)]; simp

set_option maxHeartbeats 1000000 in
theorem RPoint_any (s : ByteArray) (w : World) (hs : s.size ≤ 140737488351232) :
    Calls Tryz.prog 62 #[.string s] w fun e w' => e = .returned (.int .i64 (Lib.indexByte s.data.toList 46)) ∧ w' = w := by
  go_enter Tryz.func62, Tryz.ntmps62
  go_wp2_with fail
  go_loop [3] (fun i => ∃ k : Nat, k ≤ s.size ∧ i = .int .i64 k ∧ Hid (∀ x ∈ s.data.toList.take k, x ≠ 46)) (fun i => s.size - (intOf i).toNat)
  case atStart => exact ⟨0, Nat.zero_le _, rfl, fun x hx => by simp at hx⟩
  case round =>
    obtain ⟨k, hk, rfl, ha⟩ := hrel
    by_cases hlt : k < s.size
    · have HT : Hid (s.data.toList.take (k + 1) = s.data.toList.take k ++ [s[k]]) := take_snoc s k hlt
      by_cases hn : s[k] = 46
      · have h1 : (s[k].toNat : Int) = 46 := by rw [hn]; rfl
        have HA : Hid (Lib.indexByte s.data.toList 46 = (k : Int)) := ixB_at _ _ k (by simpa using hlt) ha.out hn
        clear hn
        go_wp2
        go_ret
        exact ⟨by rw [HA.out]; rfl, rfl⟩
      · have h1 : ¬ (s[k].toNat : Int) = 46 := by
          intro h; apply hn; apply UInt8.toNat_inj.1; show s[k].toNat = 46; omega
        have HN : Hid (s[k] ≠ 46) := hn
        clear hn
        go_wp2
        go_round
        case rel =>
          refine ⟨k + 1, by omega, by go_num, fun x hx => ?_⟩
          rw [HT.out, List.mem_append, List.mem_singleton] at hx
          rcases hx with hx | hx
          · exact ha.out x hx
          · rw [hx]; exact HN.out
        case measure => simp [intOf]; omega
    · have he : k = s.size := by omega
      subst he
      have HA : Hid (Lib.indexByte s.data.toList 46 = -1) := by
        refine ixB_none _ _ fun x hx => ha.out x ?_
        rw [List.take_of_length_le (by simp)]; exact hx
      clear ha
      go_wp2
      go_ret
      exact ⟨by rw [HA.out]; rfl, rfl⟩
end Go.Proofs.YtdpdpgnpkmfooaaGreatDoor
