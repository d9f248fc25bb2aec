/- The document's bits. -/
import Derived.Test.YtdpdpgnpkmfooaaGreatDoorD1
namespace Go.Proofs.YtdpdpgnpkmfooaaGreatDoor
open Go.RowKit

theorem hexV_take (s : ByteArray) (k : Nat) (h : k < s.size) : hexV (s.data.toList.take (k + 1)) = hexV (s.data.toList.take k) * 16 + hx s[k].toNat := by
  rw [take_snoc s k h, hexV_snoc]

/-- What the document's hex gives. -/
def hexR (s : ByteArray) : Value := if allB s hexd then .tuple #[.int .u64 (hexV s.data.toList), .bool true] else .tuple #[.int .u64 0, .bool false]

set_option maxHeartbeats 2000000 in
theorem RHex_any (s : ByteArray) (w : World) (hs : s.size = 16) :
    Calls Tryz.prog 59 #[.string s] w fun e w' => e = .returned (hexR s) ∧ w' = w := by
  have hs' : (s.size : Int) = 16 := by omega
  go_enter Tryz.func59, Tryz.ntmps59
  go_wp2_with fail
  go_loop [4, 5] (fun n i => ∃ k acc : Nat, k ≤ 16 ∧ n = .int .u64 acc ∧ i = .int .i64 k ∧ Hid (acc = hexV (s.data.toList.take k) ∧ (∀ c ∈ s.data.toList.take k, isHex c = true))) (fun _ i => 16 - (intOf i).toNat)
  case atStart => exact ⟨0, 0, Nat.zero_le _, rfl, rfl, rfl, fun x hx => by simp at hx⟩
  case round =>
    obtain ⟨k, acc, hk, rfl, rfl, ha⟩ := hrel
    by_cases hlt : k < 16
    · have hlt' : k < s.size := by omega
      have hacc : acc < 1152921504606846976 := by
        rw [ha.out.1]
        have h1 := hexV_lt _ ha.out.2
        have h2 : (s.data.toList.take k).length ≤ 15 := by rw [List.length_take]; omega
        have h3 : 16 ^ (s.data.toList.take k).length ≤ 16 ^ 15 := Nat.pow_le_pow_right (by decide) h2
        have h4 : 16 ^ 15 = 1152921504606846976 := by decide
        omega
      have hc := UInt8.toNat_lt s[k]
      have HV : Hid (hexV (s.data.toList.take (k + 1)) = hexV (s.data.toList.take k) * 16 + hx s[k].toNat) := hexV_take s k hlt'
      have HT : Hid (s.data.toList.take (k + 1) = s.data.toList.take k ++ [s[k]]) := take_snoc s k hlt'
      cases hn : isHex s[k]
      · have HA : Hid (hexR s = .tuple #[.int .u64 0, .bool false]) := by
          show hexR s = _; unfold hexR; rw [all_not hlt' (by rw [inB_hex]; exact hn)]; rfl
        have hd : s[k].toNat < 48 ∨ (57 < s[k].toNat ∧ s[k].toNat < 97) ∨ 102 < s[k].toNat := by
          unfold isHex at hn
          simp only [Bool.or_eq_false_iff, decide_eq_false_iff_not] at hn
          omega
        clear hn
        rcases hd with h | ⟨h, h'⟩ | h
        · have h1 : ¬ (48 : Int) ≤ (s[k].toNat : Int) := by omega
          have h2 : ¬ (97 : Int) ≤ (s[k].toNat : Int) := by omega
          clear h
          go_wp2
          go_ret2
          exact ⟨by rw [HA.out]; rfl, rfl⟩
        · have h1 : (48 : Int) ≤ (s[k].toNat : Int) := by omega
          have h2 : ¬ (97 : Int) ≤ (s[k].toNat : Int) := by omega
          have h3 : ¬ (s[k].toNat : Int) ≤ 57 := by omega
          clear h h'
          go_wp2
          go_ret2
          exact ⟨by rw [HA.out]; rfl, rfl⟩
        · have h1 : (48 : Int) ≤ (s[k].toNat : Int) := by omega
          have h2 : (97 : Int) ≤ (s[k].toNat : Int) := by omega
          have h3 : ¬ (s[k].toNat : Int) ≤ 57 := by omega
          have h4 : ¬ (s[k].toNat : Int) ≤ 102 := by omega
          clear h
          go_wp2
          go_ret2
          exact ⟨by rw [HA.out]; rfl, rfl⟩
      · have HN : Hid (isHex s[k] = true) := hn
        rcases isHex_cases hn with ⟨h1, h2, h3⟩ | ⟨h1, h2, h3⟩
        · have h1' : (48 : Int) ≤ (s[k].toNat : Int) := by omega
          have h2' : (s[k].toNat : Int) ≤ 57 := by omega
          have H3 : Hid (hx s[k].toNat = s[k].toNat - 48) := h3
          clear hn h3
          go_wp2
          go_round
          case rel =>
            refine ⟨k + 1, acc * 16 + (s[k].toNat - 48), by omega, by go_num, by go_num, ?_, ?_⟩
            · rw [HV.out, ← ha.out.1, H3.out]
            · rw [HT.out]; intro c hc'; rw [List.mem_append, List.mem_singleton] at hc'
              rcases hc' with hc' | hc'
              · exact ha.out.2 c hc'
              · rw [hc']; exact HN.out
          case measure => simp [intOf]; omega
        · have h1' : (97 : Int) ≤ (s[k].toNat : Int) := by omega
          have h2' : (s[k].toNat : Int) ≤ 102 := by omega
          have h4 : ¬ (s[k].toNat : Int) ≤ 57 := by omega
          have h5 : (48 : Int) ≤ (s[k].toNat : Int) := by omega
          have H3 : Hid (hx s[k].toNat = s[k].toNat - 87) := h3
          clear hn h3
          go_wp2
          go_round
          case rel =>
            refine ⟨k + 1, acc * 16 + (s[k].toNat - 87), by omega, by go_num, by go_num, ?_, ?_⟩
            · rw [HV.out, ← ha.out.1, H3.out]
            · rw [HT.out]; intro c hc'; rw [List.mem_append, List.mem_singleton] at hc'
              rcases hc' with hc' | hc'
              · exact ha.out.2 c hc'
              · rw [hc']; exact HN.out
          case measure => simp [intOf]; omega
    · have he : k = 16 := by omega
      subst he
      have hA : s.data.toList.take 16 = s.data.toList := List.take_of_length_le (by rw [← Lib.size_eq]; omega)
      have HA : Hid (hexR s = .tuple #[.int .u64 acc, .bool true]) := by
        show hexR s = _; unfold hexR; rw [allB_of_hex s (by omega) (by rw [← hA]; exact ha.out.2), ha.out.1, hA]; rfl
      clear ha hA
      go_wp2
      go_ret2
      exact ⟨by rw [HA.out]; rfl, rfl⟩
end Go.Proofs.YtdpdpgnpkmfooaaGreatDoor
