/- The document's whole numbers. -/
import Derived.Test.YtdpdpgnpkmfooaaGreatDoorD2
import Derived.Test.YtdpdpgnpkmfooaaGreatDoorA0
namespace Go.Proofs.YtdpdpgnpkmfooaaGreatDoor
open Go.RowKit

/-- What digits say. -/
def decF (n : Nat) (l : List UInt8) : Nat := l.foldl (fun n c => n * 10 + (c.toNat - 48)) n
def decV (l : List UInt8) : Nat := decF 0 l
theorem decF_ge : ∀ (l : List UInt8) (n : Nat), n ≤ decF n l
  | [], _ => Nat.le_refl _
  | c :: l, n => by
    have := decF_ge l (n * 10 + (c.toNat - 48))
    show n ≤ decF (n * 10 + (c.toNat - 48)) l
    omega
theorem decV_take (l : List UInt8) (k : Nat) : decV (l.take k) ≤ decV l := by
  have h : decV l = decF (decV (l.take k)) (l.drop k) := by
    unfold decV decF
    rw [← List.foldl_append, List.take_append_drop]
  rw [h]; exact decF_ge _ _
theorem decV_snoc (s : ByteArray) (k : Nat) (h : k < s.size) : decV (s.data.toList.take (k + 1)) = decV (s.data.toList.take k) * 10 + (s[k].toNat - 48) := by
  rw [take_snoc s k h]; unfold decV decF; rw [List.foldl_append]; rfl

/-- What the document's whole gives, at digits. -/
def wholeT (t : ByteArray) (m : Bool) : Value :=
  if decV t.data.toList < 9223372036854775808 then .tuple #[AV 2 (if m then -(decV t.data.toList : Int) else (decV t.data.toList : Int)), .int .i64 0]
  else if decV t.data.toList = 9223372036854775808 ∧ m = true then .tuple #[AV 2 (-9223372036854775808), .int .i64 0] else .tuple #[AV 0 0, .int .i64 7]
theorem whole_big {t : ByteArray} {m : Bool} (h : 9223372036854775808 < decV t.data.toList) : wholeT t m = .tuple #[AV 0 0, .int .i64 7] := by
  unfold wholeT; rw [if_neg (by omega), if_neg (by omega)]

set_option maxHeartbeats 2000000 in
theorem RWhole_any' (s : ByteArray) (m : Bool) (w : World) (hs : s.size ≤ 140737488351232) (ha : allB s dec = true) :
    Calls Tryz.prog 61 #[.string s, .bool m] w fun e w' => e = .returned (wholeT s m) ∧ Below w.heap.size w w' := by
  have hD : ∀ k (h : k < s.size), 48 ≤ s[k].toNat ∧ s[k].toNat ≤ 57 := fun k h => by
    unfold allB at ha
    rw [Bool.and_eq_true, List.all_eq_true] at ha
    have := ha.1 s[k] (List.getElem_mem (l := s.data.toList) (n := k) (by simpa using h))
    rw [inD, Bool.and_eq_true, decide_eq_true_eq, decide_eq_true_eq] at this
    exact this
  have HD : Hid (∀ k (h : k < s.size), 48 ≤ s[k].toNat ∧ s[k].toNat ≤ 57) := hD
  clear hD ha
  go_enter Tryz.func61, Tryz.ntmps61
  go_wp2_with fail
  go_loop [6, 7, 8] (fun n i _ => ∃ k V : Nat, k ≤ s.size ∧ n = .int .u64 V ∧ i = .int .i64 k ∧ V ≤ 9223372036854775808 ∧ Hid (V = decV (s.data.toList.take k))) (fun _ i _ => s.size - (intOf i).toNat)
  case atStart => exact ⟨0, 0, Nat.zero_le _, rfl, rfl, by omega, rfl⟩
  case round =>
    obtain ⟨k, V, hk, rfl, rfl, hV, hh⟩ := hrel
    by_cases hlt : k < s.size
    · obtain ⟨d1, d2⟩ := HD.out k hlt
      have HS : Hid (decV (s.data.toList.take (k + 1)) = V * 10 + (s[k].toNat - 48)) := by show _ = _; rw [decV_snoc s k hlt, ← hh.out]
      have HL : Hid (decV (s.data.toList.take (k + 1)) ≤ decV s.data.toList) := decV_take _ _
      obtain ⟨c, hc⟩ : ∃ c : Nat, c + 48 = s[k].toNat := ⟨s[k].toNat - 48, by omega⟩
      have hc9 : c ≤ 9 := by omega
      have HC : Hid (s[k].toNat - 48 = c) := by show _ = _; omega
      have hci : (s[k].toNat : Int) = (c : Int) + 48 := by omega
      clear d1 d2 hc
      by_cases hb : 922337203685477580 < V
      · have hb' : (922337203685477580 : Int) < (V : Int) := by omega
        have HW : Hid (wholeT s m = .tuple #[AV 0 0, .int .i64 7]) := whole_big (by have := HS.out; have := HL.out; omega)
        clear hb
        go_wp2
        refine bodyPost_ret (v := .tuple #[AV 0 0, .int .i64 7]) (by simp [results, Tryz.results61, go_sem]) rfl ⟨by rw [HW.out], ?_⟩
        exact (Below.refl _ _).alloc (Nat.le_refl _) _
      · have hb' : ¬ (922337203685477580 : Int) < (V : Int) := by omega
        by_cases he : V = 922337203685477580
        · subst he
          clear hb hb'
          by_cases h8 : 8 < c
          · have h8' : (8 : Int) < (c : Int) := by omega
            have HW : Hid (wholeT s m = .tuple #[AV 0 0, .int .i64 7]) := whole_big (by have := HS.out; have := HL.out; have := HC.out; omega)
            clear h8
            go_wp2
            refine bodyPost_ret (v := .tuple #[AV 0 0, .int .i64 7]) (by simp [results, Tryz.results61, go_sem]) rfl ⟨by rw [HW.out], ?_⟩
            exact (Below.refl _ _).alloc (Nat.le_refl _) _
          · have h8' : ¬ (8 : Int) < (c : Int) := by omega
            go_wp2
            go_round
            case rel => exact ⟨k + 1, 922337203685477580 * 10 + c, by omega, by go_num, by go_num, by omega, by show _ = _; rw [HS.out, HC.out]⟩
            case measure => simp [intOf]; omega
        · have he' : ¬ (V : Int) = 922337203685477580 := by omega
          go_wp2
          go_round
          case rel => exact ⟨k + 1, V * 10 + c, by omega, by go_num, by go_num, by omega, by show _ = _; rw [HS.out, HC.out]⟩
          case measure => simp [intOf]; omega
    · have he : k = s.size := by omega
      subst he
      have HV : Hid (decV s.data.toList = V) := by
        show _ = _; rw [hh.out, List.take_of_length_le (by simp)]
      clear hh hk hlt
      by_cases hx : V = 9223372036854775808
      · subst hx
        cases m
        · have HW : Hid (wholeT s false = .tuple #[AV 0 0, .int .i64 7]) := by
            show _ = _; unfold wholeT; rw [HV.out, if_neg (by omega), if_neg (by simp)]
          go_wp2
          refine bodyPost_ret (v := .tuple #[AV 0 0, .int .i64 7]) (by simp [results, Tryz.results61, go_sem]) rfl ⟨by rw [HW.out], ?_⟩
          exact (Below.refl _ _).alloc (Nat.le_refl _) _
        · have HW : Hid (wholeT s true = .tuple #[AV 2 (-9223372036854775808), .int .i64 0]) := by
            show _ = _; unfold wholeT; rw [HV.out, if_neg (by omega), if_pos (by simp)]
          go_wp2_with fail
          refine (RInt_any _ _).mono ?_
          rintro e w1 ⟨rfl, hb1⟩
          obtain ⟨k5, k6, l5, l6, z1, HB⟩ := rbox hb1
          clear hb1
          go_wp2
          refine bodyPost_ret (v := .tuple #[AV 2 (-9223372036854775808), .int .i64 0]) (by simp [results, Tryz.results61, go_sem, k5, k6]) rfl ⟨by rw [HW.out], ?_⟩
          exact (HB.out.setCell (by simp) _).setCell (by simp) _
      · have hx' : ¬ (V : Int) = 9223372036854775808 := by omega
        have hV' : V < 9223372036854775808 := by omega
        have hcv : wrap64 (V : Int) = (V : Int) := by unfold wrap64; omega
        cases m
        · have HW : Hid (wholeT s false = .tuple #[AV 2 (V : Int), .int .i64 0]) := by
            show _ = _; unfold wholeT; rw [HV.out, if_pos hV']; rfl
          go_wp2_with fail
          refine (RInt_any _ _).mono ?_
          rintro e w1 ⟨rfl, hb1⟩
          obtain ⟨k5, k6, l5, l6, z1, HB⟩ := rbox hb1
          clear hb1
          go_wp2
          refine bodyPost_ret (v := .tuple #[AV 2 (V : Int), .int .i64 0]) (by simp [results, Tryz.results61, go_sem, k5, k6]) rfl ⟨by rw [HW.out], ?_⟩
          exact (HB.out.setCell (by simp) _).setCell (by simp) _
        · have HW : Hid (wholeT s true = .tuple #[AV 2 (-(V : Int)), .int .i64 0]) := by
            show _ = _; unfold wholeT; rw [HV.out, if_pos hV']; rfl
          go_wp2_with fail
          refine (RInt_any _ _).mono ?_
          rintro e w1 ⟨rfl, hb1⟩
          obtain ⟨k5, k6, l5, l6, z1, HB⟩ := rbox hb1
          clear hb1
          go_wp2
          refine bodyPost_ret (v := .tuple #[AV 2 (-(V : Int)), .int .i64 0]) (by simp [results, Tryz.results61, go_sem, k5, k6]) rfl ⟨by rw [HW.out], ?_⟩
          exact (HB.out.setCell (by simp) _).setCell (by simp) _
end Go.Proofs.YtdpdpgnpkmfooaaGreatDoor
