/- TextApart, walked: unlike texts have unlike quotes, and unlike cells. -/
import Derived.Test.YtinhfgpcgbnhdaaT8
import Derived.Test.YtinhfgpcgbnhdaaT9
import Derived.Test.YtinhfgpcgbnhdaaL2
namespace Go.Proofs.Ytinhfgpcgbnhdaa
open Go.RowKit

theorem dg_inj {a b : Nat} (ha : a < 16) (hb : b < 16) (h : dg a = dg b) : a = b := by
  unfold dg at h; split at h <;> split at h <;> omega

theorem qin_inj : ∀ (l m : List Nat), (∀ a ∈ l, a < 256) → (∀ a ∈ m, a < 256) → qin l = qin m → l = m
  | [], [], _, _, _ => rfl
  | [], b :: m, _, _, h => by
    have := qb_len b
    have h' := congrArg List.length h
    have e : (qin (b :: m)).length = (qb b).length + (qin m).length := by simp [qin]
    have e0 : (qin []).length = 0 := rfl
    omega
  | a :: l, [], _, _, h => by
    have := qb_len a
    have h' := congrArg List.length h
    have e : (qin (a :: l)).length = (qb a).length + (qin l).length := by simp [qin]
    have e0 : (qin []).length = 0 := rfl
    omega
  | a :: l, b :: m, hl, hm, h => by
    have ha := hl a (by simp)
    have hb := hm b (by simp)
    have e1 : qin (a :: l) = qb a ++ qin l := by simp [qin]
    have e2 : qin (b :: m) = qb b ++ qin m := by simp [qin]
    rw [e1, e2] at h
    have key : a = b ∧ qin l = qin m := by
      cases hpa : pl a <;> cases hpb : pl b
      · rw [qb_hex hpa, qb_hex hpb] at h
        simp only [List.cons_append, List.nil_append, List.cons.injEq, true_and] at h
        have d1 := dg_inj (show a / 16 < 16 by omega) (show b / 16 < 16 by omega) h.1
        have d2 := dg_inj (show a % 16 < 16 by omega) (show b % 16 < 16 by omega) h.2.1
        exact ⟨by omega, h.2.2⟩
      · rw [qb_hex hpa, qb_plain hpb] at h
        simp only [List.cons_append, List.nil_append, List.cons.injEq] at h
        have : pl 92 = false := rfl
        rw [← h.1] at hpb; rw [hpb] at this; cases this
      · rw [qb_plain hpa, qb_hex hpb] at h
        simp only [List.cons_append, List.nil_append, List.cons.injEq] at h
        have : pl 92 = false := rfl
        rw [h.1] at hpa; rw [hpa] at this; cases this
      · rw [qb_plain hpa, qb_plain hpb] at h
        simp only [List.cons_append, List.nil_append, List.cons.injEq] at h
        exact h
    rw [key.1, qin_inj l m (fun c hc => hl c (by simp [hc])) (fun c hc => hm c (by simp [hc])) key.2]

theorem toNat_map_inj : ∀ (l m : List UInt8), l.map UInt8.toNat = m.map UInt8.toNat → l = m
  | [], [], _ => rfl
  | a :: l, b :: m, h => by
    simp only [List.map_cons, List.cons.injEq] at h
    rw [UInt8.toNat_inj.1 h.1, toNat_map_inj l m h.2]
theorem bl_inj {a b : ByteArray} (h : bl a = bl b) : a = b := by
  apply Go.WideShapes.bytes_inj
  exact toNat_map_inj _ _ h
theorem bl_str (l : List Nat) (hl : ∀ a ∈ l, a < 256) : bl (str l) = l := by
  unfold bl str
  rw [strOfNums_data, List.map_map, List.map_map]
  conv => rhs; rw [← List.map_id l]
  apply List.map_congr_left
  intro a ha
  have := hl a ha
  simp [UInt8.toNat_ofNat']; omega
theorem str_inj {l m : List Nat} (hl : ∀ a ∈ l, a < 256) (hm : ∀ a ∈ m, a < 256) (h : str l = str m) : l = m := by
  rw [← bl_str l hl, ← bl_str m hm, h]

theorem quote_inj {a b : ByteArray} (h : str (quoteL (bl a)) = str (quoteL (bl b))) : a = b := by
  have h1 := str_inj (quote_lt _ (bl_lt a)) (quote_lt _ (bl_lt b)) h
  unfold quoteL at h1
  simp only [List.cons.injEq, true_and] at h1
  exact bl_inj (qin_inj _ _ (bl_lt a) (bl_lt b) (List.append_cancel_right h1))

theorem val_inj : ∀ (l m : List Nat), l.length = m.length → (∀ a ∈ l, a < 256) → (∀ a ∈ m, a < 256) → val l = val m → l = m
  | [], [], _, _, _, _ => rfl
  | a :: l, b :: m, hl, h1, h2, h => by
    have ha := h1 a (by simp)
    have hb := h2 b (by simp)
    simp only [val] at h
    have := val_inj l m (by simpa using hl) (fun c hc => h1 c (by simp [hc])) (fun c hc => h2 c (by simp [hc])) (by omega)
    rw [this] at h ⊢
    rw [show a = b by omega]

theorem pack_inj {a b : ByteArray} (hs : a.size = b.size) (h : packL (bl a) = packL (bl b)) : a = b := by
  apply bl_inj
  apply List.ext_getElem?
  intro i
  by_cases hi : i < a.size
  · have hk : i / 8 < (a.size + 7) / 8 := by omega
    have hc : wrap64 (cellN (bl a) (i / 8)) = wrap64 (cellN (bl b) (i / 8)) := by
      have := congrArg (fun l => l[i / 8]?) h
      simpa [packL, bl_len, ← hs, hk] using this
    have b1 := cell_bd a (i / 8) 0
    have b2 := cell_bd b (i / 8) 0
    rw [List.drop_zero, chunk_val] at b1 b2
    have e : cellN (bl a) (i / 8) = cellN (bl b) (i / 8) := by unfold wrap64 at hc; omega
    rw [← chunk_val, ← chunk_val] at e
    have ec := val_inj _ _ (by rw [chunk_len, chunk_len]) (chunk_lt a _) (chunk_lt b _) e
    have g1 := chunk_get a (i / 8) (i % 8) (by omega)
    have g2 := chunk_get b (i / 8) (i % 8) (by omega)
    rw [ec, g2, show 8 * (i / 8) + i % 8 = i by omega] at g1
    have l1 : i < (bl a).length := by rw [bl_len]; exact hi
    have l2 : i < (bl b).length := by rw [bl_len]; omega
    simp only [List.getD, List.getElem?_eq_getElem l1, List.getElem?_eq_getElem l2, Option.getD_some] at g1
    rw [List.getElem?_eq_getElem l1, List.getElem?_eq_getElem l2, g1]
  · rw [List.getElem?_eq_none (by rw [bl_len]; omega), List.getElem?_eq_none (by rw [bl_len]; omega)]

theorem toList_ne {a b : ByteArray} (h : a ≠ b) : (a.toList == b.toList) = false := by
  rw [beq_eq_false_iff_ne]
  intro e
  rw [ByteArray.toList_eq, ByteArray.toList_eq] at e
  exact h (Go.WideShapes.bytes_inj e)

set_option maxHeartbeats 1000000 in
theorem TextApart_any (a b : ByteArray) (w : World) (ha : a.size ≤ maxLen) (hb : b.size ≤ maxLen) :
    Calls Try.prog 9 #[.string a, .string b] w fun e w' => e = .returned (.bool true) ∧ Below w.heap.size w w' := by
  unfold maxLen at ha hb
  by_cases h1 : (3000 : Int) < (a.size : Int)
  · go_enter Try.func9, Try.ntmps9
    go_wp2_with (first | (go_at_call 11; refine (alive_any _).mono ?_; rintro e w1 ⟨rfl, hb1⟩))
    go_ret
    exact ⟨rfl, hb1⟩
  · by_cases h2 : (3000 : Int) < (b.size : Int)
    · go_enter Try.func9, Try.ntmps9
      go_wp2_with (first | (go_at_call 11; refine (alive_any _).mono ?_; rintro e w1 ⟨rfl, hb1⟩))
      go_ret
      exact ⟨rfl, hb1⟩
    · have h3 : a.size ≤ 3000 := by omega
      have h4 : b.size ≤ 3000 := by omega
      obtain ⟨t, ht⟩ : ∃ t : Bool, t = decide (a = b) := ⟨_, rfl⟩
      obtain ⟨A, hA⟩ : ∃ A, A = str (quoteL (bl a)) := ⟨_, rfl⟩
      obtain ⟨B, hB⟩ : ∃ B, B = str (quoteL (bl b)) := ⟨_, rfl⟩
      have e1 : (a.toList == b.toList) = t := by
        by_cases h : a = b
        · rw [ht, h]; simp
        · rw [ht, toList_ne h, decide_eq_false h]
      have e2 : (A.toList == B.toList) = t := by
        by_cases h : a = b
        · rw [ht, hA, hB, h]; simp
        · rw [ht, decide_eq_false h, toList_ne (fun e => h (quote_inj (by rw [← hA, ← hB]; exact e)))]
      have HQ1 : Hid (∀ w, Calls Try.prog 24 #[.string a] w fun e w' => e = .returned (.string A) ∧ Below w.heap.size w w') := by rw [hA]; exact fun w => Quote_any a w h3
      have HQ2 : Hid (∀ w, Calls Try.prog 24 #[.string b] w fun e w' => e = .returned (.string B) ∧ Below w.heap.size w w') := by rw [hB]; exact fun w => Quote_any b w h4
      have HP : Hid (a.size = b.size → decide (packL (bl a) = packL (bl b)) = t) := by
        intro hs
        rw [ht]
        by_cases h : a = b
        · rw [h]; simp
        · rw [decide_eq_false h, decide_eq_false (fun e => h (pack_inj hs e))]
      have HL : Hid ((packL (bl a)).length ≤ 100000) := by show _ ≤ _; simp only [packL, List.length_map, List.length_range, bl_len]; omega
      clear ht hA hB
      by_cases h5 : a.size = b.size
      · have e5 : ((a.size : Int) != (b.size : Int)) = false := by simp [h5]
        have HP' : Hid (decide (packL (bl a) = packL (bl b)) = t) := HP.out h5
        have HE : Hid (a.size = b.size) := h5
        clear h5 HP
        go_enter Try.func9, Try.ntmps9
        go_wp2_with fail
        refine (HQ1.out _).mono ?_
        rintro e w1 ⟨rfl, hb1⟩
        go_wp2_with fail
        refine (HQ2.out _).mono ?_
        rintro e w2 ⟨rfl, hb2⟩
        go_wp2_with fail
        have HB2 : Hid (Below w.heap.size w w2) := hb1.trans (hb2.mono hb1.size)
        clear hb1 hb2
        refine (Pack_any a _ h3).mono ?_
        rintro e w3 ⟨rfl, ho3, hb3⟩
        have HS3 : Hid (SliceIs w3 (.slice (some ⟨w2.heap.size, 0, none⟩) ((a.size + 7) / 8) ((a.size + 7) / 8)) (packL (bl a))) := SliceIs_own ho3
        have HB3 : Hid (Below w.heap.size w w3) := HB2.out.trans (hb3.mono HB2.out.size)
        clear ho3 hb3 HB2
        go_wp2_with fail
        refine (Pack_any b _ h4).mono ?_
        rintro e w4 ⟨rfl, ho4, hb4⟩
        have HS4 : Hid (SliceIs w4 (.slice (some ⟨w3.heap.size, 0, none⟩) ((b.size + 7) / 8) ((b.size + 7) / 8)) (packL (bl b))) := SliceIs_own ho4
        have HS3' : Hid (SliceIs w4 (.slice (some ⟨w2.heap.size, 0, none⟩) ((a.size + 7) / 8) ((a.size + 7) / 8)) (packL (bl a))) := HS3.out.later hb4
        have HB4 : Hid (Below w.heap.size w w4) := HB3.out.trans (hb4.mono HB3.out.size)
        clear ho4 hb4 HB3 HS3
        go_wp2_with fail
        refine (Same_any _ _ _ _ _ HS3'.out HS4.out HL.out).mono ?_
        rintro e w5 ⟨rfl, hb5⟩
        have HB5 : Hid (Below w.heap.size w w5) := HB4.out.trans (hb5.mono HB4.out.size)
        clear hb5 HB4 HS3' HS4
        rw [HP'.out]
        go_wp2_with (first | (go_at_call 11; refine (alive_any _).mono ?_; rintro e w6 ⟨rfl, hb6⟩))
        go_ret
        exact ⟨by simp, HB5.out.trans (hb6.mono HB5.out.size)⟩
      · have e5 : ((a.size : Int) != (b.size : Int)) = true := by simp; omega
        clear h5 HP
        go_enter Try.func9, Try.ntmps9
        go_wp2_with fail
        refine (HQ1.out _).mono ?_
        rintro e w1 ⟨rfl, hb1⟩
        go_wp2_with fail
        refine (HQ2.out _).mono ?_
        rintro e w2 ⟨rfl, hb2⟩
        go_wp2_with (first | (go_at_call 11; refine (alive_any _).mono ?_; rintro e w4 ⟨rfl, hb4⟩))
        go_ret
        exact ⟨by simp, (hb1.trans (hb2.mono hb1.size)).trans (hb4.mono (Nat.le_trans hb1.size hb2.size))⟩
end Go.Proofs.Ytinhfgpcgbnhdaa
