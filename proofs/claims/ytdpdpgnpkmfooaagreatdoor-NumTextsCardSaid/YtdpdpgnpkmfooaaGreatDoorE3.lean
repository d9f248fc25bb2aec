/- The program's Read and the document's give the same, at every text. -/
import Derived.Test.YtdpdpgnpkmfooaaGreatDoorE2
namespace Go.Proofs.YtdpdpgnpkmfooaaGreatDoor
open Go.RowKit

/-- Both give t m and the error x. -/
def Same (s : ByteArray) : Prop := ∃ t m x : Int,
  (∀ w, ErrIs w → Calls Tryz.prog 34 #[.string s] w fun e w' => e = .returned (.tuple #[AV t m, .int .i64 x]) ∧ Below w.heap.size w w') ∧
  (∀ w, Calls Tryz.prog 35 #[.string s] w fun e w' => e = .returned (.tuple #[AV t m, .int .i64 x]) ∧ Below w.heap.size w w')

theorem bitsT_form (X : ByteArray) : ∃ t m x : Int, bitsT X = .tuple #[AV t m, .int .i64 x] := by
  unfold bitsT; split
  · exact ⟨_, _, _, rfl⟩
  · exact ⟨_, _, _, rfl⟩

theorem ix_two (r : List UInt8) : Lib.indexByte (48 :: 102 :: r) 46 = -1 ∨ 2 ≤ Lib.indexByte (48 :: 102 :: r) 46 := by
  have h0 : ∀ l : List UInt8, -1 ≤ Lib.indexByte l 46 := by
    intro l
    induction l with
    | nil => decide
    | cons b l ih => unfold Lib.indexByte; split; · omega
                     · split <;> omega
  have e1 : Lib.indexByte (102 :: r) 46 = if Lib.indexByte r 46 == -1 then -1 else Lib.indexByte r 46 + 1 := by
    conv => lhs; unfold Lib.indexByte
    rw [if_neg (by decide)]
  have e2 : Lib.indexByte (48 :: 102 :: r) 46 = if Lib.indexByte (102 :: r) 46 == -1 then -1 else Lib.indexByte (102 :: r) 46 + 1 := by
    conv => lhs; unfold Lib.indexByte
    rw [if_neg (by decide)]
  have hr := h0 r
  by_cases h : Lib.indexByte r 46 = -1
  · left; rw [e2, e1, h]; rfl
  · right
    have hb : (Lib.indexByte r 46 == -1) = false := by simpa using h
    rw [hb, if_neg Bool.false_ne_true] at e1
    have hb2 : (Lib.indexByte r 46 + 1 == -1) = false := by rw [beq_eq_false_iff_ne]; omega
    rw [e1, hb2, if_neg Bool.false_ne_true] at e2
    omega

theorem same_bits (s : ByteArray) (hz : s.size ≤ 140737488351232) (h : Lib.hasPrefix s.data.toList zf.data.toList = true) : Same s := by
  have hs : s.size ≤ maxLen := Nat.le_trans hz (by decide)
  have hzf : zf.data.toList = [48, 102] := rfl
  have ho : offm s = s.extract 2 s.size := by
    apply Go.WideShapes.bytes_inj
    rw [ex_hi]
    unfold offm Lib.trimPrefix
    rw [h, if_pos rfl, hzf]; rfl
  obtain ⟨r, hr⟩ : ∃ r, s.data.toList = 48 :: 102 :: r := by
    unfold Lib.hasPrefix at h
    rw [hzf] at h
    obtain ⟨r, hr⟩ := List.isPrefixOf_iff_prefix.1 h
    exact ⟨r, hr.symm⟩
  by_cases h18 : (s.size : Int) = 18
  · obtain ⟨t, m, x, hb⟩ := bitsT_form (offm s)
    refine ⟨t, m, x, fun w _ => Read_bits s t m x w hs h hb, fun w => ?_⟩
    rw [← hb, ho]
    exact RRead_bits s w h18 (by rw [pre_eq]; exact h)
  · have hb : bitsT (offm s) = .tuple #[AV 0 0, .int .i64 6] := by
      unfold bitsT
      rw [if_neg]
      rintro ⟨h16, _⟩
      rw [ho, ByteArray.size_extract] at h16
      omega
    have h0 : 0 < s.size := by rw [Lib.size_eq, hr]; simp
    have hsg : signed s s false := by
      refine Or.inr (Or.inl ⟨rfl, rfl, h0, ?_⟩)
      have e : s[0] = 48 := by rw [← get0 s h0]; simp [hr]
      rw [e]; decide
    have h102 : ∀ A : ByteArray, (102 : UInt8) ∈ A.data.toList → allB A dec = false := fun A hA => by
      cases ha : allB A dec
      · rfl
      · exact absurd (allB_mem ha _ hA).2 (by decide)
    have ha : allB s dec = false := h102 s (by rw [hr]; simp)
    refine ⟨0, 0, 6, fun w _ => Read_bits s 0 0 6 w hs h hb, fun w => ?_⟩
    rcases pt_cases s with ⟨hp, _, _⟩ | ⟨i, hp, hi, _, _, _, _⟩
    · exact RRead_bad1 s s false w hz hz (Or.inl h18) hsg ha hp
    · refine RRead_bad2 s s false w i hz hz (Or.inl h18) hsg ha hp hi (h102 _ ?_)
      rw [ex_lo, hr]
      have h2 := ix_two r
      rw [← hr, hp] at h2
      have h2' : 2 ≤ i := by omega
      obtain ⟨j, rfl⟩ : ∃ j, i = j + 2 := ⟨i - 2, by omega⟩
      simp

theorem wholeT_form (T : ByteArray) (M : Bool) : ∃ t m x : Int, wholeT T M = .tuple #[AV t m, .int .i64 x] := by
  unfold wholeT; split
  · exact ⟨_, _, _, rfl⟩
  · split
    · exact ⟨_, _, _, rfl⟩
    · exact ⟨_, _, _, rfl⟩

theorem same_rest (s : ByteArray) (hz : s.size ≤ 140737488351232) (h : Lib.hasPrefix s.data.toList zf.data.toList = false) : Same s := by
  have hs : s.size ≤ maxLen := Nat.le_trans hz (by decide)
  have hT : (unsg s).size ≤ 140737488351232 := Nat.le_trans (unsg_size s) hz
  have hnb := noBits_of s h
  have hsg := signed_of s
  cases hb : bad s
  · rcases pt_cases (unsg s) with ⟨hp, q1, q2⟩ | ⟨i, hp, hi, q1, q2, q3, q4⟩
    · have ha : allB (unsg s) dec = true := by
        unfold bad ahd pnt at hb
        rw [q1, q2] at hb
        simpa using hb
      have hm := allB_mem ha
      have hne := allB_ne ha
      obtain ⟨t, m, x, hw⟩ := wholeT_form (unsg s) (Lib.hasPrefix s.data.toList dash.data.toList)
      refine ⟨t, m, x, fun w he => ?_, fun w => RRead_whole s (unsg s) _ t m x w hz hT hnb hsg ha hw⟩
      have P : (∃ v, Lib.parseIntB 64 s.data.toList = .ok v ∧ wholeT (unsg s) (Lib.hasPrefix s.data.toList dash.data.toList) = .tuple #[AV 2 v, .int .i64 0]) ∨
          (Lib.parseIntB 64 s.data.toList = .range ∧ wholeT (unsg s) (Lib.hasPrefix s.data.toList dash.data.toList) = .tuple #[AV 0 0, .int .i64 7]) := by
        rcases dash_cases s with ⟨d1, d2, _⟩ | ⟨d1, d2⟩
        · rw [d1, d2, pI_neg _ hm hne]
          unfold wholeT
          generalize decV (unsg s).data.toList = V
          by_cases h1 : V < 9223372036854775808
          · left; rw [if_pos (by omega), if_pos h1]; exact ⟨_, rfl, rfl⟩
          · by_cases h2 : V = 9223372036854775808
            · left; rw [if_pos (by omega), if_neg h1, if_pos ⟨h2, rfl⟩, h2]; exact ⟨_, rfl, rfl⟩
            · right; rw [if_neg (by omega), if_neg h1, if_neg (by omega)]; exact ⟨rfl, rfl⟩
        · rw [d1]
          rw [d2] at hm hne ⊢
          rw [pI_pos _ hm hne]
          unfold wholeT
          generalize decV s.data.toList = V
          by_cases h1 : V < 9223372036854775808
          · left; rw [if_pos h1, if_pos h1]; exact ⟨_, rfl, rfl⟩
          · right; rw [if_neg h1, if_neg h1, if_neg (by simp)]; exact ⟨rfl, rfl⟩
      rw [← hw]
      rcases P with ⟨v, p1, p2⟩ | ⟨p1, p2⟩
      · rw [p2]; exact Read_int s v w hs (by omega) h hb q1 p1
      · rw [p2]; exact Read_intR s w hs (by omega) h hb q1 p1 he
    · have a1 : allB ((unsg s).extract 0 i) dec = true := by
        unfold bad ahd at hb; rw [q2] at hb; simp at hb; exact hb.1
      have a2 : allB ((unsg s).extract (i + 1) (unsg s).size) dec = true := by
        unfold bad ahd bhd pnt at hb; rw [q1, q2, q3] at hb; simp at hb; exact hb.2
      have z1 : (ahd s).size = i := by unfold ahd; rw [q2, ByteArray.size_extract]; omega
      have z2 : (bhd s).size = (unsg s).size - (i + 1) := by unfold bhd; rw [q3, ByteArray.size_extract]; omega
      by_cases hl : 15 < (ahd s).size + (bhd s).size
      · refine ⟨0, 0, 7, fun w _ => Read_ptR s w hs hz h hb q1 hl, fun w => RRead_range s (unsg s) _ w i hz hT hnb hsg q4 hp hi a1 a2 (by omega)⟩
      · have hd : (ahd s ++ bhd s).data.toList = ptL (unsg s) i := by
          rw [ByteArray.data_append, Array.toList_append]
          unfold ahd bhd
          rw [q2, q3, ex_lo, ex_hi]; rfl
        have hv : Lib.parseIntB 64 (ahd s ++ bhd s).data.toList = .ok (decV (ptL (unsg s) i) : Int) := by
          rw [hd]
          have hm : ∀ c ∈ ptL (unsg s) i, 48 ≤ c.toNat ∧ c.toNat ≤ 57 := fun c hc => by
            unfold ptL at hc
            rw [List.mem_append, ← ex_lo, ← ex_hi] at hc
            rcases hc with hc | hc
            · exact allB_mem a1 c hc
            · exact allB_mem a2 c hc
          have hn : ptL (unsg s) i ≠ [] := by
            unfold ptL
            have := allB_ne a1
            rw [ex_lo] at this
            simp [this]
          have hlt := decV_lt (ptL (unsg s) i) (fun c hc => (hm c hc).2) 15 (by have := ptL_len (unsg s) i hi; omega)
          rw [pI_pos _ hm hn, if_pos (by have : 10 ^ 15 = 1000000000000000 := by decide
                                         omega)]
        refine ⟨3, ptM (Lib.hasPrefix s.data.toList dash.data.toList) (decV (ptL (unsg s) i)) ((unsg s).size - (i + 1)), 0, fun w _ => ?_, fun w => RRead_pt s (unsg s) _ w i hz hT hnb hsg q4 hp hi a1 a2 (by omega)⟩
        rw [← z2]
        cases hd' : Lib.hasPrefix s.data.toList dash.data.toList
        · exact Read_pt s _ w hs h hb q1 (by omega) hv hd'
        · exact Read_ptM s _ w hs h hb q1 (by omega) hv hd'
  · refine ⟨0, 0, 6, fun w _ => Read_bad s w hs h hb, fun w => ?_⟩
    rcases pt_cases (unsg s) with ⟨hp, q1, q2⟩ | ⟨i, hp, hi, q1, q2, q3, q4⟩
    · refine RRead_bad1 s (unsg s) _ w hz hT hnb hsg ?_ hp
      unfold bad ahd pnt at hb
      rw [q1, q2] at hb
      simpa using hb
    · cases a1 : allB ((unsg s).extract 0 i) dec
      · exact RRead_bad2 s (unsg s) _ w i hz hT hnb hsg q4 hp hi a1
      · refine RRead_bad3 s (unsg s) _ w i hz hT hnb hsg q4 hp hi a1 ?_
        unfold bad ahd bhd pnt at hb
        rw [q1, q2, q3, a1] at hb
        simpa using hb

theorem same_all (s : ByteArray) (hz : s.size ≤ 140737488351232) : Same s := by
  cases h : Lib.hasPrefix s.data.toList zf.data.toList
  · exact same_rest s hz h
  · exact same_bits s hz h
end Go.Proofs.YtdpdpgnpkmfooaaGreatDoor
