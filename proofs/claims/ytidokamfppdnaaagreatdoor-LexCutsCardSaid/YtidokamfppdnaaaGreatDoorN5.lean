/- Read: at every text one answer. -/
import Derived.Test.YtidokamfppdnaaaGreatDoorN4
namespace Go.Proofs.YtidokamfppdnaaaGreatDoor
open Go.RowKit
set_option linter.unusedSimpArgs false
set_option linter.unusedVariables false

/-- Read gives t, m and the error x. -/
def ReadIs (s : ByteArray) (t m x : Int) : Prop := ∀ w, ErrIs w → Calls Tryz.prog 34 #[.string s] w fun e w' => e = .returned (.tuple #[AV t m, .int .i64 x]) ∧ Below w.heap.size w w'
theorem bitsT_form (X : ByteArray) : ∃ t m x : Int, bitsT X = .tuple #[AV t m, .int .i64 x] := by
  unfold bitsT; split
  · exact ⟨_, _, _, rfl⟩
  · exact ⟨_, _, _, rfl⟩
theorem read_bits (s : ByteArray) (hz : s.size ≤ 140737488351232) (h : Lib.hasPrefix s.data.toList zf.data.toList = true) : ∃ t m x, ReadIs s t m x := by
  have hs : s.size ≤ maxLen := Nat.le_trans hz (by decide)
  obtain ⟨t, m, x, hb⟩ := bitsT_form (offm s)
  exact ⟨t, m, x, fun w _ => Read_bits s t m x w hs h hb⟩
theorem read_rest (s : ByteArray) (hz : s.size ≤ 140737488351232) (h : Lib.hasPrefix s.data.toList zf.data.toList = false) : ∃ t m x, ReadIs s t m x := by
  have hs : s.size ≤ maxLen := Nat.le_trans hz (by decide)
  cases hb : bad s
  · rcases pt_cases (unsg s) with ⟨hp, q1, q2⟩ | ⟨i, hp, hi, q1, q2, q3, q4⟩
    · have ha : allB (unsg s) dec = true := by
        unfold bad ahd pnt at hb
        rw [q1, q2] at hb
        simpa using hb
      have hm := allB_mem ha
      have hne := allB_ne ha
      have P : (∃ v, Lib.parseIntB 64 s.data.toList = .ok v) ∨ Lib.parseIntB 64 s.data.toList = .range := by
        rcases dash_cases s with ⟨d1, d2, _⟩ | ⟨d1, d2⟩
        · rw [d2, pI_neg _ hm hne]
          split
          · exact .inl ⟨_, rfl⟩
          · exact .inr rfl
        · rw [d2] at hm hne
          rw [pI_pos _ hm hne]
          split
          · exact .inl ⟨_, rfl⟩
          · exact .inr rfl
      rcases P with ⟨v, p1⟩ | p1
      · exact ⟨_, _, _, fun w _ => Read_int s v w hs (by omega) h hb q1 p1⟩
      · exact ⟨_, _, _, fun w he => Read_intR s w hs (by omega) h hb q1 p1 he⟩
    · have a1 : allB ((unsg s).extract 0 i) dec = true := by
        unfold bad ahd at hb; rw [q2] at hb; simp at hb; exact hb.1
      have a2 : allB ((unsg s).extract (i + 1) (unsg s).size) dec = true := by
        unfold bad ahd bhd pnt at hb; rw [q1, q2, q3] at hb; simp at hb; exact hb.2
      have z1 : (ahd s).size = i := by unfold ahd; rw [q2, ByteArray.size_extract]; omega
      have z2 : (bhd s).size = (unsg s).size - (i + 1) := by unfold bhd; rw [q3, ByteArray.size_extract]; omega
      by_cases hl : 15 < (ahd s).size + (bhd s).size
      · exact ⟨_, _, _, fun w _ => Read_ptR s w hs hz h hb q1 hl⟩
      · have hd : (ahd s ++ bhd s).data.toList = ptL (unsg s) i := by
          rw [ByteArray.data_append, Array.toList_append]
          unfold ahd bhd
          rw [q2, q3, ex_lo, ex_hi]; rfl
        have hv : Lib.parseIntB 64 (ahd s ++ bhd s).data.toList = .ok (decV (ptL (unsg s) i) : Int) := by
          rw [hd]
          have hm : ∀ c ∈ ptL (unsg s) i, 48 ≤ c.toNat ∧ c.toNat ≤ 57 := fun c hc => by
            unfold ptL at hc
            rw [List.mem_append, ← ex_lo, ← ex_hi] at hc
            rcases hc with hc | hc
            · exact allB_mem a1 c hc
            · exact allB_mem a2 c hc
          have hn : ptL (unsg s) i ≠ [] := by
            unfold ptL
            have := allB_ne a1
            rw [ex_lo] at this
            simp [this]
          have hlt := decV_lt (ptL (unsg s) i) (fun c hc => (hm c hc).2) 15 (by have := ptL_len (unsg s) i hi; omega)
          rw [pI_pos _ hm hn, if_pos (by have : 10 ^ 15 = 1000000000000000 := by decide
                                         omega)]
        cases hd' : Lib.hasPrefix s.data.toList dash.data.toList
        · exact ⟨_, _, _, fun w _ => Read_pt s _ w hs h hb q1 (by omega) hv hd'⟩
        · exact ⟨_, _, _, fun w _ => Read_ptM s _ w hs h hb q1 (by omega) hv hd'⟩
  · exact ⟨_, _, _, fun w _ => Read_bad s w hs h hb⟩
theorem read_all (s : ByteArray) (hz : s.size ≤ 140737488351232) : ∃ t m x, ReadIs s t m x := by
  cases h : Lib.hasPrefix s.data.toList zf.data.toList
  · exact read_rest s hz h
  · exact read_bits s hz h
end Go.Proofs.YtidokamfppdnaaaGreatDoor
