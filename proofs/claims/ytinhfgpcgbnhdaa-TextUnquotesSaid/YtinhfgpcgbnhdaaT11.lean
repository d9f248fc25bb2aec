/- Unquote: the text of a quote. -/
import Derived.Test.YtinhfgpcgbnhdaaT10
import Derived.Test.YtinhfgpcgbnhdaaL2
namespace Go.Proofs.Ytinhfgpcgbnhdaa
open Go.RowKit

theorem fb_size (l : List Nat) : (fbL l).2 = 0 ∨ (fbL l).2 = 1 ∨ (fbL l).2 = 4 := by
  unfold fbL
  split
  · simp
  · split
    · simp
    · split
      · simp
      · split <;> simp
theorem fb_le (l : List Nat) (h : l ≠ []) : (fbL l).2 ≤ l.length := by
  have h0 : 0 < l.length := List.length_pos_iff.2 h
  unfold fbL
  split
  · show 1 ≤ l.length; omega
  · split
    · exact Nat.zero_le _
    · rename_i hh
      split
      · exact Nat.zero_le _
      · split
        · exact Nat.zero_le _
        · show 4 ≤ l.length; omega
theorem fb_lt (l : List Nat) (hl : ∀ a ∈ l, a < 256) : (fbL l).1 < 256 := by
  have h0 : l.getD 0 0 < 256 := by
    cases l with
    | nil => decide
    | cons a l => exact hl a (by simp)
  unfold fbL
  split
  · exact h0
  · split
    · decide
    · split
      · decide
      · split
        · decide
        · have b1 := hexI_bd (l.getD 2 0)
          have b2 := hexI_bd (l.getD 3 0)
          show (hexI (l.getD 2 0)).toNat * 16 + (hexI (l.getD 3 0)).toNat < 256
          omega

/-- The bytes that the inside of a quote tells; none: it is no inside. -/
def unqL (l : List Nat) : Option (List Nat) :=
  if _h : l = [] then some [] else if _h2 : (fbL l).2 = 0 then none else (unqL (l.drop (fbL l).2)).map ((fbL l).1 :: ·)
  termination_by l.length
  decreasing_by
    have h0 : 0 < l.length := List.length_pos_iff.2 _h
    rw [List.length_drop]; omega

theorem unq_nil : unqL [] = some [] := by rw [unqL]; simp
theorem unq_none {l : List Nat} (h : l ≠ []) (h2 : (fbL l).2 = 0) : unqL l = none := by rw [unqL]; simp [h, h2]
theorem unq_some {l : List Nat} (h : l ≠ []) (h2 : (fbL l).2 ≠ 0) : unqL l = (unqL (l.drop (fbL l).2)).map ((fbL l).1 :: ·) := by
  conv => lhs; rw [unqL]
  simp [h, h2]

/-- What Unquote gives. -/
def unquoteB (s : ByteArray) : Bool := decide (2 ≤ s.size) && ((bl s).getD 0 0 == 34 && (bl s).getD (s.size - 1) 0 == 34)
def unquoteT (s : ByteArray) : Value :=
  if unquoteB s then (match unqL (bl (s.extract 1 (s.size - 1))) with | some l => .tuple #[.string (str l), .int .i64 0] | none => .tuple #[.string ⟨#[]⟩, .int .i64 6])
  else .tuple #[.string ⟨#[]⟩, .int .i64 6]

def strLen : Value → Nat
  | .string t => t.size
  | _ => 0

theorem bl_drop (t : ByteArray) (k : Nat) : bl (t.extract k t.size) = (bl t).drop k := by
  unfold bl; rw [Lib.extract_to_end, List.map_drop]
theorem bl_ne {t : ByteArray} (h : 0 < t.size) : bl t ≠ [] := by
  intro e; have := bl_len t; rw [e] at this; simp at this; omega

set_option maxHeartbeats 2000000 in
theorem Unquote_any (s : ByteArray) (w : World) (hs : s.size ≤ 20000) :
    Calls Try.prog 26 #[.string s] w fun e w' => e = .returned (unquoteT s) ∧ Below w.heap.size w w' := by
  obtain ⟨i0, hi, hz0, hz1, hz2⟩ := info_parts info5
  cases hb : unquoteB s
  · have HU : Hid (unquoteT s = .tuple #[.string ⟨#[]⟩, .int .i64 6]) := by show _ = _; unfold unquoteT; rw [hb]; rfl
    unfold unquoteB at hb
    by_cases h2 : 2 ≤ s.size
    · rw [bl_getD s 0 (by omega), bl_getD s (s.size - 1) (by omega), decide_eq_true h2, Bool.true_and] at hb
      by_cases h3 : s[0].toNat = 34
      · have h4 : ¬ s[s.size - 1].toNat = 34 := by intro h; rw [h3, h] at hb; exact absurd hb (by decide)
        have e3 : (s[0].toNat : Int) = 34 := by omega
        have e4 : ((s[s.size - 1].toNat : Int) != 34) = true := by simp; omega
        clear hb h3 h4
        go_enter Try.func26, Try.ntmps26
        go_wp2
        go_ret2
        exact ⟨by rw [HU.out]; rfl, Below.refl _ _⟩
      · have e3 : ((s[0].toNat : Int) != 34) = true := by simp; omega
        clear hb h3
        go_enter Try.func26, Try.ntmps26
        go_wp2
        go_ret2
        exact ⟨by rw [HU.out]; rfl, Below.refl _ _⟩
    · clear hb
      go_enter Try.func26, Try.ntmps26
      go_wp2
      go_ret2
      exact ⟨by rw [HU.out]; rfl, Below.refl _ _⟩
  · have hb' := hb
    unfold unquoteB at hb
    simp only [Bool.and_eq_true, decide_eq_true_eq, beq_iff_eq] at hb
    obtain ⟨h2, h3, h4⟩ := hb
    rw [bl_getD s 0 (by omega)] at h3
    rw [bl_getD s (s.size - 1) (by omega)] at h4
    have e3 : (s[0].toNat : Int) = 34 := by omega
    have e4 : (s[s.size - 1].toNat : Int) = 34 := by omega
    clear h3 h4
    have HU : Hid (unquoteT s = match unqL (bl (s.extract 1 (s.size - 1))) with | some l => .tuple #[.string (str l), .int .i64 0] | none => .tuple #[.string ⟨#[]⟩, .int .i64 6]) := by
      show _ = _; unfold unquoteT; rw [hb']; rfl
    clear hb'
    go_enter Try.func26, Try.ntmps26
    go_wp2_with (first | (at_make; refine wpList_make_own _ rfl _ _ 48 rfl w.heap.size 5 i0 (.int .u8 0) 1 Try.underlying48 hi hz0 hz1 .i64 .i64 _ (s.size - 1 - 1) rfl rfl ?_ ?_ ?_ ?_ ?_))
    · rfl
    · rw [hz2]; omega
    · unfold maxLen; omega
    · exact Nat.le_refl _
    intro w1 hown1 hgrow1
    have HB1 : Hid (Below w.heap.size w w1) := (Below.refl _ _).grown hgrow1 (Nat.le_refl _) (fun k hk => by cases hk)
    have HO1 : Hid (w1.ownsRow w.heap.size 5 1 (.slice (some ⟨w.heap.size, 0, none⟩) 0 (s.size - 1 - 1)) 0 (bc [])) := hown1
    clear hown1 hgrow1
    have hIs : (s.extract 1 (s.size - 1)).size ≤ 20000 := by rw [ByteArray.size_extract]; omega
    generalize hI : s.extract 1 (s.size - 1) = I at HU hIs ⊢
    have HI : Hid (s.extract 1 (s.size - 1) = I) := hI
    clear hI
    generalize hB : w.heap.size = B at HB1 HO1 ⊢
    go_wp2_with fail
    go_loopw [4, 5, 6, 7] (fun r q _ _ wr => ∃ (t : ByteArray) (acc : List Nat) (n g cap : Nat), r = .string t ∧ q = .slice (some ⟨g, 0, none⟩) n cap ∧ n + t.size ≤ 20000 ∧ Hid (wr.ownsRow B 5 1 (.slice (some ⟨g, 0, none⟩) n cap) n (bc acc)) ∧ Hid (Below B w wr) ∧ Hid (unqL (bl I) = (unqL (bl t)).map (acc ++ ·))) (fun r _ _ _ _ => strLen r)
    case atStart => exact ⟨I, [], 0, B, _, rfl, rfl, by omega, HO1.out, HB1.out, by show _ = _; cases unqL (bl I) <;> rfl⟩
    case round =>
      clear HO1 HB1
      obtain ⟨t, acc, n, g, cap, rfl, rfl, hn, HO, HB, HQ⟩ := hrel
      have hbr : B ≤ wr.heap.size := by have := HB.out.size; omega
      by_cases h0 : 0 < t.size
      · have hne : t.toList.isEmpty = false := by
          rw [ByteArray.toList_eq, Bool.eq_false_iff]; intro e
          rw [List.isEmpty_iff] at e
          have hz : t.size = 0 := by show t.data.toList.length = 0; rw [e]; rfl
          omega
        have htm : t.size ≤ maxLen := by unfold maxLen; omega
        obtain ⟨v, hv⟩ : ∃ v, v = (fbL (bl t)).1 := ⟨_, rfl⟩
        obtain ⟨k, hk⟩ : ∃ k, k = (fbL (bl t)).2 := ⟨_, rfl⟩
        have f1 := firstByte_any t
        rw [← hv, ← hk] at f1
        have F1 : Hid (∀ w, 0 < t.size → t.size ≤ maxLen → Calls Try.prog 33 #[.string t] w fun e w' => e = .returned (.tuple #[.int .u8 (v : Int), .int .i64 (k : Int)]) ∧ Below w.heap.size w w') := f1
        have hkt : k ≤ t.size := by rw [hk, ← bl_len]; exact fb_le _ (bl_ne h0)
        have hvl : v < 256 := by rw [hv]; exact fb_lt _ (bl_lt t)
        have HVK : Hid (v = (fbL (bl t)).1 ∧ k = (fbL (bl t)).2) := ⟨hv, hk⟩
        clear f1 hv hk
        by_cases hk0 : k = 0
        · subst hk0
          have HF : Hid (unquoteT s = .tuple #[.string ⟨#[]⟩, .int .i64 6]) := by
            show _ = _
            rw [HU.out, HQ.out, unq_none (bl_ne h0) HVK.out.2.symm]; rfl
          go_wp2_with (first | (go_at_call 33; refine (F1.out _ h0 htm).mono ?_; rintro e w2 ⟨rfl, hb2⟩))
          go_ret2
          exact ⟨by rw [HF.out]; rfl, by rw [hB]; exact HB.out.trans (hb2.mono hbr)⟩
        · have HQ' : Hid (unqL (bl I) = (unqL (bl (t.extract k t.size))).map ((acc ++ [v]) ++ ·)) := by
            show _ = _
            rw [HQ.out, bl_drop, unq_some (bl_ne h0) (by rw [← HVK.out.2]; exact hk0), ← HVK.out.1, ← HVK.out.2, Option.map_map]
            congr 1
            funext x; simp
          have k1 : (0 : Int) ≤ (k : Int) := by omega
          have k2 : (k : Int) ≤ (t.size : Int) := by omega
          have hk0' : ((k : Int) == 0) = false := by simp; omega
          go_wp2_with fail
          refine (F1.out _ h0 htm).mono ?_
          rintro e w2 ⟨rfl, hb2⟩
          have HO2 : Hid (w2.ownsRow B 5 1 (.slice (some ⟨g, 0, none⟩) n cap) n (bc acc)) := HO.out.kept (grown_of_below hb2) (Or.inr (by simp [Value.ownBlock]))
          have HB2 : Hid (Below B w w2) := HB.out.trans (hb2.mono hbr)
          have hb2' : B ≤ w2.heap.size := Nat.le_trans hbr hb2.size
          clear hb2 HO HB
          go_wp2_with (first | (at_builtin; refine wpList_append_lies _ rfl _ _ 48 rfl B 5 i0 (.int .u8 0) 1 1 Try.underlying48 hi hz0 hz1 hz2 rfl (by decide) _ n (bc acc) rfl (HO2.out.alloc _) ⟨w2.heap.size, 0, none⟩ 1 1 [.int .u8 v] rfl rfl ?_ ?_ (by decide) ?_ ?_ ?_ (w2.heap.size + 1) ?_ ?_))
          · exact World.news_of_block (cs := #[.int .u8 v]) (t := 5) (fr := (0, 0)) (heap_alloc_new w2 _)
          · exact bc_one [v]
          · unfold maxLen; omega
          · omega
          · simp; omega
          · simp
          intro g4 cap4 w4 hown4 hgrow4 _ _
          have HB4 : Hid (Below B w w4) := HB2.out.trans (((Below.refl _ _).alloc hb2' _).trans (below_own hgrow4 (HO2.out.alloc _) (by simp; omega)))
          have HO4 : Hid (w4.ownsRow B 5 1 (.slice (some ⟨g4, 0, none⟩) (n + 1) cap4) (n + 1) (bc (acc ++ [v]))) := by
            show World.ownsRow _ _ _ _ _ _ _; rw [bc_append]; exact hown4
          clear hown4 hgrow4 HO2 HB2
          go_wp2
          go_roundw
          case rel => exact ⟨t.extract k t.size, acc ++ [v], n + 1, g4, cap4, rfl, rfl, by rw [ByteArray.size_extract]; omega, HO4.out, HB4.out, HQ'.out⟩
          case measure => simp only [strLen, ByteArray.size_extract]; omega
      · have hz : t.size = 0 := by omega
        have het : t = ⟨#[]⟩ := by
          apply Go.WideShapes.bytes_inj
          have : t.data.toList.length = 0 := hz
          exact List.eq_nil_of_length_eq_zero this
        subst het
        have HF : Hid (unquoteT s = .tuple #[.string (str acc), .int .i64 0]) := by
          show _ = _
          rw [HU.out, HQ.out, show bl ⟨#[]⟩ = [] from rfl, unq_nil]; simp
        have hcv := conv_own HO.out
        go_wp2
        go_ret2
        exact ⟨by rw [HF.out]; rfl, by rw [hB]; exact HB.out⟩
end Go.Proofs.Ytinhfgpcgbnhdaa
