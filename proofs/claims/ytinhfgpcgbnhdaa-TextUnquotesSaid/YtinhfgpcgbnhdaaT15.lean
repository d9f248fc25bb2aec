/- The document's Unquote. -/
import Derived.Test.YtinhfgpcgbnhdaaL5
import Derived.Deep.QuietTactic
import Derived.BigQuiet
namespace Go.Proofs.Ytinhfgpcgbnhdaa
open Go.RowKit

/-- What is left of a quote's inside from a place on. -/
def rest (s : ByteArray) (at' : Nat) : List Nat := ((bl s).drop at').take (s.size - 1 - at')
/-- Does the byte b, as a quote has it, stand at a place? -/
def mt (s : ByteArray) (at' b : Nat) : Bool := decide (at' + (qb b).length ≤ s.size - 1) && ((s.extract at' (at' + (qb b).length)).toList == (str (qb b)).toList)

theorem rest_len (s : ByteArray) (a : Nat) : (rest s a).length = s.size - 1 - a := by
  unfold rest; rw [List.length_take, List.length_drop, bl_len]; omega
theorem rest_drop (s : ByteArray) (a k : Nat) : (rest s a).drop k = rest s (a + k) := by
  unfold rest; rw [List.drop_take, List.drop_drop, show s.size - 1 - a - k = s.size - 1 - (a + k) by omega]
theorem rest_in (s : ByteArray) : rest s 1 = bl (s.extract 1 (s.size - 1)) := by rw [bl_extract]; rfl
theorem rest_lt (s : ByteArray) (a : Nat) : ∀ x ∈ rest s a, x < 256 := fun x hx => bl_lt s x (List.mem_of_mem_drop (List.mem_of_mem_take hx))

theorem qb_lt (b : Nat) (hb : b < 256) : ∀ a ∈ qb b, a < 256 := by
  intro a ha
  cases hp : pl b
  · rw [qb_hex hp] at ha
    have d1 := dg_bd (b / 16) (by omega)
    have d2 := dg_bd (b % 16) (by omega)
    simp only [List.mem_cons, List.not_mem_nil, or_false] at ha
    omega
  · rw [qb_plain hp] at ha
    simp only [List.mem_cons, List.not_mem_nil, or_false] at ha
    omega

theorem toList_eq_iff {a b : ByteArray} : ((a.toList == b.toList) = true) ↔ a = b := by
  constructor
  · intro h
    rcases Classical.em (a = b) with e | e
    · exact e
    · rw [toList_ne e] at h; cases h
  · rintro rfl; simp

theorem mt_iff (s : ByteArray) (a b : Nat) (hb : b < 256) : mt s a b = true ↔ ∃ r, rest s a = qb b ++ r := by
  unfold mt
  rw [Bool.and_eq_true, decide_eq_true_eq, toList_eq_iff]
  have hz := rest_len s a
  constructor
  · rintro ⟨h1, h2⟩
    have h3 : bl (s.extract a (a + (qb b).length)) = qb b := by rw [h2, bl_str _ (qb_lt b hb)]
    rw [bl_extract, show a + (qb b).length - a = (qb b).length by omega] at h3
    refine ⟨(rest s a).drop (qb b).length, ?_⟩
    have h4 : (rest s a).take (qb b).length = qb b := by
      unfold rest
      rw [List.take_take, Nat.min_eq_left (by omega)]; exact h3
    conv => lhs; rw [← List.take_append_drop (qb b).length (rest s a), h4]
  · rintro ⟨r, hr⟩
    have hl : (qb b).length ≤ (rest s a).length := by rw [hr, List.length_append]; omega
    have hq := (qb_len b).1
    refine ⟨by omega, ?_⟩
    apply bl_inj
    rw [bl_str _ (qb_lt b hb), bl_extract, show a + (qb b).length - a = (qb b).length by omega]
    have h4 : (rest s a).take (qb b).length = qb b := by rw [hr, List.take_left]
    unfold rest at h4
    rw [List.take_take, Nat.min_eq_left (by omega)] at h4
    exact h4

theorem mt_fb (s : ByteArray) (a b : Nat) (hb : b < 256) (h : mt s a b = true) : fbL (rest s a) = (b, (qb b).length) := by
  obtain ⟨r, hr⟩ := (mt_iff s a b hb).1 h
  rw [hr]; exact fb_qb b hb r

theorem dg_hexI (n : Nat) (h : ¬ hexI n < 0) : dg (hexI n).toNat = n ∧ (hexI n).toNat < 16 := by
  unfold hexI at h ⊢
  split
  · rename_i h1
    have e : ((n : Int) - 48).toNat = n - 48 := by omega
    rw [e]; unfold dg; split <;> omega
  · split
    · rename_i h1
      have e : ((n : Int) - 87).toNat = n - 87 := by omega
      rw [e]; unfold dg; split <;> omega
    · simp_all

theorem fb_prefix (l : List Nat) (h : (fbL l).2 ≠ 0) (hl : ∀ x ∈ l, x < 256) : (fbL l).1 < 256 ∧ ∃ r, l = qb (fbL l).1 ++ r := by
  refine ⟨fb_lt l hl, ?_⟩
  by_cases hp : pl (l.getD 0 0) = true
  · have e : fbL l = (l.getD 0 0, 1) := by unfold fbL; rw [if_pos hp]
    rw [e]
    show ∃ r, l = qb (l.getD 0 0) ++ r
    rw [qb_plain hp]
    cases l with
    | nil => exact absurd hp (by decide)
    | cons a l => exact ⟨l, rfl⟩
  · by_cases h2 : l.length < 4 ∨ l.getD 0 0 ≠ 92 ∨ l.getD 1 0 ≠ 120
    · exact absurd (by unfold fbL; rw [if_neg hp, if_pos h2]) h
    · by_cases h3 : hexI (l.getD 2 0) < 0 ∨ hexI (l.getD 3 0) < 0
      · exact absurd (by unfold fbL; rw [if_neg hp, if_neg h2, if_pos h3]) h
      · by_cases h4 : pl ((hexI (l.getD 2 0)).toNat * 16 + (hexI (l.getD 3 0)).toNat) = true
        · exact absurd (by unfold fbL; rw [if_neg hp, if_neg h2, if_neg h3, if_pos h4]) h
        · have e : fbL l = ((hexI (l.getD 2 0)).toNat * 16 + (hexI (l.getD 3 0)).toNat, 4) := by unfold fbL; rw [if_neg hp, if_neg h2, if_neg h3, if_neg h4]
          rw [e]
          have d1 := dg_hexI (l.getD 2 0) (by omega)
          have d2 := dg_hexI (l.getD 3 0) (by omega)
          show ∃ r, l = qb ((hexI (l.getD 2 0)).toNat * 16 + (hexI (l.getD 3 0)).toNat) ++ r
          rw [qb_hex (by simpa using h4), show ((hexI (l.getD 2 0)).toNat * 16 + (hexI (l.getD 3 0)).toNat) / 16 = (hexI (l.getD 2 0)).toNat by omega, show ((hexI (l.getD 2 0)).toNat * 16 + (hexI (l.getD 3 0)).toNat) % 16 = (hexI (l.getD 3 0)).toNat by omega, d1.1, d2.1]
          match l, h2 with
          | a :: b :: c :: d :: r, h2 =>
            simp only [List.getD_cons_zero, List.getD_cons_succ] at h2 ⊢
            have ha : a = 92 := by omega
            have hb : b = 120 := by omega
            exact ⟨r, by rw [ha, hb]; rfl⟩
          | [], h2 => exact absurd (Or.inl (by decide)) h2
          | [_], h2 => exact absurd (Or.inl (by simp)) h2
          | [_, _], h2 => exact absurd (Or.inl (by simp)) h2
          | [_, _, _], h2 => exact absurd (Or.inl (by simp)) h2

theorem none_fb (s : ByteArray) (a : Nat) (h : ∀ b, b < 256 → mt s a b = false) : (fbL (rest s a)).2 = 0 := by
  rcases Classical.em ((fbL (rest s a)).2 = 0) with e | e
  · exact e
  · obtain ⟨h1, r, h2⟩ := fb_prefix (rest s a) e (rest_lt s a)
    have := (mt_iff s a _ h1).2 ⟨r, h2⟩
    rw [h _ h1] at this; cases this

theorem unquote_alt (s : ByteArray) (h2 : 2 ≤ s.size) : unquoteT s = match unqL (rest s 1) with | some l => (if (bl s).getD 0 0 == 34 && (bl s).getD (s.size - 1) 0 == 34 then .tuple #[.string (str l), .int .i64 0] else .tuple #[.string ⟨#[]⟩, .int .i64 6]) | none => .tuple #[.string ⟨#[]⟩, .int .i64 6] := by
  rw [rest_in]
  unfold unquoteT unquoteB
  rw [decide_eq_true h2, Bool.true_and]
  cases (bl s).getD 0 0 == 34 && (bl s).getD (s.size - 1) 0 == 34
  · cases unqL (bl (s.extract 1 (s.size - 1))) <;> rfl
  · cases unqL (bl (s.extract 1 (s.size - 1))) <;> rfl
theorem own_ne (v : Value) : v.ownBlock = none ∨ v.ownBlock ≠ none := by
  cases v.ownBlock
  · exact Or.inl rfl
  · exact Or.inr (by simp)

theorem conv_any {w : World} {base n : Nat} {v : Value} {xs : List Nat} (h : w.ownsRow base 5 1 v n (bc xs)) : (convert 48 9 v).run Try.prog w = .ok (.string (str xs)) w := by
  rcases h.2 with ⟨rfl, h0⟩ | ⟨g, cap, cur, rfl, _⟩
  · have hl : xs = [] := by have := h.1; subst h0; exact List.eq_nil_of_length_eq_zero (by simpa [bc] using this)
    subst hl
    exact run_convert_bytes_nil (P := Try.prog) w 48 5 Try.underlying48 Try.underlying5 0 0 9 Try.underlying9
  · exact conv_own h

set_option maxHeartbeats 4000000 in
theorem RUnquote_any (s : ByteArray) (w : World) (hs : s.size ≤ 500) :
    Calls Try.prog 27 #[.string s] w fun e w' => e = .returned (unquoteT s) ∧ Below w.heap.size w w' := by
  obtain ⟨i0, hi, hz0, hz1, hz2⟩ := info_parts info5
  by_cases h2 : 2 ≤ s.size
  · have HU : Hid (unquoteT s = match unqL (rest s 1) with | some l => (if (bl s).getD 0 0 == 34 && (bl s).getD (s.size - 1) 0 == 34 then .tuple #[.string (str l), .int .i64 0] else .tuple #[.string ⟨#[]⟩, .int .i64 6]) | none => .tuple #[.string ⟨#[]⟩, .int .i64 6]) := unquote_alt s h2
    go_enter Try.func27, Try.ntmps27
    go_wp2_with fail
    go_loopw [4, 5] (fun o a wr => ∃ (p : Nat) (acc : List Nat), 1 ≤ p ∧ p ≤ s.size - 1 ∧ a = .int .i64 p ∧ acc.length ≤ p ∧ Hid (wr.ownsRow w.heap.size 5 1 o acc.length (bc acc)) ∧ Hid (Below w.heap.size w wr) ∧ Hid (unqL (rest s 1) = (unqL (rest s p)).map (acc ++ ·))) (fun _ a _ => s.size - (intOf a).toNat)
    case atStart => exact ⟨1, [], Nat.le_refl _, by omega, rfl, Nat.zero_le _, World.ownsRow_nil _ _ _ _, Below.refl _ _, by show _ = _; cases unqL (rest s 1) <;> rfl⟩
    case round =>
      obtain ⟨p, acc, hp1, hp2, rfl, hacc, HO, HB, HQ⟩ := hrel
      by_cases hlt : p < s.size - 1
      · have HRn : Hid (rest s p ≠ []) := by
          intro e; have := rest_len s p; rw [e] at this; simp at this; omega
        have p1 : (p : Int) < (s.size : Int) - 1 := by omega
        go_wp2_with fail
        go_loopw [4, 5, 6, 7] (fun o a f b wr => ∃ j : Nat, j ≤ 256 ∧ b = .int .i64 j ∧ Hid (Below w.heap.size w wr) ∧ ((f = .bool false ∧ a = .int .i64 p ∧ Hid (wr.ownsRow w.heap.size 5 1 o acc.length (bc acc)) ∧ Hid (∀ b', b' < j → mt s p b' = false)) ∨ (f = .bool true ∧ ∃ v q : Nat, v < 256 ∧ a = .int .i64 q ∧ Hid (q = p + (qb v).length ∧ mt s p v = true) ∧ p < q ∧ q ≤ s.size - 1 ∧ Hid (wr.ownsRow w.heap.size 5 1 o (acc.length + 1) (bc (acc ++ [v])))))) (fun _ _ _ b _ => 256 - (intOf b).toNat)
        case atStart => exact ⟨0, Nat.zero_le _, rfl, HB.out, Or.inl ⟨rfl, rfl, HO.out, fun b' h => absurd h (by omega)⟩⟩
        case round =>
          clear HO HB
          obtain ⟨j, hj, rfl, HB, hcase⟩ := hrel
          have hbr : w.heap.size ≤ wr.heap.size := HB.out.size
          rcases hcase with ⟨rfl, rfl, HO, HN⟩ | ⟨rfl, v, q, hv, rfl, HVQ, hpq, hq, HO⟩
          · by_cases hj2 : j < 256
            · obtain ⟨T, hT⟩ : ∃ T, T = str (qb j) := ⟨_, rfl⟩
              obtain ⟨L, hL⟩ : ∃ L, L = (qb j).length := ⟨_, rfl⟩
              have hTs : T.size = L := by rw [hT, str_size, hL]
              have hL1 : 1 ≤ L ∧ L ≤ 4 := by rw [hL]; exact qb_len j
              have O1 : Hid (∀ w, Calls Try.prog 32 #[.int .u8 (j : Int)] w fun e w' => e = .returned (.string T) ∧ Below w.heap.size w w') := by
                intro w; rw [hT]; exact one_any j w hj2
              have j0 : (j : Int) % 256 = (j : Int) := by omega
              have j1 : (j : Int) < 256 := by omega
              have HMT : Hid (mt s p j = (decide (p + L ≤ s.size - 1) && ((s.extract p (p + L)).toList == T.toList))) := by show _ = _; rw [hT, hL]; rfl
              have HL : Hid (L = (qb j).length) := hL
              clear hT hL
              by_cases h1 : p + L ≤ s.size - 1
              · have e1 : (p : Int) + (L : Int) ≤ (s.size : Int) - 1 := by omega
                cases h3 : ((s.extract p (p + L)).toList == T.toList)
                · have HN' : Hid (∀ b', b' < j + 1 → mt s p b' = false) := by
                    intro b' hb'
                    by_cases e : b' = j
                    · rw [e, HMT.out, h3, Bool.and_false]
                    · exact HN.out b' (by omega)
                  clear HMT
                  go_wp2_with fail
                  refine (O1.out _).mono ?_
                  rintro e w2 ⟨rfl, hb2⟩
                  have HB2 : Hid (Below w.heap.size w w2) := HB.out.trans (hb2.mono hbr)
                  have HO2 : Hid (w2.ownsRow w.heap.size 5 1 u4 acc.length (bc acc)) := HO.out.kept (grown_of_below hb2) (own_ne _)
                  clear hb2 HB HO
                  go_wp2
                  go_roundw
                  case rel => exact ⟨j + 1, by omega, by go_num, HB2.out, Or.inl ⟨rfl, rfl, HO2.out, HN'.out⟩⟩
                  case measure => simp [intOf]; omega
                · have HMT' : Hid (mt s p j = true) := by show _ = _; rw [HMT.out, h3, decide_eq_true h1]; rfl
                  obtain ⟨q, hq⟩ : ∃ q, q = p + L := ⟨_, rfl⟩
                  have HQL : Hid (q = p + (qb j).length) := by show _ = _; rw [hq, HL.out]
                  have q1 : (p : Int) + (L : Int) = (q : Int) := by omega
                  have q2 : p < q := by omega
                  have q3 : q ≤ s.size - 1 := by omega
                  have q4 : (q : Int) ≤ (s.size : Int) - 1 := by omega
                  rw [← hq] at h3
                  clear HMT HN hq e1 h1
                  go_wp2_with fail
                  refine (O1.out _).mono ?_
                  rintro e w2 ⟨rfl, hb2⟩
                  have HB2 : Hid (Below w.heap.size w w2) := HB.out.trans (hb2.mono hbr)
                  have HO2 : Hid (w2.ownsRow w.heap.size 5 1 u4 acc.length (bc acc)) := HO.out.kept (grown_of_below hb2) (own_ne _)
                  have hb2' : w.heap.size ≤ w2.heap.size := HB2.out.size
                  clear hb2 HB HO
                  go_wp2_with (first | (at_builtin; refine wpList_append_own _ rfl _ _ 48 rfl w.heap.size 5 i0 (.int .u8 0) 1 1 Try.underlying48 hi hz0 hz1 hz2 rfl (by decide) _ acc.length _ rfl (HO2.out.alloc _) ⟨w2.heap.size, 0, none⟩ 1 1 [.int .u8 j] rfl rfl ?_ ?_ ?_ ?_ ?_ ?_))
                  · exact World.news_of_block (cs := #[.int .u8 j]) (t := 5) (fr := (0, 0)) (heap_alloc_new w2 _)
                  · exact bc_one [j]
                  · unfold maxLen; omega
                  · omega
                  · simp; omega
                  · intro v4 w4 hown4 hgrow4 _
                    have HO4 : Hid (w4.ownsRow w.heap.size 5 1 v4 (acc.length + 1) (bc (acc ++ [j]))) := by
                      show World.ownsRow _ _ _ _ _ _ _; rw [bc_append]; exact hown4
                    have HB4 : Hid (Below w.heap.size w w4) := HB2.out.trans (((Below.refl _ _).alloc hb2' _).grown hgrow4 (by simp; omega) (fun x hx => (HO2.out.lt x hx).1))
                    clear hown4 hgrow4 HO2 HB2
                    go_wp2
                    go_roundw
                    case rel => exact ⟨j + 1, by omega, by go_num, HB4.out, Or.inr ⟨rfl, j, q, hj2, rfl, ⟨HQL.out, HMT'.out⟩, q2, q3, HO4.out⟩⟩
                    case measure => simp [intOf]; omega
              · obtain ⟨q, hq⟩ : ∃ q, q = p + L := ⟨_, rfl⟩
                have q1 : (p : Int) + (L : Int) = (q : Int) := by omega
                have e1 : (s.size : Int) - 1 < (q : Int) := by omega
                have q5 : q ≤ 1000 := by omega
                have e6 : decide ((q : Int) ≤ (s.size : Int) - 1) = false := by rw [decide_eq_false]; omega
                clear hq e1
                have HN' : Hid (∀ b', b' < j + 1 → mt s p b' = false) := by
                  intro b' hb'
                  by_cases e : b' = j
                  · rw [e, HMT.out, decide_eq_false h1, Bool.false_and]
                  · exact HN.out b' (by omega)
                clear HMT HN h1
                go_wp2_with fail
                refine (O1.out _).mono ?_
                rintro e w2 ⟨rfl, hb2⟩
                have HB2 : Hid (Below w.heap.size w w2) := HB.out.trans (hb2.mono hbr)
                have HO2 : Hid (w2.ownsRow w.heap.size 5 1 u4 acc.length (bc acc)) := HO.out.kept (grown_of_below hb2) (own_ne _)
                clear hb2 HB HO
                go_wp2
                go_roundw
                case rel => exact ⟨j + 1, by omega, by go_num, HB2.out, Or.inl ⟨rfl, rfl, HO2.out, HN'.out⟩⟩
                case measure => simp [intOf]; omega
            · have hj3 : j = 256 := by omega
              subst hj3
              have HF : Hid (unquoteT s = .tuple #[.string ⟨#[]⟩, .int .i64 6]) := by
                show _ = _
                rw [HU.out, HQ.out, unq_none HRn.out (none_fb s p HN.out)]; rfl
              go_wp2
              go_ret2
              exact ⟨by rw [HF.out]; rfl, HB.out⟩
          · have HF := mt_fb s p v hv HVQ.out.2
            have HQ' : Hid (unqL (rest s 1) = (unqL (rest s q)).map ((acc ++ [v]) ++ ·)) := by
              have hqv := qb_len v
              show _ = _
              rw [HQ.out, unq_some HRn.out (by rw [HF]; show (qb v).length ≠ 0; omega), HF, rest_drop, ← HVQ.out.1, Option.map_map]
              congr 1
              funext x; simp
            have hal : (acc ++ [v]).length = acc.length + 1 := by simp
            have HO' : Hid (wr.ownsRow w.heap.size 5 1 u4 (acc ++ [v]).length (bc (acc ++ [v]))) := by show World.ownsRow _ _ _ _ _ _ _; rw [hal]; exact HO.out
            have hal2 : (acc ++ [v]).length ≤ q := by rw [hal]; omega
            clear HF HO hal
            by_cases hj2 : (j : Int) < 256
            · go_wp2
              go_roundw
              case rel => exact ⟨q, acc ++ [v], by omega, hq, rfl, hal2, HO'.out, HB.out, HQ'.out⟩
              case measure => simp [intOf]; omega
            · go_wp2
              go_roundw
              case rel => exact ⟨q, acc ++ [v], by omega, hq, rfl, hal2, HO'.out, HB.out, HQ'.out⟩
              case measure => simp [intOf]; omega
      · have hpe : p = s.size - 1 := by omega
        have HR0 : Hid (rest s p = []) := List.eq_nil_of_length_eq_zero (by rw [rest_len]; omega)
        have HQ' : Hid (unqL (rest s 1) = some acc) := by show _ = _; rw [HQ.out, HR0.out, unq_nil]; simp
        clear HQ HR0
        have p1 : (s.size : Int) - 1 ≤ (p : Int) := by omega
        have b0 : 0 < s.size := by omega
        have b1 : s.size - 1 < s.size := by omega
        by_cases h3 : s[0].toNat = 34
        · by_cases h4 : s[s.size - 1].toNat = 34
          · have HF : Hid (unquoteT s = .tuple #[.string (str acc), .int .i64 0]) := by
              show _ = _
              rw [HU.out, HQ'.out, bl_getD s 0 (by omega), bl_getD s (s.size - 1) (by omega), h3, h4]; rfl
            have e3 : (s[0].toNat : Int) = 34 := by omega
            have e4 : (s[s.size - 1].toNat : Int) = 34 := by omega
            have hcv := conv_any HO.out
            clear h3 h4
            go_wp2
            go_ret2
            exact ⟨by rw [HF.out]; rfl, HB.out⟩
          · have HF : Hid (unquoteT s = .tuple #[.string ⟨#[]⟩, .int .i64 6]) := by
              show _ = _
              rw [HU.out, HQ'.out, bl_getD s 0 (by omega), bl_getD s (s.size - 1) (by omega)]
              have : (s[s.size - 1].toNat == 34) = false := by simp [h4]
              rw [this, Bool.and_false]; rfl
            have e3 : (s[0].toNat : Int) = 34 := by omega
            have e4 : ((s[s.size - 1].toNat : Int) != 34) = true := by simp; omega
            clear h3 h4
            go_wp2
            go_ret2
            exact ⟨by rw [HF.out]; rfl, HB.out⟩
        · have HF : Hid (unquoteT s = .tuple #[.string ⟨#[]⟩, .int .i64 6]) := by
            show _ = _
            rw [HU.out, HQ'.out, bl_getD s 0 (by omega)]
            have : (s[0].toNat == 34) = false := by simp [h3]
            rw [this, Bool.false_and]; rfl
          have e3 : ((s[0].toNat : Int) != 34) = true := by simp; omega
          clear h3
          go_wp2
          go_ret2
          exact ⟨by rw [HF.out]; rfl, HB.out⟩
  · have HU : Hid (unquoteT s = .tuple #[.string ⟨#[]⟩, .int .i64 6]) := by
      show _ = _; unfold unquoteT unquoteB; rw [decide_eq_false h2]; rfl
    go_enter Try.func27, Try.ntmps27
    go_wp2
    go_ret2
    exact ⟨by rw [HU.out]; rfl, Below.refl _ _⟩
end Go.Proofs.Ytinhfgpcgbnhdaa
