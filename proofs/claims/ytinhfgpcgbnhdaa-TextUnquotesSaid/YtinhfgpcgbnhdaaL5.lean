/- TextBack, walked: a text is the same again out of its cells, and out of its quote. -/
import Derived.Test.YtinhfgpcgbnhdaaT13
import Derived.Test.YtinhfgpcgbnhdaaT11
import Derived.Test.YtinhfgpcgbnhdaaL4
import Derived.Test.YtinhfgpcgbnhdaaL3
namespace Go.Proofs.Ytinhfgpcgbnhdaa
open Go.RowKit

theorem val_div (l : List Nat) (hl : ∀ a ∈ l, a < 256) : ∀ i, val l / 256 ^ i = val (l.drop i) := by
  intro i
  induction i generalizing l with
  | zero => simp
  | succ i ih =>
    cases l with
    | nil => simp [val]
    | cons a l =>
      have ha := hl a (by simp)
      have e : val (a :: l) / 256 = val l := by simp only [val]; omega
      rw [Nat.pow_succ, Nat.mul_comm, ← Nat.div_div_eq_div_mul, e, ih l (fun b hb => hl b (by simp [hb])), List.drop_succ_cons]
theorem val_head (l : List Nat) (hl : ∀ a ∈ l, a < 256) : val l % 256 = l.getD 0 0 := by
  cases l with
  | nil => rfl
  | cons a l => have ha := hl a (by simp); simp only [val, List.getD_cons_zero]; omega
theorem split_val (l : List Nat) (h8 : l.length = 8) (hl : ∀ a ∈ l, a < 256) : splitL (val l) = l := by
  apply List.ext_getElem?
  intro i
  unfold splitL
  by_cases hi : i < 8
  · rw [List.getElem?_map, List.getElem?_range hi, Option.map_some, List.getElem?_eq_getElem (by omega)]
    unfold byteN
    rw [val_div l hl, val_head _ (fun a ha => hl a (List.mem_of_mem_drop ha))]
    simp [List.getD, List.getElem?_eq_getElem (show i < l.length by omega)]
  · rw [List.getElem?_eq_none (by simp; omega), List.getElem?_eq_none (by omega)]

theorem wrap_back (v : Nat) (h : v < 18446744073709551616) : (IntKind.u64.wrap (wrap64 (v : Int))).toNat = v := by
  rw [IntKind.wrap_u64]; unfold wrap64; omega

theorem split_cell (s : ByteArray) (k : Nat) : splitL (IntKind.u64.wrap (wrap64 (cellN (bl s) k))).toNat = chunk (bl s) k := by
  have b := cell_bd s k 0
  rw [List.drop_zero, chunk_val] at b
  rw [wrap_back _ b, ← chunk_val, split_val _ (chunk_len _ _) (chunk_lt s k)]

theorem flat_range (s : ByteArray) (N : Nat) (hN : N = (s.size + 7) / 8) : ∀ k, k ≤ N → (List.range k).flatMap (chunk (bl s)) = (bl s ++ List.replicate (8 * N - s.size) 0).take (8 * k) := by
  intro k
  have hbl := bl_len s
  induction k with
  | zero => intro _; simp
  | succ k ih =>
    intro hk
    rw [List.range_succ, List.flatMap_append, ih (by omega)]
    have e : chunk (bl s) k = ((bl s ++ List.replicate (8 * N - s.size) 0).drop (8 * k)).take 8 := by
      unfold chunk
      rw [List.drop_append_of_le_length (by omega), List.take_append, List.take_replicate, List.length_drop]
      congr 2
      omega
    simp only [List.flatMap_cons, List.flatMap_nil, List.append_nil]
    rw [e, show 8 * (k + 1) = 8 * k + 8 by omega, ← List.take_add]

theorem flat_pack (s : ByteArray) : flat (packL (bl s)) = bl s ++ List.replicate (8 * ((s.size + 7) / 8) - s.size) 0 := by
  have hbl := bl_len s
  have h := flat_range s _ rfl ((s.size + 7) / 8) (Nat.le_refl _)
  rw [List.take_of_length_le (by simp only [List.length_append, List.length_replicate]; omega)] at h
  rw [← h]
  unfold flat packL
  rw [List.flatMap_map, hbl]
  congr 1
  funext k
  exact split_cell s k

theorem str_bl (s : ByteArray) : str (bl s) = s := bl_inj (bl_str _ (bl_lt s))

theorem unpack_pack (s : ByteArray) : unpackT (packL (bl s)) (s.size : Int) = .tuple #[.string s, .int .i64 0] := by
  have hbl := bl_len s
  unfold unpackT
  rw [if_neg, flat_pack, Int.toNat_natCast, if_pos, List.take_append_of_le_length (by omega), List.take_of_length_le (by omega), str_bl]
  · rw [List.drop_append_of_le_length (by omega), List.drop_of_length_le (by omega)]
    simp
  · rintro (h | h)
    · omega
    · exact h (by rw [packs_len]; simp)

theorem hex_dg : ∀ n, n < 16 → hexI (dg n) = (n : Int) := by decide
theorem fb_qb (a : Nat) (ha : a < 256) (r : List Nat) : fbL (qb a ++ r) = (a, (qb a).length) := by
  cases hp : pl a
  · have p92 : pl 92 = false := rfl
    rw [qb_hex hp]
    unfold fbL
    simp only [List.cons_append, List.nil_append, List.getD_cons_zero, List.getD_cons_succ, List.length_cons, List.length_nil]
    rw [p92, if_neg (by decide), if_neg (by omega), hex_dg _ (by omega), hex_dg _ (by omega), if_neg (by omega)]
    have e : ((a / 16 : Nat) : Int).toNat * 16 + ((a % 16 : Nat) : Int).toNat = a := by omega
    rw [e, hp]; rfl
  · rw [qb_plain hp]
    unfold fbL
    simp only [List.cons_append, List.nil_append, List.getD_cons_zero]
    rw [hp]; rfl
theorem qb_ne (a : Nat) : qb a ≠ [] := by intro h; have := qb_len a; rw [h] at this; simp at this
theorem unq_qin : ∀ l : List Nat, (∀ a ∈ l, a < 256) → unqL (qin l) = some l
  | [], _ => unq_nil
  | a :: l, hl => by
    have e : qin (a :: l) = qb a ++ qin l := by simp [qin]
    have hf := fb_qb a (hl a (by simp)) (qin l)
    have hq := qb_len a
    rw [e, unq_some (by intro h; exact qb_ne a (List.append_eq_nil_iff.1 h).1) (by rw [hf]; show (qb a).length ≠ 0; omega), hf]
    show Option.map _ (unqL (List.drop (qb a).length (qb a ++ qin l))) = _
    rw [List.drop_left, unq_qin l (fun b hb => hl b (by simp [hb]))]; rfl

theorem bl_extract (t : ByteArray) (a b : Nat) : bl (t.extract a b) = ((bl t).drop a).take (b - a) := by
  unfold bl; rw [Lib.extract_data, List.map_take, List.map_drop]

theorem unquote_quote (s : ByteArray) : unquoteT (str (quoteL (bl s))) = .tuple #[.string s, .int .i64 0] := by
  have hlt := quote_lt (bl s) (bl_lt s)
  have hbl := bl_str _ hlt
  have hz : (str (quoteL (bl s))).size = (qin (bl s)).length + 2 := by rw [str_size]; simp [quoteL]
  have hb : unquoteB (str (quoteL (bl s))) = true := by
    unfold unquoteB
    rw [hbl, hz]
    simp only [Bool.and_eq_true, decide_eq_true_eq, beq_iff_eq]
    refine ⟨by omega, rfl, ?_⟩
    show (34 :: (qin (bl s) ++ [34])).getD ((qin (bl s)).length + 1) 0 = 34
    simp [List.getD]
  have hin : bl ((str (quoteL (bl s))).extract 1 ((str (quoteL (bl s))).size - 1)) = qin (bl s) := by
    rw [bl_extract, hbl, hz]
    show List.take _ (qin (bl s) ++ [34]) = qin (bl s)
    rw [show (qin (bl s)).length + 2 - 1 - 1 = (qin (bl s)).length by omega, List.take_left]
  unfold unquoteT
  rw [hb, hin, unq_qin _ (bl_lt s)]
  show Value.tuple #[.string (str (bl s)), .int .i64 0] = _
  rw [str_bl]

set_option maxHeartbeats 1000000 in
theorem TextBack_any (s : ByteArray) (w : World) (hs : s.size ≤ maxLen) :
    Calls Try.prog 8 #[.string s] w fun e w' => e = .returned (.bool true) ∧ Below w.heap.size w w' := by
  unfold maxLen at hs
  by_cases hb : (3000 : Int) < (s.size : Int)
  · go_enter Try.func8, Try.ntmps8
    go_wp2_with (first | (go_at_call 11; refine (alive_any _).mono ?_; rintro e w1 ⟨rfl, hb1⟩))
    go_ret
    exact ⟨rfl, hb1⟩
  · have h3 : s.size ≤ 3000 := by omega
    obtain ⟨n, hn⟩ : ∃ n : Nat, n = (s.size + 7) / 8 := ⟨_, rfl⟩
    have p1 := fun w => Pack_any s w h3
    have p2 := fun w => Cells_any s.size w (by omega)
    rw [← hn] at p1 p2
    have P1 : Hid (∀ w, Calls Try.prog 17 #[.string s] w fun e w' => e = .returned (.slice (some ⟨w.heap.size, 0, none⟩) n n) ∧ w'.ownsRow w.heap.size 2 1 (.slice (some ⟨w.heap.size, 0, none⟩) n n) n (ic (packL (bl s))) ∧ Below w.heap.size w w') := p1
    have P2 : Hid (∀ w, Calls Try.prog 19 #[.int .i64 (s.size : Int)] w fun e w' => e = .returned (.int .i64 (n : Int)) ∧ w = w') := p2
    have HL : Hid ((packL (bl s)).length ≤ 400) := by show _ ≤ _; rw [packs_len]; omega
    obtain ⟨Q, hQ⟩ : ∃ Q, Q = str (quoteL (bl s)) := ⟨_, rfl⟩
    have q1 := Quote_any s
    have q2 := unquote_quote s
    have q3 : (str (quoteL (bl s))).size ≤ 20000 := by
      rw [str_size]
      have := (qin_len (bl s)).2
      rw [bl_len] at this
      simp only [quoteL, List.length_cons, List.length_append, List.length_nil]; omega
    rw [← hQ] at q1 q2 q3
    have Q1 : Hid (∀ w, Calls Try.prog 24 #[.string s] w fun e w' => e = .returned (.string Q) ∧ Below w.heap.size w w') := fun w => q1 w h3
    have Q2 : Hid (∀ w, Calls Try.prog 26 #[.string Q] w fun e w' => e = .returned (.tuple #[.string s, .int .i64 0]) ∧ Below w.heap.size w w') := by
      intro w; have := Unquote_any Q w q3; rw [q2] at this; exact this
    have he := beq_toList s
    clear hn p1 p2 hQ q1 q2 q3
    go_enter Try.func8, Try.ntmps8
    go_wp2_with fail
    refine (P1.out _).mono ?_
    rintro e w1 ⟨rfl, ho1, hb1⟩
    have HS1 : Hid (SliceIs w1 (.slice (some ⟨w.heap.size, 0, none⟩) n n) (packL (bl s))) := SliceIs_own ho1
    have HB1 : Hid (Below w.heap.size w w1) := hb1
    clear ho1 hb1
    have U1 : Hid (Calls Try.prog 21 #[.slice (some ⟨w.heap.size, 0, none⟩) n n, .int .i64 (s.size : Int)] w1 fun e w' => e = .returned (.tuple #[.string s, .int .i64 0]) ∧ Below w1.heap.size w1 w') := by
      have := Unpack_any _ _ (s.size : Int) w1 HS1.out HL.out (by omega)
      rw [unpack_pack] at this; exact this
    go_wp2_with fail
    refine U1.out.mono ?_
    rintro e w2 ⟨rfl, hb2⟩
    have HB2 : Hid (Below w.heap.size w w2) := HB1.out.trans (hb2.mono HB1.out.size)
    clear hb2 HB1 HS1 U1
    go_wp2_with fail
    refine (Q1.out _).mono ?_
    rintro e w3 ⟨rfl, hb3⟩
    have HB3 : Hid (Below w.heap.size w w3) := HB2.out.trans (hb3.mono HB2.out.size)
    clear hb3 HB2
    go_wp2_with fail
    refine (Q2.out _).mono ?_
    rintro e w4 ⟨rfl, hb4⟩
    have HB4 : Hid (Below w.heap.size w w4) := HB3.out.trans (hb4.mono HB3.out.size)
    clear hb4 HB3
    go_wp2_with (first | (go_at_call 11; refine (alive_any _).mono ?_; rintro e w5 ⟨rfl, hb5⟩) | (go_at_call 19; refine (P2.out _).mono ?_; rintro e w' ⟨rfl, rfl⟩) | (go_at_call 23; refine (no_any _ _).mono ?_; rintro e w' ⟨rfl, rfl⟩))
    go_ret
    exact ⟨rfl, HB4.out.trans (hb5.mono HB4.out.size)⟩
end Go.Proofs.Ytinhfgpcgbnhdaa
