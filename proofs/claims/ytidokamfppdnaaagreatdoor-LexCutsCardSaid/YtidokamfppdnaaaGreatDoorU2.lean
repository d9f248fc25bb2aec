/- The document's Unquote. Out of the texts' own texts, renumbered. -/
import Derived.Test.YtidokamfppdnaaaGreatDoorU1
import Derived.BigQuiet
import Derived.Deep.AppendLies
import Derived.Deep.QuietTactic
import Derived.Deep.RegionHeld3
import Derived.Laws.BytesArg
import Derived.Lib.AppendStr
namespace Go.Proofs.YtidokamfppdnaaaGreatDoor.Tx
open Go.RowKit
set_option linter.unusedSimpArgs false
set_option linter.unusedVariables false
set_option maxHeartbeats 400000 in
set_option maxRecDepth 20000 in
theorem RPlain_any (c : Nat) (w : World) :
    Calls Tryz.prog 59 #[.int .u8 c] w fun e w' => e = .returned (.bool (pl c)) ∧ w = w' := by
  rcases pl_cases c with ⟨h, hp⟩ | ⟨h, h', hp⟩ | ⟨h, hp⟩ | ⟨h, hp⟩ | ⟨h1, h2, h3, h4, hp⟩
  · rw [hp]; clear hp
    go_enter Tryz.func59, Tryz.ntmps59
    go_wp2
    go_ret
    exact ⟨rfl, rfl⟩
  · rw [hp]; clear hp
    go_enter Tryz.func59, Tryz.ntmps59
    go_wp2
    go_ret
    exact ⟨rfl, rfl⟩
  · rw [hp]; clear hp; subst h
    go_enter Tryz.func59, Tryz.ntmps59
    go_wp2
    go_ret
    exact ⟨rfl, rfl⟩
  · rw [hp]; clear hp; subst h
    go_enter Tryz.func59, Tryz.ntmps59
    go_wp2
    go_ret
    exact ⟨rfl, rfl⟩
  · rw [hp]; clear hp
    have e3 : ((c : Int) != 34) = true := by simp; omega
    have e4 : ((c : Int) != 92) = true := by simp; omega
    clear h3 h4
    go_enter Tryz.func59, Tryz.ntmps59
    go_wp2
    go_ret
    exact ⟨rfl, rfl⟩
/-- The sixteen digits. -/
def dg (n : Nat) : Nat := if n < 10 then 48 + n else 87 + n
/-- A byte as it stands in a quote. -/
def qb (c : Nat) : List Nat := if pl c then [c] else [92, 120, dg (c / 16), dg (c % 16)]
set_option maxRecDepth 20000 in
theorem qb_plain {c : Nat} (h : pl c = true) : qb c = [c] := by simp [qb, h]
set_option maxRecDepth 20000 in
theorem qb_hex {c : Nat} (h : pl c = false) : qb c = [92, 120, dg (c / 16), dg (c % 16)] := by simp [qb, h]
set_option maxRecDepth 20000 in
theorem qb_len (c : Nat) : 1 ≤ (qb c).length ∧ (qb c).length ≤ 4 := by unfold qb; split <;> simp
set_option maxRecDepth 20000 in
theorem str_size (l : List Nat) : (str l).size = l.length := by unfold str; rw [strOfNums_size, List.length_map]
set_option maxRecDepth 20000 in
theorem str_append (a b : List Nat) : str (a ++ b) = str a ++ str b := by
  apply Go.WideShapes.bytes_inj
  simp [str, strOfNums_data]
set_option maxRecDepth 20000 in
theorem digs_cut : ∀ i, i < 16 → digs.extract i (i + 1) = str [dg i] := by decide +kernel
set_option maxRecDepth 20000 in
theorem esc_str : (⟨#[92, 120]⟩ : ByteArray) = str [92, 120] := by decide +kernel
set_option maxHeartbeats 1000000 in
set_option maxRecDepth 20000 in
theorem one_any (c : Nat) (w : World) (hc : c < 256) :
    Calls Tryz.prog 45 #[.int .u8 c] w fun e w' => e = .returned (.string (str (qb c))) ∧ Below w.heap.size w w' := by
  cases hp : pl c
  · have HQ : Hid (qb c = [92, 120, dg (c / 16), dg (c % 16)]) := qb_hex hp
    obtain ⟨h, hh⟩ : ∃ h : Nat, h = c / 16 := ⟨_, rfl⟩
    obtain ⟨l, hl⟩ : ∃ l : Nat, l = c % 16 := ⟨_, rfl⟩
    have h1 : (c : Int) / 16 = (h : Int) := by omega
    have l1 : (c : Int) % 16 = (l : Int) := by omega
    have HH : Hid (h = c / 16) := hh
    have HL : Hid (l = c % 16) := hl
    have h2 : h < 16 := by omega
    have l2 : l < 16 := by omega
    clear hh hl
    have h3 : (0 : Int) ≤ (h : Int) := by omega
    have h4 : (h : Int) < 16 := by omega
    have l3 : (0 : Int) ≤ (l : Int) := by omega
    have l4 : (l : Int) < 16 := by omega
    go_enter Tryz.func45, Tryz.ntmps45
    go_wp2_with (first | (go_at_call 59; refine (RPlain_any _ _).mono ?_; rintro e w' ⟨rfl, rfl⟩))
    have HE : Hid (str (qb c) = (⟨#[92, 120]⟩ : ByteArray) ++ digs.extract h (h + 1) ++ digs.extract l (l + 1)) := by
      show _ = _
      rw [HQ.out, ← HH.out, ← HL.out, digs_cut h h2, digs_cut l l2, esc_str, ← str_append, ← str_append]; rfl
    clear HQ HH HL
    go_quiet (fail)
    go_wp2
    go_ret
    exact ⟨by rw [HE.out]; rfl, below_drewN (Below.refl _ _) _⟩
  · have HQ : Hid (str (qb c) = strOfNums [(c : Int)]) := by show _ = _; rw [qb_plain hp]; rfl
    have hcv := run_convert_bytes_arg (P := Tryz.prog) (w.alloc (.cells #[.int .u8 c] 5)) 73 5 Tryz.underlying73 Tryz.underlying5 w.heap.size 0 1 1 [(c : Int)] rfl (fun i hi => by
      have : i = 0 := by omega
      subst this
      rw [World.cell?_alloc_at _ _ _ _ rfl]; rfl) 9 Tryz.underlying9
    go_enter Tryz.func45, Tryz.ntmps45
    go_wp2_with (first | (go_at_call 59; refine (RPlain_any _ _).mono ?_; rintro e w' ⟨rfl, rfl⟩))
    go_ret
    rw [HQ.out]
    exact ⟨rfl, (Below.refl _ _).alloc (Nat.le_refl _) _⟩
set_option maxRecDepth 20000 in
theorem dg_bd (n : Nat) (h : n < 16) : 48 ≤ dg n ∧ dg n ≤ 102 ∧ dg n ≠ 92 := by unfold dg; split <;> omega
set_option maxRecDepth 20000 in
theorem toNat_map_inj : ∀ (l m : List UInt8), l.map UInt8.toNat = m.map UInt8.toNat → l = m
  | [], [], _ => rfl
  | a :: l, b :: m, h => by
    simp only [List.map_cons, List.cons.injEq] at h
    rw [UInt8.toNat_inj.1 h.1, toNat_map_inj l m h.2]
set_option maxRecDepth 20000 in
theorem bl_inj {a b : ByteArray} (h : bl a = bl b) : a = b := by
  apply Go.WideShapes.bytes_inj
  exact toNat_map_inj _ _ h
set_option maxRecDepth 20000 in
theorem bl_str (l : List Nat) (hl : ∀ a ∈ l, a < 256) : bl (str l) = l := by
  unfold bl str
  rw [strOfNums_data, List.map_map, List.map_map]
  conv => rhs; rw [← List.map_id l]
  apply List.map_congr_left
  intro a ha
  have := hl a ha
  simp [UInt8.toNat_ofNat']; omega
set_option maxRecDepth 20000 in
theorem toList_ne {a b : ByteArray} (h : a ≠ b) : (a.toList == b.toList) = false := by
  rw [beq_eq_false_iff_ne]
  intro e
  rw [ByteArray.toList_eq, ByteArray.toList_eq] at e
  exact h (Go.WideShapes.bytes_inj e)
set_option maxRecDepth 20000 in
theorem hex_dg : ∀ n, n < 16 → hexI (dg n) = (n : Int) := by decide
set_option maxRecDepth 20000 in
theorem fb_qb (a : Nat) (ha : a < 256) (r : List Nat) : fbL (qb a ++ r) = (a, (qb a).length) := by
  cases hp : pl a
  · have p92 : pl 92 = false := rfl
    rw [qb_hex hp]
    unfold fbL
    simp only [List.cons_append, List.nil_append, List.getD_cons_zero, List.getD_cons_succ, List.length_cons, List.length_nil]
    rw [p92, if_neg (by decide), if_neg (by omega), hex_dg _ (by omega), hex_dg _ (by omega), if_neg (by omega)]
    have e : ((a / 16 : Nat) : Int).toNat * 16 + ((a % 16 : Nat) : Int).toNat = a := by omega
    rw [e, hp]; rfl
  · rw [qb_plain hp]
    unfold fbL
    simp only [List.cons_append, List.nil_append, List.getD_cons_zero]
    rw [hp]; rfl
set_option maxRecDepth 20000 in
theorem bl_extract (t : ByteArray) (a b : Nat) : bl (t.extract a b) = ((bl t).drop a).take (b - a) := by
  unfold bl; rw [Lib.extract_data, List.map_take, List.map_drop]
/-- What is left of a quote's inside from a place on. -/
def rest (s : ByteArray) (at' : Nat) : List Nat := ((bl s).drop at').take (s.size - 1 - at')
/-- Does the byte b, as a quote has it, stand at a place? -/
def mt (s : ByteArray) (at' b : Nat) : Bool := decide (at' + (qb b).length ≤ s.size - 1) && ((s.extract at' (at' + (qb b).length)).toList == (str (qb b)).toList)
set_option maxRecDepth 20000 in
theorem rest_len (s : ByteArray) (a : Nat) : (rest s a).length = s.size - 1 - a := by
  unfold rest; rw [List.length_take, List.length_drop, bl_len]; omega
set_option maxRecDepth 20000 in
theorem rest_drop (s : ByteArray) (a k : Nat) : (rest s a).drop k = rest s (a + k) := by
  unfold rest; rw [List.drop_take, List.drop_drop, show s.size - 1 - a - k = s.size - 1 - (a + k) by omega]
set_option maxRecDepth 20000 in
theorem rest_in (s : ByteArray) : rest s 1 = bl (s.extract 1 (s.size - 1)) := by rw [bl_extract]; rfl
set_option maxRecDepth 20000 in
theorem rest_lt (s : ByteArray) (a : Nat) : ∀ x ∈ rest s a, x < 256 := fun x hx => bl_lt s x (List.mem_of_mem_drop (List.mem_of_mem_take hx))
set_option maxRecDepth 20000 in
theorem qb_lt (b : Nat) (hb : b < 256) : ∀ a ∈ qb b, a < 256 := by
  intro a ha
  cases hp : pl b
  · rw [qb_hex hp] at ha
    have d1 := dg_bd (b / 16) (by omega)
    have d2 := dg_bd (b % 16) (by omega)
    simp only [List.mem_cons, List.not_mem_nil, or_false] at ha
    omega
  · rw [qb_plain hp] at ha
    simp only [List.mem_cons, List.not_mem_nil, or_false] at ha
    omega
set_option maxRecDepth 20000 in
theorem toList_eq_iff {a b : ByteArray} : ((a.toList == b.toList) = true) ↔ a = b := by
  constructor
  · intro h
    rcases Classical.em (a = b) with e | e
    · exact e
    · rw [toList_ne e] at h; cases h
  · rintro rfl; simp
set_option maxRecDepth 20000 in
theorem mt_iff (s : ByteArray) (a b : Nat) (hb : b < 256) : mt s a b = true ↔ ∃ r, rest s a = qb b ++ r := by
  unfold mt
  rw [Bool.and_eq_true, decide_eq_true_eq, toList_eq_iff]
  have hz := rest_len s a
  constructor
  · rintro ⟨h1, h2⟩
    have h3 : bl (s.extract a (a + (qb b).length)) = qb b := by rw [h2, bl_str _ (qb_lt b hb)]
    rw [bl_extract, show a + (qb b).length - a = (qb b).length by omega] at h3
    refine ⟨(rest s a).drop (qb b).length, ?_⟩
    have h4 : (rest s a).take (qb b).length = qb b := by
      unfold rest
      rw [List.take_take, Nat.min_eq_left (by omega)]; exact h3
    conv => lhs; rw [← List.take_append_drop (qb b).length (rest s a), h4]
  · rintro ⟨r, hr⟩
    have hl : (qb b).length ≤ (rest s a).length := by rw [hr, List.length_append]; omega
    have hq := (qb_len b).1
    refine ⟨by omega, ?_⟩
    apply bl_inj
    rw [bl_str _ (qb_lt b hb), bl_extract, show a + (qb b).length - a = (qb b).length by omega]
    have h4 : (rest s a).take (qb b).length = qb b := by rw [hr, List.take_left]
    unfold rest at h4
    rw [List.take_take, Nat.min_eq_left (by omega)] at h4
    exact h4
set_option maxRecDepth 20000 in
theorem mt_fb (s : ByteArray) (a b : Nat) (hb : b < 256) (h : mt s a b = true) : fbL (rest s a) = (b, (qb b).length) := by
  obtain ⟨r, hr⟩ := (mt_iff s a b hb).1 h
  rw [hr]; exact fb_qb b hb r
set_option maxRecDepth 20000 in
theorem dg_hexI (n : Nat) (h : ¬ hexI n < 0) : dg (hexI n).toNat = n ∧ (hexI n).toNat < 16 := by
  unfold hexI at h ⊢
  split
  · rename_i h1
    have e : ((n : Int) - 48).toNat = n - 48 := by omega
    rw [e]; unfold dg; split <;> omega
  · split
    · rename_i h1
      have e : ((n : Int) - 87).toNat = n - 87 := by omega
      rw [e]; unfold dg; split <;> omega
    · simp_all
set_option maxRecDepth 20000 in
theorem fb_prefix (l : List Nat) (h : (fbL l).2 ≠ 0) (hl : ∀ x ∈ l, x < 256) : (fbL l).1 < 256 ∧ ∃ r, l = qb (fbL l).1 ++ r := by
  refine ⟨fb_lt l hl, ?_⟩
  by_cases hp : pl (l.getD 0 0) = true
  · have e : fbL l = (l.getD 0 0, 1) := by unfold fbL; rw [if_pos hp]
    rw [e]
    show ∃ r, l = qb (l.getD 0 0) ++ r
    rw [qb_plain hp]
    cases l with
    | nil => exact absurd hp (by decide)
    | cons a l => exact ⟨l, rfl⟩
  · by_cases h2 : l.length < 4 ∨ l.getD 0 0 ≠ 92 ∨ l.getD 1 0 ≠ 120
    · exact absurd (by unfold fbL; rw [if_neg hp, if_pos h2]) h
    · by_cases h3 : hexI (l.getD 2 0) < 0 ∨ hexI (l.getD 3 0) < 0
      · exact absurd (by unfold fbL; rw [if_neg hp, if_neg h2, if_pos h3]) h
      · by_cases h4 : pl ((hexI (l.getD 2 0)).toNat * 16 + (hexI (l.getD 3 0)).toNat) = true
        · exact absurd (by unfold fbL; rw [if_neg hp, if_neg h2, if_neg h3, if_pos h4]) h
        · have e : fbL l = ((hexI (l.getD 2 0)).toNat * 16 + (hexI (l.getD 3 0)).toNat, 4) := by unfold fbL; rw [if_neg hp, if_neg h2, if_neg h3, if_neg h4]
          rw [e]
          have d1 := dg_hexI (l.getD 2 0) (by omega)
          have d2 := dg_hexI (l.getD 3 0) (by omega)
          show ∃ r, l = qb ((hexI (l.getD 2 0)).toNat * 16 + (hexI (l.getD 3 0)).toNat) ++ r
          rw [qb_hex (by simpa using h4), show ((hexI (l.getD 2 0)).toNat * 16 + (hexI (l.getD 3 0)).toNat) / 16 = (hexI (l.getD 2 0)).toNat by omega, show ((hexI (l.getD 2 0)).toNat * 16 + (hexI (l.getD 3 0)).toNat) % 16 = (hexI (l.getD 3 0)).toNat by omega, d1.1, d2.1]
          match l, h2 with
          | a :: b :: c :: d :: r, h2 =>
            simp only [List.getD_cons_zero, List.getD_cons_succ] at h2 ⊢
            have ha : a = 92 := by omega
            have hb : b = 120 := by omega
            exact ⟨r, by rw [ha, hb]; rfl⟩
          | [], h2 => exact absurd (Or.inl (by decide)) h2
          | [_], h2 => exact absurd (Or.inl (by simp)) h2
          | [_, _], h2 => exact absurd (Or.inl (by simp)) h2
          | [_, _, _], h2 => exact absurd (Or.inl (by simp)) h2
set_option maxRecDepth 20000 in
theorem none_fb (s : ByteArray) (a : Nat) (h : ∀ b, b < 256 → mt s a b = false) : (fbL (rest s a)).2 = 0 := by
  rcases Classical.em ((fbL (rest s a)).2 = 0) with e | e
  · exact e
  · obtain ⟨h1, r, h2⟩ := fb_prefix (rest s a) e (rest_lt s a)
    have := (mt_iff s a _ h1).2 ⟨r, h2⟩
    rw [h _ h1] at this; cases this
set_option maxRecDepth 20000 in
theorem unquote_alt (s : ByteArray) (h2 : 2 ≤ s.size) : unquoteT s = match unqL (rest s 1) with | some l => (if (bl s).getD 0 0 == 34 && (bl s).getD (s.size - 1) 0 == 34 then .tuple #[.string (str l), .int .i64 0] else .tuple #[.string ⟨#[]⟩, .int .i64 6]) | none => .tuple #[.string ⟨#[]⟩, .int .i64 6] := by
  rw [rest_in]
  unfold unquoteT unquoteB
  rw [decide_eq_true h2, Bool.true_and]
  cases (bl s).getD 0 0 == 34 && (bl s).getD (s.size - 1) 0 == 34
  · cases unqL (bl (s.extract 1 (s.size - 1))) <;> rfl
  · cases unqL (bl (s.extract 1 (s.size - 1))) <;> rfl
set_option maxRecDepth 20000 in
theorem own_ne (v : Value) : v.ownBlock = none ∨ v.ownBlock ≠ none := by
  cases v.ownBlock
  · exact Or.inl rfl
  · exact Or.inr (by simp)
set_option maxRecDepth 20000 in
theorem conv_any {w : World} {base n : Nat} {v : Value} {xs : List Nat} (h : w.ownsRow base 5 1 v n (bc xs)) : (convert 73 9 v).run Tryz.prog w = .ok (.string (str xs)) w := by
  rcases h.2 with ⟨rfl, h0⟩ | ⟨g, cap, cur, rfl, _⟩
  · have hl : xs = [] := by have := h.1; subst h0; exact List.eq_nil_of_length_eq_zero (by simpa [bc] using this)
    subst hl
    exact run_convert_bytes_nil (P := Tryz.prog) w 73 5 Tryz.underlying73 Tryz.underlying5 0 0 9 Tryz.underlying9
  · exact conv_own h
set_option maxHeartbeats 4000000 in
set_option maxRecDepth 20000 in
theorem RUnquote_any (s : ByteArray) (w : World) (hs : s.size ≤ 20000) :
    Calls Tryz.prog 27 #[.string s] w fun e w' => e = .returned (unquoteT s) ∧ Below w.heap.size w w' := by
  obtain ⟨i0, hi, hz0, hz1, hz2⟩ := info_parts info5
  by_cases h2 : 2 ≤ s.size
  · have HU : Hid (unquoteT s = match unqL (rest s 1) with | some l => (if (bl s).getD 0 0 == 34 && (bl s).getD (s.size - 1) 0 == 34 then .tuple #[.string (str l), .int .i64 0] else .tuple #[.string ⟨#[]⟩, .int .i64 6]) | none => .tuple #[.string ⟨#[]⟩, .int .i64 6]) := unquote_alt s h2
    go_enter Tryz.func27, Tryz.ntmps27
    go_wp2_with fail
    go_loopw [4, 5] (fun o a wr => ∃ (p : Nat) (acc : List Nat), 1 ≤ p ∧ p ≤ s.size - 1 ∧ a = .int .i64 p ∧ acc.length ≤ p ∧ Hid (wr.ownsRow w.heap.size 5 1 o acc.length (bc acc)) ∧ Hid (Below w.heap.size w wr) ∧ Hid (unqL (rest s 1) = (unqL (rest s p)).map (acc ++ ·))) (fun _ a _ => s.size - (intOf a).toNat)
    case atStart => exact ⟨1, [], Nat.le_refl _, by omega, rfl, Nat.zero_le _, World.ownsRow_nil _ _ _ _, Below.refl _ _, by show _ = _; cases unqL (rest s 1) <;> rfl⟩
    case round =>
      obtain ⟨p, acc, hp1, hp2, rfl, hacc, HO, HB, HQ⟩ := hrel
      by_cases hlt : p < s.size - 1
      · have HRn : Hid (rest s p ≠ []) := by
          intro e; have := rest_len s p; rw [e] at this; simp at this; omega
        have p1 : (p : Int) < (s.size : Int) - 1 := by omega
        go_wp2_with fail
        go_loopw [4, 5, 6, 7] (fun o a f b wr => ∃ j : Nat, j ≤ 256 ∧ b = .int .i64 j ∧ Hid (Below w.heap.size w wr) ∧ ((f = .bool false ∧ a = .int .i64 p ∧ Hid (wr.ownsRow w.heap.size 5 1 o acc.length (bc acc)) ∧ Hid (∀ b', b' < j → mt s p b' = false)) ∨ (f = .bool true ∧ ∃ v q : Nat, v < 256 ∧ a = .int .i64 q ∧ Hid (q = p + (qb v).length ∧ mt s p v = true) ∧ p < q ∧ q ≤ s.size - 1 ∧ Hid (wr.ownsRow w.heap.size 5 1 o (acc.length + 1) (bc (acc ++ [v])))))) (fun _ _ _ b _ => 256 - (intOf b).toNat)
        case atStart => exact ⟨0, Nat.zero_le _, rfl, HB.out, Or.inl ⟨rfl, rfl, HO.out, fun b' h => absurd h (by omega)⟩⟩
        case round =>
          clear HO HB
          obtain ⟨j, hj, rfl, HB, hcase⟩ := hrel
          have hbr : w.heap.size ≤ wr.heap.size := HB.out.size
          rcases hcase with ⟨rfl, rfl, HO, HN⟩ | ⟨rfl, v, q, hv, rfl, HVQ, hpq, hq, HO⟩
          · by_cases hj2 : j < 256
            · obtain ⟨T, hT⟩ : ∃ T, T = str (qb j) := ⟨_, rfl⟩
              obtain ⟨L, hL⟩ : ∃ L, L = (qb j).length := ⟨_, rfl⟩
              have hTs : T.size = L := by rw [hT, str_size, hL]
              have hL1 : 1 ≤ L ∧ L ≤ 4 := by rw [hL]; exact qb_len j
              have O1 : Hid (∀ w, Calls Tryz.prog 45 #[.int .u8 (j : Int)] w fun e w' => e = .returned (.string T) ∧ Below w.heap.size w w') := by
                intro w; rw [hT]; exact one_any j w hj2
              have j0 : (j : Int) % 256 = (j : Int) := by omega
              have j1 : (j : Int) < 256 := by omega
              have HMT : Hid (mt s p j = (decide (p + L ≤ s.size - 1) && ((s.extract p (p + L)).toList == T.toList))) := by show _ = _; rw [hT, hL]; rfl
              have HL : Hid (L = (qb j).length) := hL
              clear hT hL
              by_cases h1 : p + L ≤ s.size - 1
              · have e1 : (p : Int) + (L : Int) ≤ (s.size : Int) - 1 := by omega
                cases h3 : ((s.extract p (p + L)).toList == T.toList)
                · have HN' : Hid (∀ b', b' < j + 1 → mt s p b' = false) := by
                    intro b' hb'
                    by_cases e : b' = j
                    · rw [e, HMT.out, h3, Bool.and_false]
                    · exact HN.out b' (by omega)
                  clear HMT
                  go_wp2_with fail
                  refine (O1.out _).mono ?_
                  rintro e w2 ⟨rfl, hb2⟩
                  have HB2 : Hid (Below w.heap.size w w2) := HB.out.trans (hb2.mono hbr)
                  have HO2 : Hid (w2.ownsRow w.heap.size 5 1 u4 acc.length (bc acc)) := HO.out.kept (grown_of_below hb2) (own_ne _)
                  clear hb2 HB HO
                  go_wp2
                  go_roundw
                  case rel => exact ⟨j + 1, by omega, by go_num, HB2.out, Or.inl ⟨rfl, rfl, HO2.out, HN'.out⟩⟩
                  case measure => simp [intOf]; omega
                · have HMT' : Hid (mt s p j = true) := by show _ = _; rw [HMT.out, h3, decide_eq_true h1]; rfl
                  obtain ⟨q, hq⟩ : ∃ q, q = p + L := ⟨_, rfl⟩
                  have HQL : Hid (q = p + (qb j).length) := by show _ = _; rw [hq, HL.out]
                  have q1 : (p : Int) + (L : Int) = (q : Int) := by omega
                  have q2 : p < q := by omega
                  have q3 : q ≤ s.size - 1 := by omega
                  have q4 : (q : Int) ≤ (s.size : Int) - 1 := by omega
                  rw [← hq] at h3
                  clear HMT HN hq e1 h1
                  go_wp2_with fail
                  refine (O1.out _).mono ?_
                  rintro e w2 ⟨rfl, hb2⟩
                  have HB2 : Hid (Below w.heap.size w w2) := HB.out.trans (hb2.mono hbr)
                  have HO2 : Hid (w2.ownsRow w.heap.size 5 1 u4 acc.length (bc acc)) := HO.out.kept (grown_of_below hb2) (own_ne _)
                  have hb2' : w.heap.size ≤ w2.heap.size := HB2.out.size
                  clear hb2 HB HO
                  go_wp2_with (first | (at_builtin; refine wpList_append_own _ rfl _ _ 73 rfl w.heap.size 5 i0 (.int .u8 0) 1 1 Tryz.underlying73 hi hz0 hz1 hz2 rfl (by decide) _ acc.length _ rfl (HO2.out.alloc _) ⟨w2.heap.size, 0, none⟩ 1 1 [.int .u8 j] rfl rfl ?_ ?_ ?_ ?_ ?_ ?_))
                  · exact World.news_of_block (cs := #[.int .u8 j]) (t := 5) (fr := (0, 0)) (heap_alloc_new w2 _)
                  · exact bc_one [j]
                  · unfold maxLen; omega
                  · omega
                  · simp; omega
                  · intro v4 w4 hown4 hgrow4 _
                    have HO4 : Hid (w4.ownsRow w.heap.size 5 1 v4 (acc.length + 1) (bc (acc ++ [j]))) := by
                      show World.ownsRow _ _ _ _ _ _ _; rw [bc_append]; exact hown4
                    have HB4 : Hid (Below w.heap.size w w4) := HB2.out.trans (((Below.refl _ _).alloc hb2' _).grown hgrow4 (by simp; omega) (fun x hx => (HO2.out.lt x hx).1))
                    clear hown4 hgrow4 HO2 HB2
                    go_wp2
                    go_roundw
                    case rel => exact ⟨j + 1, by omega, by go_num, HB4.out, Or.inr ⟨rfl, j, q, hj2, rfl, ⟨HQL.out, HMT'.out⟩, q2, q3, HO4.out⟩⟩
                    case measure => simp [intOf]; omega
              · obtain ⟨q, hq⟩ : ∃ q, q = p + L := ⟨_, rfl⟩
                have q1 : (p : Int) + (L : Int) = (q : Int) := by omega
                have e1 : (s.size : Int) - 1 < (q : Int) := by omega
                have q5 : q ≤ 30000 := by omega
                have e6 : decide ((q : Int) ≤ (s.size : Int) - 1) = false := by rw [decide_eq_false]; omega
                clear hq e1
                have HN' : Hid (∀ b', b' < j + 1 → mt s p b' = false) := by
                  intro b' hb'
                  by_cases e : b' = j
                  · rw [e, HMT.out, decide_eq_false h1, Bool.false_and]
                  · exact HN.out b' (by omega)
                clear HMT HN h1
                go_wp2_with fail
                refine (O1.out _).mono ?_
                rintro e w2 ⟨rfl, hb2⟩
                have HB2 : Hid (Below w.heap.size w w2) := HB.out.trans (hb2.mono hbr)
                have HO2 : Hid (w2.ownsRow w.heap.size 5 1 u4 acc.length (bc acc)) := HO.out.kept (grown_of_below hb2) (own_ne _)
                clear hb2 HB HO
                go_wp2
                go_roundw
                case rel => exact ⟨j + 1, by omega, by go_num, HB2.out, Or.inl ⟨rfl, rfl, HO2.out, HN'.out⟩⟩
                case measure => simp [intOf]; omega
            · have hj3 : j = 256 := by omega
              subst hj3
              have HF : Hid (unquoteT s = .tuple #[.string ⟨#[]⟩, .int .i64 6]) := by
                show _ = _
                rw [HU.out, HQ.out, unq_none HRn.out (none_fb s p HN.out)]; rfl
              go_wp2
              go_ret2
              exact ⟨by rw [HF.out]; rfl, HB.out⟩
          · have HF := mt_fb s p v hv HVQ.out.2
            have HQ' : Hid (unqL (rest s 1) = (unqL (rest s q)).map ((acc ++ [v]) ++ ·)) := by
              have hqv := qb_len v
              show _ = _
              rw [HQ.out, unq_some HRn.out (by rw [HF]; show (qb v).length ≠ 0; omega), HF, rest_drop, ← HVQ.out.1, Option.map_map]
              congr 1
              funext x; simp
            have hal : (acc ++ [v]).length = acc.length + 1 := by simp
            have HO' : Hid (wr.ownsRow w.heap.size 5 1 u4 (acc ++ [v]).length (bc (acc ++ [v]))) := by show World.ownsRow _ _ _ _ _ _ _; rw [hal]; exact HO.out
            have hal2 : (acc ++ [v]).length ≤ q := by rw [hal]; omega
            clear HF HO hal
            by_cases hj2 : (j : Int) < 256
            · go_wp2
              go_roundw
              case rel => exact ⟨q, acc ++ [v], by omega, hq, rfl, hal2, HO'.out, HB.out, HQ'.out⟩
              case measure => simp [intOf]; omega
            · go_wp2
              go_roundw
              case rel => exact ⟨q, acc ++ [v], by omega, hq, rfl, hal2, HO'.out, HB.out, HQ'.out⟩
              case measure => simp [intOf]; omega
      · have hpe : p = s.size - 1 := by omega
        have HR0 : Hid (rest s p = []) := List.eq_nil_of_length_eq_zero (by rw [rest_len]; omega)
        have HQ' : Hid (unqL (rest s 1) = some acc) := by show _ = _; rw [HQ.out, HR0.out, unq_nil]; simp
        clear HQ HR0
        have p1 : (s.size : Int) - 1 ≤ (p : Int) := by omega
        have b0 : 0 < s.size := by omega
        have b1 : s.size - 1 < s.size := by omega
        by_cases h3 : s[0].toNat = 34
        · by_cases h4 : s[s.size - 1].toNat = 34
          · have HF : Hid (unquoteT s = .tuple #[.string (str acc), .int .i64 0]) := by
              show _ = _
              rw [HU.out, HQ'.out, bl_getD s 0 (by omega), bl_getD s (s.size - 1) (by omega), h3, h4]; rfl
            have e3 : (s[0].toNat : Int) = 34 := by omega
            have e4 : (s[s.size - 1].toNat : Int) = 34 := by omega
            have hcv := conv_any HO.out
            clear h3 h4
            go_wp2
            go_ret2
            exact ⟨by rw [HF.out]; rfl, HB.out⟩
          · have HF : Hid (unquoteT s = .tuple #[.string ⟨#[]⟩, .int .i64 6]) := by
              show _ = _
              rw [HU.out, HQ'.out, bl_getD s 0 (by omega), bl_getD s (s.size - 1) (by omega)]
              have : (s[s.size - 1].toNat == 34) = false := by simp [h4]
              rw [this, Bool.and_false]; rfl
            have e3 : (s[0].toNat : Int) = 34 := by omega
            have e4 : ((s[s.size - 1].toNat : Int) != 34) = true := by simp; omega
            clear h3 h4
            go_wp2
            go_ret2
            exact ⟨by rw [HF.out]; rfl, HB.out⟩
        · have HF : Hid (unquoteT s = .tuple #[.string ⟨#[]⟩, .int .i64 6]) := by
            show _ = _
            rw [HU.out, HQ'.out, bl_getD s 0 (by omega)]
            have : (s[0].toNat == 34) = false := by simp [h3]
            rw [this, Bool.false_and]; rfl
          have e3 : ((s[0].toNat : Int) != 34) = true := by simp; omega
          clear h3
          go_wp2
          go_ret2
          exact ⟨by rw [HF.out]; rfl, HB.out⟩
  · have HU : Hid (unquoteT s = .tuple #[.string ⟨#[]⟩, .int .i64 6]) := by
      show _ = _; unfold unquoteT unquoteB; rw [decide_eq_false h2]; rfl
    go_enter Tryz.func27, Tryz.ntmps27
    go_wp2
    go_ret2
    exact ⟨by rw [HU.out]; rfl, Below.refl _ _⟩
end Go.Proofs.YtidokamfppdnaaaGreatDoor.Tx
