import Derived.Test.YtmoiikpjegbokaaGreatDoorGC
import Derived.Lib.AppendStr
import Derived.Deep.AppendLies
import Derived.Laws.BytesArg
import Derived.Laws.BitsAllLaws
set_option linter.unusedSimpArgs false
set_option linter.unusedVariables false
set_option maxHeartbeats 1000000
/- Out of ../text, for this seat. -/
namespace Go.Proofs.YtmoiikpjegbokaaGreatDoor.Tq
open Go.RowKit
def pl (c : Nat) : Bool := decide (32 ≤ c) && decide (c ≤ 126) && c != 34 && c != 92
theorem pl_false1 {c : Nat} (h : c < 32 ∨ 126 < c ∨ c = 34 ∨ c = 92) : pl c = false := by
  unfold pl; rw [Bool.eq_false_iff]; intro e;simp only [Bool.and_eq_true, decide_eq_true_eq, bne_iff_ne, ne_eq] at e;omega
theorem pl_true1 {c : Nat} (h1 : 32 ≤ c) (h2 : c ≤ 126) (h3 : c ≠ 34) (h4 : c ≠ 92) : pl c = true := by
  unfold pl;simp only [Bool.and_eq_true, decide_eq_true_eq, bne_iff_ne, ne_eq];exact ⟨⟨⟨h1, h2⟩, h3⟩, h4⟩
theorem pl_cases (c : Nat) : (c < 32 ∧ pl c = false) ∨ (126 < c ∧ 32 ≤ c ∧ pl c = false) ∨ (c = 34 ∧ pl c = false) ∨ (c = 92 ∧ pl c = false) ∨ (32 ≤ c ∧ c ≤ 126 ∧ c ≠ 34 ∧ c ≠ 92 ∧ pl c = true) := by
  by_cases h1 : c < 32
  · exact Or.inl ⟨h1, pl_false1 (Or.inl h1)⟩
  · by_cases h2 : 126 < c
    · exact Or.inr (Or.inl ⟨h2, by omega, pl_false1 (Or.inr (Or.inl h2))⟩)
    · by_cases h3 : c = 34
      · exact Or.inr (Or.inr (Or.inl ⟨h3, pl_false1 (Or.inr (Or.inr (Or.inl h3)))⟩))
      · by_cases h4 : c = 92
        · exact Or.inr (Or.inr (Or.inr (Or.inl ⟨h4, pl_false1 (Or.inr (Or.inr (Or.inr h4)))⟩)))
        · exact Or.inr (Or.inr (Or.inr (Or.inr ⟨by omega, by omega, h3, h4, pl_true1 (by omega) (by omega) h3 h4⟩)))
theorem plain_any (c : Nat) (w : World) :
    Calls Tryz.prog 168 #[.int .u8 c] w fun e w' => e = .returned (.bool (pl c)) ∧ w = w' := by
  rcases pl_cases c with ⟨h, hp⟩ | ⟨h, h', hp⟩ | ⟨h, hp⟩ | ⟨h, hp⟩ | ⟨h1, h2, h3, h4, hp⟩
  · rw [hp]; clear hp;go_enter Tryz.func168, Tryz.ntmps168
    go_wp2
    go_ret
    exact ⟨rfl, rfl⟩
  · rw [hp]; clear hp;go_enter Tryz.func168, Tryz.ntmps168
    go_wp2
    go_ret
    exact ⟨rfl, rfl⟩
  · rw [hp]; clear hp; subst h;go_enter Tryz.func168, Tryz.ntmps168
    go_wp2
    go_ret
    exact ⟨rfl, rfl⟩
  · rw [hp]; clear hp; subst h;go_enter Tryz.func168, Tryz.ntmps168
    go_wp2
    go_ret
    exact ⟨rfl, rfl⟩
  · rw [hp]; clear hp;have e3 : ((c : Int) != 34) = true := by simp; omega
    have e4 : ((c : Int) != 92) = true := by simp; omega
    clear h3 h4;go_enter Tryz.func168, Tryz.ntmps168
    go_wp2
    go_ret
    exact ⟨rfl, rfl⟩
theorem take_snoc (s : ByteArray) (k : Nat) (h : k < s.size) : s.data.toList.take (k + 1) = s.data.toList.take k ++ [s[k]] := by
  rw [List.take_succ_eq_append_getElem (by simpa using h)]; rfl
def bc (l : List Nat) : List Value := l.map fun (n : Nat) => .int .u8 (n : Int)
def dg (n : Nat) : Nat := if n < 10 then 48 + n else 87 + n
def qb (c : Nat) : List Nat := if pl c then [c] else [92, 120, dg (c / 16), dg (c % 16)]
theorem qb_plain {c : Nat} (h : pl c = true) : qb c = [c] := by simp [qb, h]
theorem qb_hex {c : Nat} (h : pl c = false) : qb c = [92, 120, dg (c / 16), dg (c % 16)] := by simp [qb, h]
theorem bc_one (l : List Nat) : ∀ u ∈ bc l, u.oneCell' = true := by
  intro u hu; simp only [bc, List.mem_map] at hu; obtain ⟨n, _, rfl⟩ := hu; rfl
theorem bc_append (a b : List Nat) : bc (a ++ b) = bc a ++ bc b := by simp [bc]
theorem info5 : (Tryz.prog.info? 5).map (fun i => (i.zero, i.size, i.bytes)) = some (some (.int .u8 0), 1, 1) := by kernel_rfl
abbrev digs : ByteArray := ⟨#[48, 49, 50, 51, 52, 53, 54, 55, 56, 57, 97, 98, 99, 100, 101, 102]⟩
theorem digs_get : ∀ (i : Nat) (h : i < digs.size), digs[i].toNat = dg i := by decide
theorem below_own {w w' : World} {base e size n g cap : Nat} {xs : List Value} (hg : w.grownBy w' (Value.ownBlock (.slice (some ⟨g, 0, none⟩) n cap))) (hown : w.ownsRow base e size (.slice (some ⟨g, 0, none⟩) n cap) n xs) (hb : base ≤ w.heap.size) : Below base w w' := by
  have hl := hown.lt g rfl;exact (Below.refl _ _).grown hg hb (fun k hk => by simp [Value.ownBlock] at hk; omega)
theorem appendByte_any (base n g cap : Nat) (xs : List Nat) (c : Nat) (w : World) (hc : c < 256) (hown : w.ownsRow base 5 1 (.slice (some ⟨g, 0, none⟩) n cap) n (bc xs)) (hb : base ≤ w.heap.size) (hn : n ≤ 60000) :
    Calls Tryz.prog 133 #[.slice (some ⟨g, 0, none⟩) n cap, .int .u8 c] w fun e w' => ∃ g' cap', e = .returned (.slice (some ⟨g', 0, none⟩) (n + (qb c).length) cap') ∧
      w'.ownsRow base 5 1 (.slice (some ⟨g', 0, none⟩) (n + (qb c).length) cap') (n + (qb c).length) (bc (xs ++ qb c)) ∧ Below base w w' := by
  obtain ⟨i0, hi, hz0, hz1, hz2⟩ := info_parts info5;have HO : Hid (w.ownsRow base 5 1 (.slice (some ⟨g, 0, none⟩) n cap) n (bc xs)) := hown;clear hown;cases hp : pl c
  · have HQ : Hid (qb c = [92, 120, dg (c / 16), dg (c % 16)]) := qb_hex hp;obtain ⟨h, hh⟩ : ∃ h : Nat, h = c / 16 := ⟨_, rfl⟩;obtain ⟨l, hl⟩ : ∃ l : Nat, l = c % 16 := ⟨_, rfl⟩;have h1 : (c : Int) / 16 = (h : Int) := by omega
    have l1 : bits .and .u8 (c : Int) 15 = (l : Int) := by
      rw [u8_and (c : Int) 15 (by omega) (by omega) (by decide) (by decide)]
      have e : (c : Int).toNat &&& (15 : Int).toNat = c % 16 := by
        rw [Int.toNat_natCast]; exact Nat.and_two_pow_sub_one_eq_mod c 4
      rw [e, hl]
    have h2 : h < 16 := by omega
    have l2 : l < 16 := by omega
    have HH : Hid (h = c / 16) := hh;have HL : Hid (l = c % 16) := hl;clear hh hl;have h3 : (0 : Int) ≤ (h : Int) := by omega
    have h4 : (h : Int) < 16 := by omega
    have l3 : (0 : Int) ≤ (l : Int) := by omega
    have l4 : (l : Int) < 16 := by omega
    have h5 : h < digs.size := h2;have l5 : l < digs.size := l2;have HG : Hid (digs[h].toNat = dg h ∧ digs[l].toNat = dg l) := ⟨digs_get h h5, digs_get l l5⟩;go_enter Tryz.func133, Tryz.ntmps133
    go_wp2_with (first | (go_at_call 168; refine (plain_any _ _).mono ?_; rintro e w' ⟨rfl, rfl⟩) | (at_builtin; refine Lib.wpList_append_own_string _ rfl (.tmp 11) (.const (.string ⟨#[92, 120]⟩)) 73 9 rfl base 5 i0 Tryz.underlying73 Tryz.underlying9 hi hz0 hz1 hz2 _ n (bc xs) rfl HO.out ⟨#[92, 120]⟩ rfl ?_ ?_ ?_ ?_))
    · show n + 2 ≤ 2 ^ 63 - 1; omega
    · show n + 2 ≤ _; omega
    · exact hb
    · intro v1 w1 hown1 hgrow1 _;obtain ⟨g1, cap1, rfl, _, _⟩ := hown1.form (by show 0 < n + 2; omega);have HB : Hid (Below base w w1) := below_own hgrow1 HO.out hb;have hb1 : base ≤ w1.heap.size := Nat.le_trans hb (by have := HB.out.size; exact this)
      have HO1 : Hid (w1.ownsRow base 5 1 (.slice (some ⟨g1, 0, none⟩) (n + 2) cap1) (n + 2) (bc (xs ++ [92, 120]))) := by
        show World.ownsRow _ _ _ _ _ _ _; rw [bc_append]; exact hown1
      clear hown1 hgrow1;go_wp2
      go_region_held3 (fun _ => True) (trivial) ((refine step_append_lies _ (by rfl) _ _ _ (by rfl) base 5 i0 _ 1 1 Tryz.underlying73 hi hz0 hz1 hz2 rfl (by omega) _ (n + 2) (bc (xs ++ [92, 120])) (by rfl) ((HO1.out.alloc _).drew) ⟨w1.heap.size, 0, none⟩ 2 2 [.int .u8 digs[h].toNat, .int .u8 digs[l].toNat] (by rfl) (by rfl) (World.news_of_block (cs := #[.int .u8 digs[h].toNat, .int .u8 digs[l].toNat]) (t := 5) (fr := (0, 0)) (heap_alloc_new w1 _)) (by simp [Value.oneCell']) (by omega) (by unfold maxLen; omega) (by omega) (by simp; omega) (w1.heap.size + 1) (by simp) ?_; intro g2 cap2 w2 hown2 hgrow2 _ _))
      all_goals
        have HB2 : Hid (Below base w w2) := HB.out.trans ((((Below.refl base w1).alloc hb1 _).drew).trans (below_own hgrow2 ((HO1.out.alloc _).drew) (by simp; omega)))
        have HO2 : Hid (w2.ownsRow base 5 1 (.slice (some ⟨g2, 0, none⟩) (n + 4) cap2) (n + 4) (bc (xs ++ [92, 120, dg (c / 16), dg (c % 16)]))) := by
          have e : bc (xs ++ [92, 120, dg (c / 16), dg (c % 16)]) = bc (xs ++ [92, 120]) ++ [.int .u8 digs[h].toNat, .int .u8 digs[l].toNat] := by
            rw [HG.out.1, HG.out.2, HH.out, HL.out]; simp [bc]
          show World.ownsRow _ _ _ _ _ _ _; rw [e]; exact hown2
        clear hown2 hgrow2;go_wp2
        go_ret
        rw [HQ.out];exact ⟨g2, cap2, rfl, HO2.out, HB2.out⟩
  · have HQ : Hid (qb c = [c]) := qb_plain hp;go_enter Tryz.func133, Tryz.ntmps133
    go_wp2_with (first | (go_at_call 168; refine (plain_any _ _).mono ?_; rintro e w' ⟨rfl, rfl⟩) | (at_builtin; refine wpList_append_lies _ rfl _ _ 73 rfl base 5 i0 (.int .u8 0) 1 1 Tryz.underlying73 hi hz0 hz1 hz2 rfl (by decide) _ n (bc xs) rfl (HO.out.alloc _) ⟨w.heap.size, 0, none⟩ 1 1 [.int .u8 c] rfl rfl ?_ ?_ (by decide) ?_ ?_ ?_ (w.heap.size + 1) ?_ ?_))
    · exact World.news_of_block (cs := #[.int .u8 c]) (t := 5) (fr := (0, 0)) (heap_alloc_new w _)
    · exact bc_one [c]
    · unfold maxLen; omega
    · omega
    · simp; omega
    · simp
    · intro g1 cap1 w1 hown1 hgrow1 _ _;have HB : Hid (Below base w w1) := ((Below.refl _ _).alloc hb _).trans (below_own hgrow1 (HO.out.alloc _) (by simp; omega))
      have HO1 : Hid (w1.ownsRow base 5 1 (.slice (some ⟨g1, 0, none⟩) (n + 1) cap1) (n + 1) (bc (xs ++ [c]))) := by
        show World.ownsRow _ _ _ _ _ _ _; rw [bc_append]; exact hown1
      clear hown1 hgrow1;go_wp2
      go_ret
      rw [HQ.out];exact ⟨g1, cap1, rfl, HO1.out, HB.out⟩
def bl (s : ByteArray) : List Nat := s.data.toList.map UInt8.toNat
def str (l : List Nat) : ByteArray := strOfNums (l.map fun (n : Nat) => (n : Int))
def qin (l : List Nat) : List Nat := l.flatMap qb
def quoteL (l : List Nat) : List Nat := 34 :: (qin l ++ [34])
theorem qb_len (c : Nat) : 1 ≤ (qb c).length ∧ (qb c).length ≤ 4 := by unfold qb; split <;> simp
theorem bl_len (s : ByteArray) : (bl s).length = s.size := by unfold bl; rw [List.length_map]; exact Array.length_toList
theorem qin_snoc (s : ByteArray) (k : Nat) (h : k < s.size) : qin ((bl s).take (k + 1)) = qin ((bl s).take k) ++ qb s[k].toNat := by
  unfold bl;rw [← List.map_take, ← List.map_take, take_snoc s k h];simp [qin]
theorem own_len {w : World} {base n g cap : Nat} {xs : List Nat} (h : w.ownsRow base 5 1 (.slice (some ⟨g, 0, none⟩) n cap) n (bc xs)) : xs.length = n := by
  have := h.1; simpa [bc] using this
theorem conv_own {w : World} {base n g cap : Nat} {xs : List Nat} (h : w.ownsRow base 5 1 (.slice (some ⟨g, 0, none⟩) n cap) n (bc xs)) :
    (convert 73 9 (.slice (some ⟨g, 0, none⟩) n cap)).run Tryz.prog w = .ok (.string (str xs)) w := by
  have hl := own_len h;refine run_convert_bytes_arg w 73 5 Tryz.underlying73 Tryz.underlying5 g 0 n cap (xs.map fun (n : Nat) => (n : Int)) (by simpa using hl) ?_ 9 Tryz.underlying9;intro i hi
  have := h.cells (g := g) rfl i (.int .u8 ((xs.map fun (n : Nat) => (n : Int)).getD i 0)) (by
    simp [bc, List.getD, List.getElem?_eq_getElem (show i < xs.length by omega)])
  have hadd : (⟨g, 0, none⟩ : Addr).add i = ⟨g, 0 + i, none⟩ := by unfold Addr.add; split <;> simp_all
  rwa [hadd] at this
theorem Quote_any (s : ByteArray) (w : World) (hs : s.size ≤ 9000) :
    Calls Tryz.prog 87 #[.string s] w fun e w' => e = .returned (.string (str (quoteL (bl s)))) ∧ Below w.heap.size w w' := by
  obtain ⟨i0, hi, hz0, hz1, hz2⟩ := info_parts info5;go_enter Tryz.func87, Tryz.ntmps87
  go_wp2_with (first | (at_make; refine wpList_make_own _ rfl _ _ 73 rfl w.heap.size 5 i0 (.int .u8 0) 1 Tryz.underlying73 hi hz0 hz1 .i64 .i64 _ (s.size + 2) rfl rfl ?_ ?_ ?_ ?_ ?_))
  · omega
  · rw [hz2]; omega
  · unfold maxLen; omega
  · exact Nat.le_refl _
  intro w1 hown1 hgrow1;have HB1 : Hid (Below w.heap.size w w1) := (Below.refl _ _).grown hgrow1 (Nat.le_refl _) (fun k hk => by cases hk);have HO1 : Hid (w1.ownsRow w.heap.size 5 1 (.slice (some ⟨w.heap.size, 0, none⟩) 0 (s.size + 2)) 0 (bc [])) := hown1;have hb1 : w.heap.size ≤ w1.heap.size := HB1.out.size;clear hown1 hgrow1;generalize hB : w.heap.size = B at HB1 HO1 hb1 ⊢;go_wp2_with (first | (at_builtin; refine wpList_append_lies _ rfl _ _ 73 rfl B 5 i0 (.int .u8 0) 1 1 Tryz.underlying73 hi hz0 hz1 hz2 rfl (by decide) _ 0 (bc []) rfl (HO1.out.alloc _) ⟨w1.heap.size, 0, none⟩ 1 1 [.int .u8 34] rfl rfl ?_ ?_ (by decide) ?_ ?_ ?_ (w1.heap.size + 1) ?_ ?_))
  · exact World.news_of_block (cs := #[.int .u8 34]) (t := 5) (fr := (0, 0)) (heap_alloc_new w1 _)
  · exact bc_one [34]
  · unfold maxLen; omega
  · omega
  · simp; omega
  · simp
  intro g2 cap2 w2 hown2 hgrow2 _ _;have HB2 : Hid (Below B w w2) := HB1.out.trans (((Below.refl _ _).alloc hb1 _).trans (below_own hgrow2 (HO1.out.alloc _) (by simp; omega)));have HO2 : Hid (w2.ownsRow B 5 1 (.slice (some ⟨g2, 0, none⟩) 1 cap2) 1 (bc [34])) := hown2;clear hown2 hgrow2 HB1 HO1 hb1;go_wp2_with fail
  go_loopw [3, 4, 14] (fun q _ i wr => ∃ k n g cap : Nat, k ≤ s.size ∧ i = .int .i64 k ∧ q = .slice (some ⟨g, 0, none⟩) n cap ∧ n ≤ 4 * k + 1 ∧ Hid (wr.ownsRow B 5 1 (.slice (some ⟨g, 0, none⟩) n cap) n (bc (34 :: qin ((bl s).take k)))) ∧ Hid (Below B w wr)) (fun _ _ i _ => s.size - (intOf i).toNat)
  case atStart => exact ⟨0, 1, g2, cap2, Nat.zero_le _, rfl, rfl, by omega, HO2.out, HB2.out⟩
  case round =>
    clear HO2 HB2;obtain ⟨k, n, g, cap, hk, rfl, rfl, hn, HO, HB⟩ := hrel;have hbr : B ≤ wr.heap.size := by have := HB.out.size; omega
    by_cases hlt : k < s.size
    · have HS : Hid (qin ((bl s).take (k + 1)) = qin ((bl s).take k) ++ qb s[k].toNat) := qin_snoc s k hlt;have HL : Hid ((qb s[k].toNat).length ≤ 4) := (qb_len _).2;go_wp2_with (first | (go_at_call 133; refine (appendByte_any B n g cap _ s[k].toNat wr (UInt8.toNat_lt _) HO.out hbr (by omega)).mono ?_; rintro e w3 ⟨g3, cap3, rfl, ho3, hb3⟩))
      have HO3 : Hid (w3.ownsRow B 5 1 (.slice (some ⟨g3, 0, none⟩) (n + (qb s[k].toNat).length) cap3) (n + (qb s[k].toNat).length) (bc (34 :: qin ((bl s).take (k + 1))))) := by
        show World.ownsRow _ _ _ _ _ _ _; rw [HS.out]; exact ho3
      have HB3 : Hid (Below B w w3) := HB.out.trans hb3;go_roundw
      case rel => exact ⟨k + 1, _, g3, cap3, by omega, by go_num, rfl, by have := HL.out; omega, HO3.out, HB3.out⟩
      case measure => simp [intOf]; omega
    · have he : k = s.size := by omega
      subst he
      have HO' : Hid (wr.ownsRow B 5 1 (.slice (some ⟨g, 0, none⟩) n cap) n (bc (34 :: qin (bl s)))) := by
        have := HO.out; rwa [List.take_of_length_le (by rw [bl_len]; exact Nat.le_refl _)] at this
      clear HO;go_wp2_with (first | (at_builtin; refine wpList_append_lies _ rfl _ _ 73 rfl B 5 i0 (.int .u8 0) 1 1 Tryz.underlying73 hi hz0 hz1 hz2 rfl (by decide) _ n (bc (34 :: qin (bl s))) rfl (HO'.out.alloc _) ⟨wr.heap.size, 0, none⟩ 1 1 [.int .u8 34] rfl rfl ?_ ?_ (by decide) ?_ ?_ ?_ (wr.heap.size + 1) ?_ ?_))
      · exact World.news_of_block (cs := #[.int .u8 34]) (t := 5) (fr := (0, 0)) (heap_alloc_new wr _)
      · exact bc_one [34]
      · unfold maxLen; omega
      · omega
      · simp; omega
      · simp
      intro g4 cap4 w4 hown4 hgrow4 _ _;have HB4 : Hid (Below B w w4) := HB.out.trans (((Below.refl _ _).alloc hbr _).trans (below_own hgrow4 (HO'.out.alloc _) (by simp; omega)))
      have HO4 : w4.ownsRow B 5 1 (.slice (some ⟨g4, 0, none⟩) (n + 1) cap4) (n + 1) (bc (quoteL (bl s))) := by
        have e : bc (quoteL (bl s)) = bc (34 :: qin (bl s)) ++ [.int .u8 34] := by unfold quoteL; simp [bc]
        rw [e]; exact hown4
      have hcv := conv_own HO4;clear hown4 hgrow4 HO4 HO' HB;go_wp2
      go_ret
      exact ⟨rfl, by rw [hB]; exact HB4.out⟩
end Go.Proofs.YtmoiikpjegbokaaGreatDoor.Tq
