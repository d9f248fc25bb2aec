/- Quote: a text between quotation marks. -/
import Derived.Test.YtinhfgpcgbnhdaaT2
namespace Go.Proofs.Ytinhfgpcgbnhdaa
open Go.RowKit

/-- The bytes of a text. -/
def bl (s : ByteArray) : List Nat := s.data.toList.map UInt8.toNat
/-- The text of bytes. -/
def str (l : List Nat) : ByteArray := strOfNums (l.map fun (n : Nat) => (n : Int))
/-- The inside of a quote. -/
def qin (l : List Nat) : List Nat := l.flatMap qb
/-- A quote. -/
def quoteL (l : List Nat) : List Nat := 34 :: (qin l ++ [34])

theorem qb_len (c : Nat) : 1 ≤ (qb c).length ∧ (qb c).length ≤ 4 := by unfold qb; split <;> simp
theorem qin_len (l : List Nat) : l.length ≤ (qin l).length ∧ (qin l).length ≤ 4 * l.length := by
  induction l with
  | nil => simp [qin]
  | cons a l ih =>
    have := qb_len a
    simp only [qin, List.flatMap_cons, List.length_append, List.length_cons] at ih ⊢
    omega
theorem bl_len (s : ByteArray) : (bl s).length = s.size := by unfold bl; rw [List.length_map]; exact Array.length_toList
theorem qin_snoc (s : ByteArray) (k : Nat) (h : k < s.size) : qin ((bl s).take (k + 1)) = qin ((bl s).take k) ++ qb s[k].toNat := by
  unfold bl
  rw [← List.map_take, ← List.map_take, take_snoc s k h]
  simp [qin]
theorem qin_take_len (s : ByteArray) (k : Nat) (h : k ≤ s.size) : (qin ((bl s).take k)).length ≤ 4 * k := by
  have := (qin_len ((bl s).take k)).2
  rw [List.length_take, bl_len] at this; omega

theorem own_len {w : World} {base n g cap : Nat} {xs : List Nat} (h : w.ownsRow base 5 1 (.slice (some ⟨g, 0, none⟩) n cap) n (bc xs)) : xs.length = n := by
  have := h.1; simpa [bc] using this

theorem conv_own {w : World} {base n g cap : Nat} {xs : List Nat} (h : w.ownsRow base 5 1 (.slice (some ⟨g, 0, none⟩) n cap) n (bc xs)) :
    (convert 48 9 (.slice (some ⟨g, 0, none⟩) n cap)).run Try.prog w = .ok (.string (str xs)) w := by
  have hl := own_len h
  refine run_convert_bytes_arg w 48 5 Try.underlying48 Try.underlying5 g 0 n cap (xs.map fun (n : Nat) => (n : Int)) (by simpa using hl) ?_ 9 Try.underlying9
  intro i hi
  have := h.cells (g := g) rfl i (.int .u8 ((xs.map fun (n : Nat) => (n : Int)).getD i 0)) (by
    simp [bc, List.getD, List.getElem?_eq_getElem (show i < xs.length by omega)])
  have hadd : (⟨g, 0, none⟩ : Addr).add i = ⟨g, 0 + i, none⟩ := by unfold Addr.add; split <;> simp_all
  rwa [hadd] at this

set_option maxHeartbeats 1000000 in
theorem Quote_any (s : ByteArray) (w : World) (hs : s.size ≤ 3000) :
    Calls Try.prog 24 #[.string s] w fun e w' => e = .returned (.string (str (quoteL (bl s)))) ∧ Below w.heap.size w w' := by
  obtain ⟨i0, hi, hz0, hz1, hz2⟩ := info_parts info5
  go_enter Try.func24, Try.ntmps24
  go_wp2_with (first | (at_make; refine wpList_make_own _ rfl _ _ 48 rfl w.heap.size 5 i0 (.int .u8 0) 1 Try.underlying48 hi hz0 hz1 .i64 .i64 _ (s.size + 2) rfl rfl ?_ ?_ ?_ ?_ ?_))
  · omega
  · rw [hz2]; omega
  · unfold maxLen; omega
  · exact Nat.le_refl _
  intro w1 hown1 hgrow1
  have HB1 : Hid (Below w.heap.size w w1) := (Below.refl _ _).grown hgrow1 (Nat.le_refl _) (fun k hk => by cases hk)
  have HO1 : Hid (w1.ownsRow w.heap.size 5 1 (.slice (some ⟨w.heap.size, 0, none⟩) 0 (s.size + 2)) 0 (bc [])) := hown1
  have hb1 : w.heap.size ≤ w1.heap.size := HB1.out.size
  clear hown1 hgrow1
  generalize hB : w.heap.size = B at HB1 HO1 hb1 ⊢
  go_wp2_with (first | (at_builtin; refine wpList_append_lies _ rfl _ _ 48 rfl B 5 i0 (.int .u8 0) 1 1 Try.underlying48 hi hz0 hz1 hz2 rfl (by decide) _ 0 (bc []) rfl (HO1.out.alloc _) ⟨w1.heap.size, 0, none⟩ 1 1 [.int .u8 34] rfl rfl ?_ ?_ (by decide) ?_ ?_ ?_ (w1.heap.size + 1) ?_ ?_))
  · exact World.news_of_block (cs := #[.int .u8 34]) (t := 5) (fr := (0, 0)) (heap_alloc_new w1 _)
  · exact bc_one [34]
  · unfold maxLen; omega
  · omega
  · simp; omega
  · simp
  intro g2 cap2 w2 hown2 hgrow2 _ _
  have HB2 : Hid (Below B w w2) := HB1.out.trans (((Below.refl _ _).alloc hb1 _).trans (below_own hgrow2 (HO1.out.alloc _) (by simp; omega)))
  have HO2 : Hid (w2.ownsRow B 5 1 (.slice (some ⟨g2, 0, none⟩) 1 cap2) 1 (bc [34])) := hown2
  clear hown2 hgrow2 HB1 HO1 hb1
  go_wp2_with fail
  go_loopw [3, 4, 14] (fun q _ i wr => ∃ k n g cap : Nat, k ≤ s.size ∧ i = .int .i64 k ∧ q = .slice (some ⟨g, 0, none⟩) n cap ∧ n ≤ 4 * k + 1 ∧ Hid (wr.ownsRow B 5 1 (.slice (some ⟨g, 0, none⟩) n cap) n (bc (34 :: qin ((bl s).take k)))) ∧ Hid (Below B w wr)) (fun _ _ i _ => s.size - (intOf i).toNat)
  case atStart => exact ⟨0, 1, g2, cap2, Nat.zero_le _, rfl, rfl, by omega, HO2.out, HB2.out⟩
  case round =>
    clear HO2 HB2
    obtain ⟨k, n, g, cap, hk, rfl, rfl, hn, HO, HB⟩ := hrel
    have hbr : B ≤ wr.heap.size := by have := HB.out.size; omega
    by_cases hlt : k < s.size
    · have HS : Hid (qin ((bl s).take (k + 1)) = qin ((bl s).take k) ++ qb s[k].toNat) := qin_snoc s k hlt
      have HL : Hid ((qb s[k].toNat).length ≤ 4) := (qb_len _).2
      go_wp2_with (first | (go_at_call 31; refine (appendByte_any B n g cap _ s[k].toNat wr (UInt8.toNat_lt _) HO.out hbr (by omega)).mono ?_; rintro e w3 ⟨g3, cap3, rfl, ho3, hb3⟩))
      have HO3 : Hid (w3.ownsRow B 5 1 (.slice (some ⟨g3, 0, none⟩) (n + (qb s[k].toNat).length) cap3) (n + (qb s[k].toNat).length) (bc (34 :: qin ((bl s).take (k + 1))))) := by
        show World.ownsRow _ _ _ _ _ _ _; rw [HS.out]; exact ho3
      have HB3 : Hid (Below B w w3) := HB.out.trans hb3
      go_roundw
      case rel => exact ⟨k + 1, _, g3, cap3, by omega, by go_num, rfl, by have := HL.out; omega, HO3.out, HB3.out⟩
      case measure => simp [intOf]; omega
    · have he : k = s.size := by omega
      subst he
      have HO' : Hid (wr.ownsRow B 5 1 (.slice (some ⟨g, 0, none⟩) n cap) n (bc (34 :: qin (bl s)))) := by
        have := HO.out; rwa [List.take_of_length_le (by rw [bl_len]; exact Nat.le_refl _)] at this
      clear HO
      go_wp2_with (first | (at_builtin; refine wpList_append_lies _ rfl _ _ 48 rfl B 5 i0 (.int .u8 0) 1 1 Try.underlying48 hi hz0 hz1 hz2 rfl (by decide) _ n (bc (34 :: qin (bl s))) rfl (HO'.out.alloc _) ⟨wr.heap.size, 0, none⟩ 1 1 [.int .u8 34] rfl rfl ?_ ?_ (by decide) ?_ ?_ ?_ (wr.heap.size + 1) ?_ ?_))
      · exact World.news_of_block (cs := #[.int .u8 34]) (t := 5) (fr := (0, 0)) (heap_alloc_new wr _)
      · exact bc_one [34]
      · unfold maxLen; omega
      · omega
      · simp; omega
      · simp
      intro g4 cap4 w4 hown4 hgrow4 _ _
      have HB4 : Hid (Below B w w4) := HB.out.trans (((Below.refl _ _).alloc hbr _).trans (below_own hgrow4 (HO'.out.alloc _) (by simp; omega)))
      have HO4 : w4.ownsRow B 5 1 (.slice (some ⟨g4, 0, none⟩) (n + 1) cap4) (n + 1) (bc (quoteL (bl s))) := by
        have e : bc (quoteL (bl s)) = bc (34 :: qin (bl s)) ++ [.int .u8 34] := by unfold quoteL; simp [bc]
        rw [e]; exact hown4
      have hcv := conv_own HO4
      clear hown4 hgrow4 HO4 HO' HB
      go_wp2
      go_ret
      exact ⟨rfl, by rw [hB]; exact HB4.out⟩
end Go.Proofs.Ytinhfgpcgbnhdaa
