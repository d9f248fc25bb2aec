/- Joined: U1 C4 C5 C6 C7 C8 C9. -/
import Derived.Test.YtgkgpjbbmnfnmaaGreatDoorRows
import Derived.Test.YtgkgpjbbmnfnmaaGreatDoorGA
import Derived.WalkKit
import Derived.WalkSpells
import Derived.WalkLawsBesides
import Derived.Laws.BitsAllLaws
import Derived.Lib.AppendStr
import Derived.Deep.AppendLies
import Derived.Deep.RegionHeld3
import Derived.Laws.BytesArg
import Derived.Test.YtgkgpjbbmnfnmaaGreatDoorGB
import Derived.RangeFuncRecord
import Derived.Deep.MidRow
/- Unquote. Out of the texts' own texts, renumbered. -/
namespace Go.Proofs.YtgkgpjbbmnfnmaaGreatDoor.Tx
open Go.RowKit
set_option linter.unusedSimpArgs false
set_option linter.unusedVariables false

/-- Does a byte stand for itself? -/
def pl (c : Nat) : Bool := decide (32 ≤ c) && decide (c ≤ 126) && c != 34 && c != 92
set_option maxRecDepth 20000 in
theorem pl_false1 {c : Nat} (h : c < 32 ∨ 126 < c ∨ c = 34 ∨ c = 92) : pl c = false := by
  unfold pl; rw [Bool.eq_false_iff]; intro e
  simp only [Bool.and_eq_true, decide_eq_true_eq, bne_iff_ne, ne_eq] at e
  omega
set_option maxRecDepth 20000 in
theorem pl_true1 {c : Nat} (h1 : 32 ≤ c) (h2 : c ≤ 126) (h3 : c ≠ 34) (h4 : c ≠ 92) : pl c = true := by
  unfold pl
  simp only [Bool.and_eq_true, decide_eq_true_eq, bne_iff_ne, ne_eq]
  exact ⟨⟨⟨h1, h2⟩, h3⟩, h4⟩
set_option maxRecDepth 20000 in
theorem pl_cases (c : Nat) : (c < 32 ∧ pl c = false) ∨ (126 < c ∧ 32 ≤ c ∧ pl c = false) ∨ (c = 34 ∧ pl c = false) ∨ (c = 92 ∧ pl c = false) ∨ (32 ≤ c ∧ c ≤ 126 ∧ c ≠ 34 ∧ c ≠ 92 ∧ pl c = true) := by
  by_cases h1 : c < 32
  · exact Or.inl ⟨h1, pl_false1 (Or.inl h1)⟩
  · by_cases h2 : 126 < c
    · exact Or.inr (Or.inl ⟨h2, by omega, pl_false1 (Or.inr (Or.inl h2))⟩)
    · by_cases h3 : c = 34
      · exact Or.inr (Or.inr (Or.inl ⟨h3, pl_false1 (Or.inr (Or.inr (Or.inl h3)))⟩))
      · by_cases h4 : c = 92
        · exact Or.inr (Or.inr (Or.inr (Or.inl ⟨h4, pl_false1 (Or.inr (Or.inr (Or.inr h4)))⟩)))
        · exact Or.inr (Or.inr (Or.inr (Or.inr ⟨by omega, by omega, h3, h4, pl_true1 (by omega) (by omega) h3 h4⟩)))
set_option maxHeartbeats 400000 in
set_option maxRecDepth 20000 in
theorem plain_any (c : Nat) (w : World) :
    Calls Tryz.prog 123 #[.int .u8 c] w fun e w' => e = .returned (.bool (pl c)) ∧ w = w' := by
  rcases pl_cases c with ⟨h, hp⟩ | ⟨h, h', hp⟩ | ⟨h, hp⟩ | ⟨h, hp⟩ | ⟨h1, h2, h3, h4, hp⟩
  · rw [hp]; clear hp
    go_enter Tryz.func123, Tryz.ntmps123
    go_wp2
    go_ret
    exact ⟨rfl, rfl⟩
  · rw [hp]; clear hp
    go_enter Tryz.func123, Tryz.ntmps123
    go_wp2
    go_ret
    exact ⟨rfl, rfl⟩
  · rw [hp]; clear hp; subst h
    go_enter Tryz.func123, Tryz.ntmps123
    go_wp2
    go_ret
    exact ⟨rfl, rfl⟩
  · rw [hp]; clear hp; subst h
    go_enter Tryz.func123, Tryz.ntmps123
    go_wp2
    go_ret
    exact ⟨rfl, rfl⟩
  · rw [hp]; clear hp
    have e3 : ((c : Int) != 34) = true := by simp; omega
    have e4 : ((c : Int) != 92) = true := by simp; omega
    clear h3 h4
    go_enter Tryz.func123, Tryz.ntmps123
    go_wp2
    go_ret
    exact ⟨rfl, rfl⟩
/-- Bytes as cells. -/
def bc (l : List Nat) : List Value := l.map fun (n : Nat) => .int .u8 (n : Int)
set_option maxRecDepth 20000 in
theorem bc_one (l : List Nat) : ∀ u ∈ bc l, u.oneCell' = true := by
  intro u hu; simp only [bc, List.mem_map] at hu; obtain ⟨n, _, rfl⟩ := hu; rfl
set_option maxRecDepth 20000 in
theorem bc_append (a b : List Nat) : bc (a ++ b) = bc a ++ bc b := by simp [bc]
set_option maxRecDepth 20000 in
theorem info5 : (Tryz.prog.info? 5).map (fun i => (i.zero, i.size, i.bytes)) = some (some (.int .u8 0), 1, 1) := by kernel_rfl
abbrev digs : ByteArray := ⟨#[48, 49, 50, 51, 52, 53, 54, 55, 56, 57, 97, 98, 99, 100, 101, 102]⟩
set_option maxRecDepth 20000 in
theorem below_own {w w' : World} {base e size n g cap : Nat} {xs : List Value} (hg : w.grownBy w' (Value.ownBlock (.slice (some ⟨g, 0, none⟩) n cap))) (hown : w.ownsRow base e size (.slice (some ⟨g, 0, none⟩) n cap) n xs) (hb : base ≤ w.heap.size) : Below base w w' := by
  have hl := hown.lt g rfl
  exact (Below.refl _ _).grown hg hb (fun k hk => by simp [Value.ownBlock] at hk; omega)
/-- The bytes of a text. -/
def bl (s : ByteArray) : List Nat := s.data.toList.map UInt8.toNat
/-- The text of bytes. -/
def str (l : List Nat) : ByteArray := strOfNums (l.map fun (n : Nat) => (n : Int))
set_option maxRecDepth 20000 in
theorem bl_len (s : ByteArray) : (bl s).length = s.size := by unfold bl; rw [List.length_map]; exact Array.length_toList
set_option maxRecDepth 20000 in
theorem own_len {w : World} {base n g cap : Nat} {xs : List Nat} (h : w.ownsRow base 5 1 (.slice (some ⟨g, 0, none⟩) n cap) n (bc xs)) : xs.length = n := by
  have := h.1; simpa [bc] using this
set_option maxRecDepth 20000 in
theorem conv_own {w : World} {base n g cap : Nat} {xs : List Nat} (h : w.ownsRow base 5 1 (.slice (some ⟨g, 0, none⟩) n cap) n (bc xs)) :
    (convert 106 9 (.slice (some ⟨g, 0, none⟩) n cap)).run Tryz.prog w = .ok (.string (str xs)) w := by
  have hl := own_len h
  refine run_convert_bytes_arg w 106 5 Tryz.underlying106 Tryz.underlying5 g 0 n cap (xs.map fun (n : Nat) => (n : Int)) (by simpa using hl) ?_ 9 Tryz.underlying9
  intro i hi
  have := h.cells (g := g) rfl i (.int .u8 ((xs.map fun (n : Nat) => (n : Int)).getD i 0)) (by
    simp [bc, List.getD, List.getElem?_eq_getElem (show i < xs.length by omega)])
  have hadd : (⟨g, 0, none⟩ : Addr).add i = ⟨g, 0 + i, none⟩ := by unfold Addr.add; split <;> simp_all
  rwa [hadd] at this
set_option maxRecDepth 20000 in
theorem bl_lt (s : ByteArray) : ∀ a ∈ bl s, a < 256 := by
  intro a ha; unfold bl at ha; obtain ⟨b, _, rfl⟩ := List.mem_map.1 ha; exact UInt8.toNat_lt b
set_option maxRecDepth 20000 in
theorem grown_of_below {w w' : World} (h : Below w.heap.size w w') : w.grownBy w' none :=
  ⟨h.os, h.tape, h.output, h.size, fun k hk _ => h.block k hk⟩
set_option maxRecDepth 20000 in
theorem bl_getD (s : ByteArray) (i : Nat) (h : i < s.size) : (bl s).getD i 0 = s[i].toNat := by
  have h' : i < (bl s).length := by rw [bl_len]; exact h
  simp only [List.getD, List.getElem?_eq_getElem h', Option.getD_some]
  exact List.getElem_map (l := s.data.toList) (f := UInt8.toNat) (i := i) (h := by simpa [bl] using h')
/-- What a digit is worth; -1: it is none. -/
def hexI (n : Nat) : Int := if 48 ≤ n ∧ n ≤ 57 then (n : Int) - 48 else if 97 ≤ n ∧ n ≤ 102 then (n : Int) - 87 else -1
set_option maxRecDepth 20000 in
theorem hexI_bd (n : Nat) : -1 ≤ hexI n ∧ hexI n ≤ 15 := by
  unfold hexI
  split
  · omega
  · split <;> omega
set_option maxRecDepth 20000 in
theorem digs_index : ∀ n, n < 256 → Lib.indexByte digs.data.toList (UInt8.ofNat n) = hexI n := by decide +kernel
set_option maxRecDepth 20000 in
theorem IndexByte_digs (c : UInt8) (w : World) :
    Calls Tryz.prog 49 #[.string digs, .int .u8 c.toNat] w fun e w' => e = .returned (.int .i64 (hexI c.toNat)) ∧ w = w' := by
  have h := Tryz.strings_IndexByte digs c.toNat w
  have e : ((c.toNat : Int).toNat).toUInt8 = UInt8.ofNat c.toNat := by rw [Int.toNat_natCast]
  rw [e, digs_index c.toNat (UInt8.toNat_lt c)] at h
  exact h.mono fun e w' ⟨h1, h2⟩ => ⟨h1, h2.symm⟩
/-- The byte with which a list begins as a quote tells it, and how many bytes tell it. -/
def fbL (l : List Nat) : Nat × Nat :=
  if pl (l.getD 0 0) then (l.getD 0 0, 1)
  else if l.length < 4 ∨ l.getD 0 0 ≠ 92 ∨ l.getD 1 0 ≠ 120 then (0, 0)
  else if hexI (l.getD 2 0) < 0 ∨ hexI (l.getD 3 0) < 0 then (0, 0)
  else if pl ((hexI (l.getD 2 0)).toNat * 16 + (hexI (l.getD 3 0)).toNat) then (0, 0)
  else ((hexI (l.getD 2 0)).toNat * 16 + (hexI (l.getD 3 0)).toNat, 4)
/-- Does the text begin with a backslash and an x? -/
def escB (s : ByteArray) : Bool := (s.extract 0 2).toList == [92, 120]
set_option maxHeartbeats 1000000 in
set_option maxRecDepth 20000 in
theorem HasPrefix_esc (s : ByteArray) (w : World) (hs : 4 ≤ s.size) (hm : s.size ≤ maxLen) :
    Calls Tryz.prog 28 #[.string s, .string ⟨#[92, 120]⟩] w fun e w' => e = .returned (.bool (escB s)) ∧ w = w' := by
  unfold maxLen at hm
  go_enter Tryz.func28, Tryz.ntmps28
  go_wp2_with (first | go_in)
  go_ret
  exact ⟨rfl, rfl⟩
set_option maxRecDepth 20000 in
theorem escB_eq (s : ByteArray) (h : 4 ≤ s.size) : escB s = (s[0].toNat == 92 && s[1].toNat == 120) := by
  obtain ⟨⟨l⟩⟩ := s
  match l, h with
  | a :: b :: c :: d :: r, _ =>
    unfold escB
    rw [ByteArray.toList_eq, Lib.extract_data]
    show ([a, b] == [92, 120]) = (a.toNat == 92 && b.toNat == 120)
    rw [Bool.eq_iff_iff]
    simp only [List.cons_beq_cons, Bool.and_eq_true, beq_iff_eq, List.nil_beq_eq, List.isEmpty_nil, and_true]
    constructor
    · rintro ⟨rfl, rfl⟩; exact ⟨rfl, rfl⟩
    · rintro ⟨h1, h2⟩; exact ⟨UInt8.toNat_inj.1 h1, UInt8.toNat_inj.1 h2⟩
set_option maxRecDepth 20000 in
theorem fb_plain (s : ByteArray) (h : 0 < s.size) (hp : pl s[0].toNat = true) : fbL (bl s) = (s[0].toNat, 1) := by
  unfold fbL; rw [bl_getD s 0 h, if_pos hp]
set_option maxRecDepth 20000 in
theorem fb_short (s : ByteArray) (h : 0 < s.size) (hp : pl s[0].toNat = false) (h4 : s.size < 4) : fbL (bl s) = (0, 0) := by
  unfold fbL; rw [bl_getD s 0 h, hp, if_neg (by decide), if_pos (Or.inl (by rw [bl_len]; exact h4))]
set_option maxRecDepth 20000 in
theorem fb_noesc (s : ByteArray) (h : 4 ≤ s.size) (hp : pl s[0].toNat = false) (he : escB s = false) : fbL (bl s) = (0, 0) := by
  rw [escB_eq s h] at he
  unfold fbL; rw [bl_getD s 0 (by omega), hp, if_neg (by decide), if_pos (Or.inr _)]
  rw [bl_getD s 1 (by omega)]
  simp only [Bool.and_eq_false_iff, beq_eq_false_iff_ne] at he
  exact he
set_option maxRecDepth 20000 in
theorem fb_esc (s : ByteArray) (h : 4 ≤ s.size) (hp : pl s[0].toNat = false) (he : escB s = true) :
    fbL (bl s) = if hexI s[2].toNat < 0 ∨ hexI s[3].toNat < 0 then (0, 0) else if pl ((hexI s[2].toNat).toNat * 16 + (hexI s[3].toNat).toNat) then (0, 0) else ((hexI s[2].toNat).toNat * 16 + (hexI s[3].toNat).toNat, 4) := by
  rw [escB_eq s h] at he
  simp only [Bool.and_eq_true, beq_iff_eq] at he
  unfold fbL
  rw [bl_getD s 0 (by omega), bl_getD s 1 (by omega), bl_getD s 2 (by omega), bl_getD s 3 (by omega), hp, if_neg (by decide), if_neg]
  rw [bl_len]
  rintro (h1 | h1 | h1)
  · omega
  · exact h1 he.1
  · exact h1 he.2
set_option maxRecDepth 20000 in
theorem or_hex : ∀ h, h < 16 → ∀ l, l < 16 → bits .or .i64 ((h : Nat) * 16 : Int) (l : Nat) % 256 = ((h * 16 + l : Nat) : Int) := by decide +kernel
set_option maxHeartbeats 1000000 in
set_option maxRecDepth 20000 in
theorem firstByte_any (s : ByteArray) (w : World) (hs : 0 < s.size) (hm : s.size ≤ maxLen) :
    Calls Tryz.prog 78 #[.string s] w fun e w' => e = .returned (.tuple #[.int .u8 (fbL (bl s)).1, .int .i64 (fbL (bl s)).2]) ∧ Below w.heap.size w w' := by
  have hm' := hm
  unfold maxLen at hm
  have h0 : (0 : Int) < (s.size : Int) := by omega
  cases hp : pl s[0].toNat
  · by_cases h4 : s.size < 4
    · have HF : Hid (fbL (bl s) = (0, 0)) := fb_short s hs hp h4
      go_enter Tryz.func78, Tryz.ntmps78
      go_wp2_with (first | (go_at_call 123; refine (plain_any _ _).mono ?_; rintro e w' ⟨rfl, rfl⟩))
      go_ret2
      rw [HF.out]
      exact ⟨rfl, Below.refl _ _⟩
    · cases he : escB s
      · have HF : Hid (fbL (bl s) = (0, 0)) := fb_noesc s (by omega) hp he
        go_enter Tryz.func78, Tryz.ntmps78
        go_wp2_with (first | (go_at_call 123; refine (plain_any _ _).mono ?_; rintro e w' ⟨rfl, rfl⟩) | (go_at_call 28; refine (HasPrefix_esc _ _ (by omega) hm').mono ?_; rintro e w' ⟨rfl, rfl⟩))
        go_ret2
        rw [HF.out]
        exact ⟨rfl, Below.refl _ _⟩
      · have h5 : 4 ≤ s.size := by omega
        have HF : Hid (fbL (bl s) = if hexI s[2].toNat < 0 ∨ hexI s[3].toNat < 0 then (0, 0) else if pl ((hexI s[2].toNat).toNat * 16 + (hexI s[3].toNat).toNat) then (0, 0) else ((hexI s[2].toNat).toNat * 16 + (hexI s[3].toNat).toNat, 4)) := fb_esc s h5 hp he
        have h2 : (2 : Int) < (s.size : Int) := by omega
        have h3 : (3 : Int) < (s.size : Int) := by omega
        obtain ⟨h, hh⟩ : ∃ h, h = hexI s[2].toNat := ⟨_, rfl⟩
        obtain ⟨l, hl⟩ : ∃ l, l = hexI s[3].toNat := ⟨_, rfl⟩
        have i1 := IndexByte_digs s[2]
        have i2 := IndexByte_digs s[3]
        have b1 := hexI_bd s[2].toNat
        have b2 := hexI_bd s[3].toNat
        have hf := HF.out
        rw [← hh] at i1 b1 hf
        rw [← hl] at i2 b2 hf
        have I1 : Hid (∀ w, Calls Tryz.prog 49 #[.string digs, .int .u8 s[2].toNat] w fun e w' => e = .returned (.int .i64 h) ∧ w = w') := i1
        have I2 : Hid (∀ w, Calls Tryz.prog 49 #[.string digs, .int .u8 s[3].toNat] w fun e w' => e = .returned (.int .i64 l) ∧ w = w') := i2
        have HF2 : Hid (fbL (bl s) = if h < 0 ∨ l < 0 then (0, 0) else if pl (h.toNat * 16 + l.toNat) then (0, 0) else (h.toNat * 16 + l.toNat, 4)) := hf
        clear i1 i2 hf HF hh hl
        by_cases hn : h < 0
        · have HF3 : Hid (fbL (bl s) = (0, 0)) := by show _ = _; rw [HF2.out, if_pos (Or.inl hn)]
          clear HF2
          go_enter Tryz.func78, Tryz.ntmps78
          go_wp2_with (first | (go_at_call 123; refine (plain_any _ _).mono ?_; rintro e w' ⟨rfl, rfl⟩) | (go_at_call 28; refine (HasPrefix_esc _ _ h5 hm').mono ?_; rintro e w' ⟨rfl, rfl⟩))
          refine (I1.out _).mono ?_
          rintro e w' ⟨rfl, rfl⟩
          go_wp2_with fail
          refine (I2.out _).mono ?_
          rintro e w' ⟨rfl, rfl⟩
          go_wp2
          go_ret2
          rw [HF3.out]
          exact ⟨rfl, Below.refl _ _⟩
        · by_cases ln : l < 0
          · have HF3 : Hid (fbL (bl s) = (0, 0)) := by show _ = _; rw [HF2.out, if_pos (Or.inr ln)]
            clear HF2
            go_enter Tryz.func78, Tryz.ntmps78
            go_wp2_with (first | (go_at_call 123; refine (plain_any _ _).mono ?_; rintro e w' ⟨rfl, rfl⟩) | (go_at_call 28; refine (HasPrefix_esc _ _ h5 hm').mono ?_; rintro e w' ⟨rfl, rfl⟩))
            refine (I1.out _).mono ?_
            rintro e w' ⟨rfl, rfl⟩
            go_wp2_with fail
            refine (I2.out _).mono ?_
            rintro e w' ⟨rfl, rfl⟩
            go_wp2
            go_ret2
            rw [HF3.out]
            exact ⟨rfl, Below.refl _ _⟩
          · obtain ⟨x, rfl⟩ := Int.eq_ofNat_of_zero_le (show 0 ≤ h by omega)
            obtain ⟨y, rfl⟩ := Int.eq_ofNat_of_zero_le (show 0 ≤ l by omega)
            have ho := or_hex x (by omega) y (by omega)
            have HF3 : Hid (fbL (bl s) = if pl (x * 16 + y) then (0, 0) else (x * 16 + y, 4)) := by show _ = _; rw [HF2.out, if_neg (by omega)]; rfl
            obtain ⟨v, hv⟩ : ∃ v : Nat, v = x * 16 + y := ⟨_, rfl⟩
            rw [← hv] at ho
            have HF4 : Hid (fbL (bl s) = if pl v then (0, 0) else (v, 4)) := by have := HF3.out; rw [← hv] at this; exact this
            clear HF2 HF3 hv
            cases hpv : pl v
            · have HF5 : Hid (fbL (bl s) = (v, 4)) := by show _ = _; rw [HF4.out, hpv]; rfl
              clear HF4
              go_enter Tryz.func78, Tryz.ntmps78
              go_wp2_with (first | (go_at_call 123; refine (plain_any _ _).mono ?_; rintro e w' ⟨rfl, rfl⟩) | (go_at_call 28; refine (HasPrefix_esc _ _ h5 hm').mono ?_; rintro e w' ⟨rfl, rfl⟩))
              refine (I1.out _).mono ?_
              rintro e w' ⟨rfl, rfl⟩
              go_wp2_with fail
              refine (I2.out _).mono ?_
              rintro e w' ⟨rfl, rfl⟩
              go_wp2_with (first | (go_at_call 123; refine (plain_any _ _).mono ?_; rintro e w' ⟨rfl, rfl⟩))
              go_ret2
              rw [HF5.out]
              exact ⟨rfl, Below.refl _ _⟩
            · have HF5 : Hid (fbL (bl s) = (0, 0)) := by show _ = _; rw [HF4.out, hpv]; rfl
              clear HF4
              go_enter Tryz.func78, Tryz.ntmps78
              go_wp2_with (first | (go_at_call 123; refine (plain_any _ _).mono ?_; rintro e w' ⟨rfl, rfl⟩) | (go_at_call 28; refine (HasPrefix_esc _ _ h5 hm').mono ?_; rintro e w' ⟨rfl, rfl⟩))
              refine (I1.out _).mono ?_
              rintro e w' ⟨rfl, rfl⟩
              go_wp2_with fail
              refine (I2.out _).mono ?_
              rintro e w' ⟨rfl, rfl⟩
              go_wp2_with (first | (go_at_call 123; refine (plain_any _ _).mono ?_; rintro e w' ⟨rfl, rfl⟩))
              go_ret2
              rw [HF5.out]
              exact ⟨rfl, Below.refl _ _⟩
  · have HF : Hid (fbL (bl s) = (s[0].toNat, 1)) := fb_plain s hs hp
    go_enter Tryz.func78, Tryz.ntmps78
    go_wp2_with (first | (go_at_call 123; refine (plain_any _ _).mono ?_; rintro e w' ⟨rfl, rfl⟩))
    go_ret2
    rw [HF.out]
    exact ⟨rfl, Below.refl _ _⟩
set_option maxRecDepth 20000 in
theorem fb_le (l : List Nat) (h : l ≠ []) : (fbL l).2 ≤ l.length := by
  have h0 : 0 < l.length := List.length_pos_iff.2 h
  unfold fbL
  split
  · show 1 ≤ l.length; omega
  · split
    · exact Nat.zero_le _
    · rename_i hh
      split
      · exact Nat.zero_le _
      · split
        · exact Nat.zero_le _
        · show 4 ≤ l.length; omega
set_option maxRecDepth 20000 in
theorem fb_lt (l : List Nat) (hl : ∀ a ∈ l, a < 256) : (fbL l).1 < 256 := by
  have h0 : l.getD 0 0 < 256 := by
    cases l with
    | nil => decide
    | cons a l => exact hl a (by simp)
  unfold fbL
  split
  · exact h0
  · split
    · decide
    · split
      · decide
      · split
        · decide
        · have b1 := hexI_bd (l.getD 2 0)
          have b2 := hexI_bd (l.getD 3 0)
          show (hexI (l.getD 2 0)).toNat * 16 + (hexI (l.getD 3 0)).toNat < 256
          omega
/-- The bytes that the inside of a quote tells; none: it is no inside. -/
def unqL (l : List Nat) : Option (List Nat) :=
  if _h : l = [] then some [] else if _h2 : (fbL l).2 = 0 then none else (unqL (l.drop (fbL l).2)).map ((fbL l).1 :: ·)
  termination_by l.length
  decreasing_by
    have h0 : 0 < l.length := List.length_pos_iff.2 _h
    rw [List.length_drop]; omega
set_option maxRecDepth 20000 in
theorem unq_nil : unqL [] = some [] := by rw [unqL]; simp
set_option maxRecDepth 20000 in
theorem unq_none {l : List Nat} (h : l ≠ []) (h2 : (fbL l).2 = 0) : unqL l = none := by rw [unqL]; simp [h, h2]
set_option maxRecDepth 20000 in
theorem unq_some {l : List Nat} (h : l ≠ []) (h2 : (fbL l).2 ≠ 0) : unqL l = (unqL (l.drop (fbL l).2)).map ((fbL l).1 :: ·) := by
  conv => lhs; rw [unqL]
  simp [h, h2]
/-- What Unquote gives. -/
def unquoteB (s : ByteArray) : Bool := decide (2 ≤ s.size) && ((bl s).getD 0 0 == 34 && (bl s).getD (s.size - 1) 0 == 34)
def unquoteT (s : ByteArray) : Value :=
  if unquoteB s then (match unqL (bl (s.extract 1 (s.size - 1))) with | some l => .tuple #[.string (str l), .int .i64 0] | none => .tuple #[.string ⟨#[]⟩, .int .i64 6])
  else .tuple #[.string ⟨#[]⟩, .int .i64 6]
def strLen : Value → Nat
  | .string t => t.size
  | _ => 0
set_option maxRecDepth 20000 in
theorem bl_drop (t : ByteArray) (k : Nat) : bl (t.extract k t.size) = (bl t).drop k := by
  unfold bl; rw [Lib.extract_to_end, List.map_drop]
set_option maxRecDepth 20000 in
theorem bl_ne {t : ByteArray} (h : 0 < t.size) : bl t ≠ [] := by
  intro e; have := bl_len t; rw [e] at this; simp at this; omega
set_option maxHeartbeats 2000000 in
set_option maxRecDepth 20000 in
theorem Unquote_any (s : ByteArray) (w : World) (hs : s.size ≤ 20000) :
    Calls Tryz.prog 50 #[.string s] w fun e w' => e = .returned (unquoteT s) ∧ Below w.heap.size w w' := by
  obtain ⟨i0, hi, hz0, hz1, hz2⟩ := info_parts info5
  cases hb : unquoteB s
  · have HU : Hid (unquoteT s = .tuple #[.string ⟨#[]⟩, .int .i64 6]) := by show _ = _; unfold unquoteT; rw [hb]; rfl
    unfold unquoteB at hb
    by_cases h2 : 2 ≤ s.size
    · rw [bl_getD s 0 (by omega), bl_getD s (s.size - 1) (by omega), decide_eq_true h2, Bool.true_and] at hb
      by_cases h3 : s[0].toNat = 34
      · have h4 : ¬ s[s.size - 1].toNat = 34 := by intro h; rw [h3, h] at hb; exact absurd hb (by decide)
        have e3 : (s[0].toNat : Int) = 34 := by omega
        have e4 : ((s[s.size - 1].toNat : Int) != 34) = true := by simp; omega
        clear hb h3 h4
        go_enter Tryz.func50, Tryz.ntmps50
        go_wp2
        go_ret2
        exact ⟨by rw [HU.out]; rfl, Below.refl _ _⟩
      · have e3 : ((s[0].toNat : Int) != 34) = true := by simp; omega
        clear hb h3
        go_enter Tryz.func50, Tryz.ntmps50
        go_wp2
        go_ret2
        exact ⟨by rw [HU.out]; rfl, Below.refl _ _⟩
    · clear hb
      go_enter Tryz.func50, Tryz.ntmps50
      go_wp2
      go_ret2
      exact ⟨by rw [HU.out]; rfl, Below.refl _ _⟩
  · have hb' := hb
    unfold unquoteB at hb
    simp only [Bool.and_eq_true, decide_eq_true_eq, beq_iff_eq] at hb
    obtain ⟨h2, h3, h4⟩ := hb
    rw [bl_getD s 0 (by omega)] at h3
    rw [bl_getD s (s.size - 1) (by omega)] at h4
    have e3 : (s[0].toNat : Int) = 34 := by omega
    have e4 : (s[s.size - 1].toNat : Int) = 34 := by omega
    clear h3 h4
    have HU : Hid (unquoteT s = match unqL (bl (s.extract 1 (s.size - 1))) with | some l => .tuple #[.string (str l), .int .i64 0] | none => .tuple #[.string ⟨#[]⟩, .int .i64 6]) := by
      show _ = _; unfold unquoteT; rw [hb']; rfl
    clear hb'
    go_enter Tryz.func50, Tryz.ntmps50
    go_wp2_with (first | (at_make; refine wpList_make_own _ rfl _ _ 106 rfl w.heap.size 5 i0 (.int .u8 0) 1 Tryz.underlying106 hi hz0 hz1 .i64 .i64 _ (s.size - 1 - 1) rfl rfl ?_ ?_ ?_ ?_ ?_))
    · rfl
    · rw [hz2]; omega
    · unfold maxLen; omega
    · exact Nat.le_refl _
    intro w1 hown1 hgrow1
    have HB1 : Hid (Below w.heap.size w w1) := (Below.refl _ _).grown hgrow1 (Nat.le_refl _) (fun k hk => by cases hk)
    have HO1 : Hid (w1.ownsRow w.heap.size 5 1 (.slice (some ⟨w.heap.size, 0, none⟩) 0 (s.size - 1 - 1)) 0 (bc [])) := hown1
    clear hown1 hgrow1
    have hIs : (s.extract 1 (s.size - 1)).size ≤ 20000 := by rw [ByteArray.size_extract]; omega
    generalize hI : s.extract 1 (s.size - 1) = I at HU hIs ⊢
    have HI : Hid (s.extract 1 (s.size - 1) = I) := hI
    clear hI
    generalize hB : w.heap.size = B at HB1 HO1 ⊢
    go_wp2_with fail
    go_loopw [4, 5, 6, 7] (fun r q _ _ wr => ∃ (t : ByteArray) (acc : List Nat) (n g cap : Nat), r = .string t ∧ q = .slice (some ⟨g, 0, none⟩) n cap ∧ n + t.size ≤ 20000 ∧ Hid (wr.ownsRow B 5 1 (.slice (some ⟨g, 0, none⟩) n cap) n (bc acc)) ∧ Hid (Below B w wr) ∧ Hid (unqL (bl I) = (unqL (bl t)).map (acc ++ ·))) (fun r _ _ _ _ => strLen r)
    case atStart => exact ⟨I, [], 0, B, _, rfl, rfl, by omega, HO1.out, HB1.out, by show _ = _; cases unqL (bl I) <;> rfl⟩
    case round =>
      clear HO1 HB1
      obtain ⟨t, acc, n, g, cap, rfl, rfl, hn, HO, HB, HQ⟩ := hrel
      have hbr : B ≤ wr.heap.size := by have := HB.out.size; omega
      by_cases h0 : 0 < t.size
      · have hne : t.toList.isEmpty = false := by
          rw [ByteArray.toList_eq, Bool.eq_false_iff]; intro e
          rw [List.isEmpty_iff] at e
          have hz : t.size = 0 := by show t.data.toList.length = 0; rw [e]; rfl
          omega
        have htm : t.size ≤ maxLen := by unfold maxLen; omega
        obtain ⟨v, hv⟩ : ∃ v, v = (fbL (bl t)).1 := ⟨_, rfl⟩
        obtain ⟨k, hk⟩ : ∃ k, k = (fbL (bl t)).2 := ⟨_, rfl⟩
        have f1 := firstByte_any t
        rw [← hv, ← hk] at f1
        have F1 : Hid (∀ w, 0 < t.size → t.size ≤ maxLen → Calls Tryz.prog 78 #[.string t] w fun e w' => e = .returned (.tuple #[.int .u8 (v : Int), .int .i64 (k : Int)]) ∧ Below w.heap.size w w') := f1
        have hkt : k ≤ t.size := by rw [hk, ← bl_len]; exact fb_le _ (bl_ne h0)
        have hvl : v < 256 := by rw [hv]; exact fb_lt _ (bl_lt t)
        have HVK : Hid (v = (fbL (bl t)).1 ∧ k = (fbL (bl t)).2) := ⟨hv, hk⟩
        clear f1 hv hk
        by_cases hk0 : k = 0
        · subst hk0
          have HF : Hid (unquoteT s = .tuple #[.string ⟨#[]⟩, .int .i64 6]) := by
            show _ = _
            rw [HU.out, HQ.out, unq_none (bl_ne h0) HVK.out.2.symm]; rfl
          go_wp2_with (first | (go_at_call 78; refine (F1.out _ h0 htm).mono ?_; rintro e w2 ⟨rfl, hb2⟩))
          go_ret2
          exact ⟨by rw [HF.out]; rfl, by rw [hB]; exact HB.out.trans (hb2.mono hbr)⟩
        · have HQ' : Hid (unqL (bl I) = (unqL (bl (t.extract k t.size))).map ((acc ++ [v]) ++ ·)) := by
            show _ = _
            rw [HQ.out, bl_drop, unq_some (bl_ne h0) (by rw [← HVK.out.2]; exact hk0), ← HVK.out.1, ← HVK.out.2, Option.map_map]
            congr 1
            funext x; simp
          have k1 : (0 : Int) ≤ (k : Int) := by omega
          have k2 : (k : Int) ≤ (t.size : Int) := by omega
          have hk0' : ((k : Int) == 0) = false := by simp; omega
          go_wp2_with fail
          refine (F1.out _ h0 htm).mono ?_
          rintro e w2 ⟨rfl, hb2⟩
          have HO2 : Hid (w2.ownsRow B 5 1 (.slice (some ⟨g, 0, none⟩) n cap) n (bc acc)) := HO.out.kept (grown_of_below hb2) (Or.inr (by simp [Value.ownBlock]))
          have HB2 : Hid (Below B w w2) := HB.out.trans (hb2.mono hbr)
          have hb2' : B ≤ w2.heap.size := Nat.le_trans hbr hb2.size
          clear hb2 HO HB
          go_wp2_with (first | (at_builtin; refine wpList_append_lies _ rfl _ _ 106 rfl B 5 i0 (.int .u8 0) 1 1 Tryz.underlying106 hi hz0 hz1 hz2 rfl (by decide) _ n (bc acc) rfl (HO2.out.alloc _) ⟨w2.heap.size, 0, none⟩ 1 1 [.int .u8 v] rfl rfl ?_ ?_ (by decide) ?_ ?_ ?_ (w2.heap.size + 1) ?_ ?_))
          · exact World.news_of_block (cs := #[.int .u8 v]) (t := 5) (fr := (0, 0)) (heap_alloc_new w2 _)
          · exact bc_one [v]
          · unfold maxLen; omega
          · omega
          · simp; omega
          · simp
          intro g4 cap4 w4 hown4 hgrow4 _ _
          have HB4 : Hid (Below B w w4) := HB2.out.trans (((Below.refl _ _).alloc hb2' _).trans (below_own hgrow4 (HO2.out.alloc _) (by simp; omega)))
          have HO4 : Hid (w4.ownsRow B 5 1 (.slice (some ⟨g4, 0, none⟩) (n + 1) cap4) (n + 1) (bc (acc ++ [v]))) := by
            show World.ownsRow _ _ _ _ _ _ _; rw [bc_append]; exact hown4
          clear hown4 hgrow4 HO2 HB2
          go_wp2
          go_roundw
          case rel => exact ⟨t.extract k t.size, acc ++ [v], n + 1, g4, cap4, rfl, rfl, by rw [ByteArray.size_extract]; omega, HO4.out, HB4.out, HQ'.out⟩
          case measure => simp only [strLen, ByteArray.size_extract]; omega
      · have hz : t.size = 0 := by omega
        have het : t = ⟨#[]⟩ := by
          apply Go.WideShapes.bytes_inj
          have : t.data.toList.length = 0 := hz
          exact List.eq_nil_of_length_eq_zero this
        subst het
        have HF : Hid (unquoteT s = .tuple #[.string (str acc), .int .i64 0]) := by
          show _ = _
          rw [HU.out, HQ.out, show bl ⟨#[]⟩ = [] from rfl, unq_nil]; simp
        have hcv := conv_own HO.out
        go_wp2
        go_ret2
        exact ⟨by rw [HF.out]; rfl, by rw [hB]; exact HB.out⟩
end Go.Proofs.YtgkgpjbbmnfnmaaGreatDoor.Tx

/- A cutter in memory; a token cut out. -/
namespace Go.Proofs.YtgkgpjbbmnfnmaaGreatDoor
open Go.RowKit
set_option linter.unusedSimpArgs false
set_option linter.unusedVariables false

/-- A token. -/
structure Tk where
  k : Int
  t : ByteArray
  vt : Int
  vn : Int
  sy : ByteArray
  a : Int
  e : Int
/-- .. as a value. -/
def tv (x : Tk) : Value := .agg #[.int .i64 x.k, .string x.t, .int .i64 x.vt, .int .i64 x.vn, .string x.sy, .int .i64 x.a, .int .i64 x.e]
/-- No token. -/
def t0 : Tk := ⟨0, ⟨#[]⟩, 0, 0, ⟨#[]⟩, 0, 0⟩
def mth (f c : Nat) : Value := .func (.func f) #[.pointer (some ⟨c, 0, none⟩)] #[]
/-- A cutter. -/
structure Cu (w : World) (c : Nat) (s : ByteArray) : Prop where
  ex : ∃ M K, w.heap[c]? = some (.cells #[.string s, .map (some M), .slice (some ⟨K, 0, none⟩) 4 4] 75 (0, 0)) ∧ w.heap[K]? = some (.cells #[mth 23 c, mth 24 c, mth 25 c, mth 26 c] 50 (0, 0)) ∧ WIs w M 18 wordsL
theorem Cu.no {w w' : World} {c : Nat} {s : ByteArray} (h : Cu w c s) (hk : Kept No w w') : Cu w' c s := by
  obtain ⟨M, K, h1, h2, h3⟩ := h.ex
  exact ⟨M, K, hk.heap h1 id, hk.heap h2 id, h3.no hk⟩
theorem Cu.src {w : World} {c : Nat} {s : ByteArray} (h : Cu w c s) : w.cell? ⟨c, 0, none⟩ = some (.string s) := by
  obtain ⟨M, K, h1, h2, h3⟩ := h.ex
  rw [cell_of h1]; rfl

set_option maxHeartbeats 1000000 in
theorem cut_any {w : World} {c : Nat} {s : ByteArray} (h : Cu w c s) (k : Int) (a e : Nat) (hae : a ≤ e) (he : e ≤ s.size) (hs : s.size ≤ 100000) :
    Calls Tryz.prog 45 #[.pointer (some ⟨c, 0, none⟩), .int .i64 k, .int .i64 (a : Int), .int .i64 (e : Int)] w fun r w' => r = .returned (tv ⟨k, s.extract a e, 0, 0, ⟨#[]⟩, a, e⟩) ∧ Kept No w w' := by
  have c1 : ∀ o, (w.alloc o).cell? ⟨c, 0, none⟩ = some (.string s) := fun o => (h.no ((Kept.refl No w).alloc o)).src
  have q1 : (a : Int) ≤ (e : Int) := by omega
  have q2 : (e : Int) ≤ (s.size : Int) := by omega
  clear h
  go_enter Tryz.func45, Tryz.ntmps45
  go_wp2
  refine bodyPost_ret (v := tv ⟨k, s.extract a e, 0, 0, ⟨#[]⟩, a, e⟩) (by simp [results, Tryz.results45, go_sem, tv]) rfl ⟨rfl, ?_⟩
  exact (Kept.refl No w).alloc _
end Go.Proofs.YtgkgpjbbmnfnmaaGreatDoor

/- A name, or a word. -/
namespace Go.Proofs.YtgkgpjbbmnfnmaaGreatDoor
open Go.RowKit
set_option linter.unusedSimpArgs false
set_option linter.unusedVariables false

/-- A token's box. -/
def tb (x : Tk) : Obj := .cells #[.int .i64 x.k, .string x.t, .int .i64 x.vt, .int .i64 x.vn, .string x.sy, .int .i64 x.a, .int .i64 x.e] 34 (0, 0)
theorem tb_cells {w : World} {b : Nat} {x : Tk} (h : w.heap[b]? = some (tb x)) : w.cell? ⟨b, 0, none⟩ = some (.int .i64 x.k) ∧ w.cell? ⟨b, 1, none⟩ = some (.string x.t) ∧ w.cell? ⟨b, 2, none⟩ = some (.int .i64 x.vt) ∧ w.cell? ⟨b, 3, none⟩ = some (.int .i64 x.vn) ∧ w.cell? ⟨b, 4, none⟩ = some (.string x.sy) ∧ w.cell? ⟨b, 5, none⟩ = some (.int .i64 x.a) ∧ w.cell? ⟨b, 6, none⟩ = some (.int .i64 x.e) :=
  ⟨by rw [cell_of h]; rfl, by rw [cell_of h]; rfl, by rw [cell_of h]; rfl, by rw [cell_of h]; rfl, by rw [cell_of h]; rfl, by rw [cell_of h]; rfl, by rw [cell_of h]; rfl⟩
theorem frozen_of {w : World} {b : Nat} {c : Array Value} {e : TypeId} (h : w.heap[b]? = some (.cells c e (0, 0))) (o : Nat) : w.frozen? ⟨b, o, none⟩ = false := by
  simp [World.frozen?, h]
theorem tb_frozen {w : World} {b : Nat} {x : Tk} (h : w.heap[b]? = some (tb x)) (o : Nat) : w.frozen? ⟨b, o, none⟩ = false := frozen_of h o

/-- What name tells. -/
def nmK (s : ByteArray) (k : Nat) : Int := if isWd (s.extract k (k + nameL ((bl s).drop k))) then 2 else 1
def nmT (s : ByteArray) (k : Nat) : Tk := if isLt ((bl s).getD k 0) then ⟨nmK s k, s.extract k (k + nameL ((bl s).drop k)), 0, 0, ⟨#[]⟩, k, (k + nameL ((bl s).drop k) : Nat)⟩ else t0
theorem bl_getD (s : ByteArray) {k : Nat} (h : k < s.size) : (bl s).getD k 0 = s[k] := by
  rw [List.getD_eq_getElem?_getD, List.getElem?_eq_getElem (by rw [bl_len]; exact h), bl_at s h]; rfl

set_option maxRecDepth 20000 in
set_option maxHeartbeats 2000000 in
theorem name_not {w : World} {c : Nat} {s : ByteArray} (h : Cu w c s) (k : Nat) (hk : k < s.size) (hs : s.size ≤ 8192) (hl : isLt s[k] = false) :
    Calls Tryz.prog 23 #[.pointer (some ⟨c, 0, none⟩), .int .i64 (k : Int)] w fun r w' => r = .returned (.tuple #[tv t0, .int .i64 0]) ∧ Kept No w w' := by
  have c1 : ∀ o, (w.alloc o).cell? ⟨c, 0, none⟩ = some (.string s) := fun o => (h.no ((Kept.refl No w).alloc o)).src
  have HL : Hid (∀ w, Calls Tryz.prog 43 #[.int .u8 (s[k].toNat : Int)] w fun e w' => e = .returned (.bool false) ∧ w = w') := fun w => by have := isLetter_any s[k] w; rw [hl] at this; exact this
  clear h hl
  go_enter Tryz.func23, Tryz.ntmps23
  go_wp2_with (go_at_call 43; refine Calls.mono (HL.out _) ?_; rintro e w' ⟨rfl, rfl⟩)
  refine bodyPost_ret (v := .tuple #[tv t0, .int .i64 0]) (by simp [results, Tryz.results23, go_sem, tv, t0]) rfl ⟨rfl, ?_⟩
  exact (Kept.refl No w).alloc _

set_option maxRecDepth 20000 in
set_option maxHeartbeats 4000000 in
theorem name_is {w : World} {c : Nat} {s : ByteArray} (h : Cu w c s) (k : Nat) (hk : k < s.size) (hs : s.size ≤ 8192) (hl : isLt s[k] = true) (b : Bool) (hb : isWd (s.extract k (k + nameL ((bl s).drop k))) = b) :
    Calls Tryz.prog 23 #[.pointer (some ⟨c, 0, none⟩), .int .i64 (k : Int)] w fun r w' => r = .returned (.tuple #[tv ⟨if b then 2 else 1, s.extract k (k + nameL ((bl s).drop k)), 0, 0, ⟨#[]⟩, k, (k + nameL ((bl s).drop k) : Nat)⟩, .int .i64 0]) ∧ Kept No w w' := by
  obtain ⟨W, HW⟩ : ∃ W, Hid (W = w.alloc (.cells #[.int .i64 0, .string ⟨#[]⟩, .int .i64 0, .int .i64 0, .string ⟨#[]⟩, .int .i64 0, .int .i64 0] 34)) := ⟨_, show _ = _ from rfl⟩
  have HC : Hid (Cu W c s) := by show Cu _ _ _; rw [HW.out]; exact h.no ((Kept.refl No w).alloc _)
  have HK : Hid (Kept No w W) := by show Kept _ _ _; rw [HW.out]; exact (Kept.refl No w).alloc _
  have HR0 : Hid (W.heap[w.heap.size]? = some (tb t0)) := by show _ = _; rw [HW.out]; exact World.alloc_heap_new w _
  have HWF : Hid (∀ w, Calls Tryz.prog 43 #[.int .u8 (s[k].toNat : Int)] w fun e w' => e = .returned (.bool true) ∧ w = w') := fun w => by have := isLetter_any s[k] w; rw [hl] at this; exact this
  have c1 : ∀ o, (w.alloc o).cell? ⟨c, 0, none⟩ = some (.string s) := fun o => (h.no ((Kept.refl No w).alloc o)).src
  have c0 := HC.out.src
  have hnl := nameL_le ((bl s).drop k)
  rw [List.length_drop, bl_len] at hnl
  obtain ⟨E, HE⟩ : ∃ E, Hid (k + nameL ((bl s).drop k) = E) := ⟨_, show _ = _ from rfl⟩
  rw [HE.out] at hb ⊢
  have hkE : k ≤ E := by rw [← HE.out]; omega
  have hEs : E ≤ s.size := by rw [← HE.out]; omega
  have HB : Hid (isWd (s.extract k E) = b) := hb
  clear h hl hb hnl
  obtain ⟨R, HRR⟩ : ∃ R, Hid (w.heap.size = R) := ⟨_, show _ = _ from rfl⟩
  rw [HRR.out] at HR0
  go_enter Tryz.func23, Tryz.ntmps23
  go_wp2_with fail
  refine Calls.mono (HWF.out _) ?_
  rintro e w' ⟨rfl, rfl⟩
  rw [← HW.out]
  clear c1
  go_wp2_with fail
  go_loop [6] (fun i => ∃ j : Nat, k ≤ j ∧ j ≤ s.size ∧ i = .int .i64 j ∧ Hid (j + nameL ((bl s).drop j) = E)) (fun i => s.size - (intOf i).toNat)
  case atStart => exact ⟨k, Nat.le_refl _, by omega, rfl, HE.out⟩
  case round =>
    clear HE
    obtain ⟨j, hkj, hj, rfl, HJ⟩ := hrel
    have hex : (∃ h : j < s.size, isNm s[j] = true) ∨ ((∃ h : j < s.size, isNm s[j] = false) ∨ ¬ j < s.size) := by
      by_cases h : j < s.size
      · cases e : isNm s[j] with
        | true => exact .inl ⟨h, e⟩
        | false => exact .inr (.inl ⟨h, e⟩)
      · exact .inr (.inr h)
    rcases hex with ⟨hlt, hnm⟩ | hex
    · have dlt : decide ((j : Int) < (s.size : Int)) = true := decide_eq_true (by omega)
      have hd := bl_drop s hlt
      have HN : Hid (∀ w, Calls Tryz.prog 44 #[.int .u8 (s[j].toNat : Int)] w fun e w' => e = .returned (.bool (isNm s[j])) ∧ w = w') := fun w => isInName_any _ w
      have HX := HJ.out
      rw [hd] at HX
      have HJ2 : Hid (j + 1 + nameL ((bl s).drop (j + 1)) = E) := by
        show _ = _
        rw [← HX, nameL, if_pos hnm]; omega
      rw [hnm] at HN
      clear HX hnm hd HJ
      go_wp2_with (go_at_call 44; refine Calls.mono (HN.out _) ?_; rintro e w' ⟨rfl, rfl⟩)
      go_round
      case rel => exact ⟨j + 1, by omega, by omega, by go_num, HJ2⟩
      case measure => simp [intOf] <;> omega
    · have hjE : j = E := by
        rcases hex with ⟨hlt, hnm⟩ | hlt
        · rw [← HJ.out, bl_drop s hlt, nameL, if_neg (by rw [hnm]; decide)]; rfl
        · rw [← HJ.out, List.drop_eq_nil_of_le (by rw [bl_len]; omega)]; rfl
      subst hjE
      clear HJ
      rcases hex with ⟨hlt, hnm⟩ | hlt
      case' inl =>
        have dlt : decide ((j : Int) < (s.size : Int)) = true := decide_eq_true (by omega)
        have HN : Hid (∀ w, Calls Tryz.prog 44 #[.int .u8 (s[j].toNat : Int)] w fun e w' => e = .returned (.bool (isNm s[j])) ∧ w = w') := fun w => isInName_any _ w
        rw [hnm] at HN
        clear hnm
        go_wp2_with (go_at_call 44; refine Calls.mono (HN.out _) ?_; rintro e w' ⟨rfl, rfl⟩)
      case' inr =>
        have dlt : decide ((j : Int) < (s.size : Int)) = false := decide_eq_false (by omega)
        go_wp2_with fail
      all_goals
        refine (cut_any HC.out 1 k j hkj (by omega) (by omega)).mono ?_
        rintro e W1 ⟨rfl, hk1⟩
        have H1 : Hid (Cu W1 c s ∧ Kept No w W1 ∧ W1.heap[R]? = some (tb t0)) := ⟨HC.out.no hk1, HK.out.trans hk1, hk1.heap HR0.out id⟩
        clear hk1 c0
        obtain ⟨W2, HW2⟩ : ∃ W2, Hid (W1.alloc (tb ⟨1, s.extract k j , 0, 0, ⟨#[]⟩, k, j ⟩) = W2) := ⟨_, show _ = _ from rfl⟩
        have HT : Hid (W2.heap[W1.heap.size]? = some (tb ⟨1, s.extract k j , 0, 0, ⟨#[]⟩, k, j ⟩)) := by show _ = _; rw [← HW2.out]; exact World.alloc_heap_new W1 _
        have HK2 : Hid (Kept No W1 W2) := by show Kept _ _ _; rw [← HW2.out]; exact (Kept.refl No W1).alloc _
        unfold tb at HW2
        dsimp only at HW2
        unfold tv
        dsimp only
        go_wp2_with fail
        rw [HW2.out]
        clear HW2
        obtain ⟨T, HTT⟩ : ∃ T, Hid (W1.heap.size = T) := ⟨_, show _ = _ from rfl⟩
        rw [HTT.out] at HT ⊢
        rw [HRR.out]
        obtain ⟨H1a, H1b, H1c⟩ := H1.out
        obtain ⟨M, K, d1, d2, d3⟩ := H1a.ex
        have HF : Hid (W2.heap[c]? = _ ∧ WIs W2 M 18 wordsL ∧ Kept No w W2 ∧ W2.heap[R]? = some (tb t0) ∧ R < T ∧ T < W2.heap.size ∧ w.heap.size ≤ R) := ⟨HK2.out.heap d1 id, d3.no HK2.out, H1b.trans HK2.out, HK2.out.heap H1c id, by rw [← HTT.out]; exact hp_lt H1c, hp_lt HT.out, by rw [HRR.out]; exact Nat.le_refl _⟩
        clear H1a H1b H1c d1 d2 d3 H1 HK2 HTT
        have F1 : Hid (∀ w', Kept No W2 w' → w'.cell? ⟨c, 1, none⟩ = some (.map (some M))) := fun w' h => by rw [cell_of (h.heap HF.out.1 id)]; rfl
        have F2 : Hid (∀ w', Kept No W2 w' → w'.cell? ⟨T, 1, none⟩ = some (.string (s.extract k j ))) := fun w' h => (tb_cells (h.heap HT.out id)).2.1
        have F3 : Hid (∀ w', Kept No W2 w' → (Instr.lookup 71 (.map (some M)) (.string (s.extract k j )) true).run Tryz.prog w' = .ok (.tuple #[.agg #[], .bool b]) w') := fun w' h => by
          have := (HF.out.2.1.no h).look (s.extract k j ) (by simp [ByteArray.size_extract, maxLen]; omega)
          rw [this, ← HB.out]; rfl
        have FF : Hid (∀ w', Kept No W2 w' → _ ∧ _ ∧ _) := fun w' h => ⟨F1.out w' h, F2.out w' h, F3.out w' h⟩
        refine wp_region_held_drew (S := fun w' => Kept No W2 w') (by kernel_rfl) ((Kept.refl No W2).drew) (fun _ => ?_)
        have hSS : Kept No W2 W2.drew := (Kept.refl No W2).drew
        revert hSS
        generalize W2.drew = W3
        intro hSS
        refine tk1 0 _ rfl hSS ?_ (hy := by intro w' hSw; obtain ⟨f1, f2, f3⟩ := FF.out w' hSw; go_simp; try with_reducible rfl)
        try simp only [sm]
        refine tk1 1 _ rfl hSS ?_ (hy := by intro w' hSw; obtain ⟨f1, f2, f3⟩ := FF.out w' hSw; go_simp; try with_reducible rfl)
        try simp only [sm]
        refine tk1 2 _ rfl hSS ?_ (hy := by intro w' hSw; obtain ⟨f1, f2, f3⟩ := FF.out w' hSw; go_simp; try with_reducible rfl)
        try simp only [sm]
        refine tk1 3 _ rfl hSS ?_ (hy := by intro w' hSw; obtain ⟨f1, f2, f3⟩ := FF.out w' hSw; go_simp; try with_reducible rfl)
        try simp only [sm]
        refine tk1 4 _ rfl hSS ?_ (hy := by intro w' hSw; obtain ⟨f1, f2, f3⟩ := FF.out w' hSw; go_simp; try with_reducible rfl)
        try simp only [sm]
        refine tk1 5 _ rfl hSS ?_ (hy := by intro w' hSw; obtain ⟨f1, f2, f3⟩ := FF.out w' hSw; go_simp; try with_reducible rfl)
        try simp only [sm]
        refine tk1 6 _ rfl hSS ?_ (hy := by intro w' hSw; obtain ⟨f1, f2, f3⟩ := FF.out w' hSw; go_simp; try with_reducible rfl)
        try simp only [sm]
        refine tk1 7 _ rfl hSS ?_ (hy := by intro w' hSw; obtain ⟨f1, f2, f3⟩ := FF.out w' hSw; go_simp; try with_reducible rfl)
        try simp only [sm]
        refine tk1 8 _ rfl hSS ?_ (hy := by intro w' hSw; obtain ⟨f1, f2, f3⟩ := FF.out w' hSw; go_simp; try with_reducible rfl)
        try simp only [sm]
        refine tk1 9 _ rfl hSS ?_ (hy := by intro w' hSw; obtain ⟨f1, f2, f3⟩ := FF.out w' hSw; go_simp; try with_reducible rfl)
        try simp only [sm]
        refine wpAnyH_ready (rs := [10]) (by kernel_rfl) (by simp) ?_
        refine AllReadyH.cons rfl (fun K' hK => ?_) AllReadyH.nil
        go_simp
        refine hK.out _ _ (hSS.alloc _) (fun _ => ?_)
        clear hK K'
        obtain ⟨W4, HW4⟩ : ∃ W4, Hid (W3.alloc (.cells #[] 95) = W4) := ⟨_, show _ = _ from rfl⟩
        have HW4n : Hid (W4.heap[W3.heap.size]? = some (.cells #[] 95 (0, 0))) := by show _ = _; rw [← HW4.out]; exact World.alloc_heap_new W3 _
        have HS4 : Hid (Kept No W2 W4) := by show Kept _ _ _; rw [← HW4.out]; exact hSS.alloc _
        rw [HW4.out]
        clear HW4
        try simp only [sm]
        refine wpAnyH_ready (rs := [11]) (by kernel_rfl) (by simp) ?_
        refine AllReadyH.cons rfl (fun K' hK => ?_) AllReadyH.nil
        have hno := fun o => frozen_of HW4n.out o
        go_simp
        refine hK.out _ _ HS4.out (fun _ => ?_)
        clear hK K' hno hSS
        have hSS := HS4.out
        try simp only [sm]
        refine tk1 12 _ rfl hSS ?_ (hy := by intro w' hSw; obtain ⟨f1, f2, f3⟩ := FF.out w' hSw; go_simp; try with_reducible rfl)
        try simp only [sm]
        refine wpAnyH_done (by kernel_rfl) ?_ _
        have t0' := tb_cells (hSS.heap HT.out id)
        have t1' := fun o => tb_frozen (hSS.heap HT.out id) o
        have t2' := fun o => tb_frozen (hSS.heap HF.out.2.2.2.1 id) o
        obtain ⟨t3, t4, t5, t6, t7, t8, t9⟩ := t0'
        obtain ⟨r3, r4, r5, r6, r7, r8, r9⟩ := tb_cells (hSS.heap HF.out.2.2.2.1 id)
        dsimp only [t0] at t3 t4 t5 t6 t7 t8 t9 r3 r4 r5 r6 r7 r8 r9
        have nRT : R ≠ T := by have := HF.out.2.2.2.2.1; omega
        have nTR : T ≠ R := by have := HF.out.2.2.2.2.1; omega
        have HKf : Hid (Kept No w W4 ∧ w.heap.size ≤ R ∧ w.heap.size ≤ T) := ⟨HF.out.2.2.1.trans hSS, HF.out.2.2.2.2.2.2, by have := HF.out.2.2.2.2; omega⟩
        clear HS4 HW4n hSS
        cases b with
        | false =>
          clear F1 F2 F3 HB
          go_wp2_with fail
          refine bodyPost_ret (v := .tuple #[tv ⟨1, s.extract k j , 0, 0, ⟨#[]⟩, k, j ⟩, .int .i64 0]) (by simp [results, Tryz.results23, go_sem, tv, t3, t4, t5, t6, t7, t8, t9, r3, r4, r5, r6, r7, r8, r9, nRT, nTR]) rfl ⟨rfl, ?_⟩
          exact HKf.out.1.set _ _ _ (Or.inr HKf.out.2.1)|>.set _ _ _ (Or.inr HKf.out.2.1)|>.set _ _ _ (Or.inr HKf.out.2.1)|>.set _ _ _ (Or.inr HKf.out.2.1)|>.set _ _ _ (Or.inr HKf.out.2.1)|>.set _ _ _ (Or.inr HKf.out.2.1)|>.set _ _ _ (Or.inr HKf.out.2.1)
        | true =>
          clear F1 F2 F3 HB
          go_wp2_with fail
          refine bodyPost_ret (v := .tuple #[tv ⟨2, s.extract k j , 0, 0, ⟨#[]⟩, k, j ⟩, .int .i64 0]) (by simp [results, Tryz.results23, go_sem, tv, t3, t4, t5, t6, t7, t8, t9, r3, r4, r5, r6, r7, r8, r9, nRT, nTR]) rfl ⟨rfl, ?_⟩
          exact HKf.out.1.set _ _ _ (Or.inr HKf.out.2.2)|>.set _ _ _ (Or.inr HKf.out.2.1)|>.set _ _ _ (Or.inr HKf.out.2.1)|>.set _ _ _ (Or.inr HKf.out.2.1)|>.set _ _ _ (Or.inr HKf.out.2.1)|>.set _ _ _ (Or.inr HKf.out.2.1)|>.set _ _ _ (Or.inr HKf.out.2.1)|>.set _ _ _ (Or.inr HKf.out.2.1)

theorem name_any {w : World} {c : Nat} {s : ByteArray} (h : Cu w c s) (k : Nat) (hk : k < s.size) (hs : s.size ≤ 8192) :
    Calls Tryz.prog 23 #[.pointer (some ⟨c, 0, none⟩), .int .i64 (k : Int)] w fun r w' => r = .returned (.tuple #[tv (nmT s k), .int .i64 0]) ∧ Kept No w w' := by
  unfold nmT
  rw [bl_getD s hk]
  cases hl : isLt s[k] with
  | false => exact name_not h k hk hs hl
  | true => exact name_is h k hk hs hl _ rfl
end Go.Proofs.YtgkgpjbbmnfnmaaGreatDoor

/- A number. -/
namespace Go.Proofs.YtgkgpjbbmnfnmaaGreatDoor
open Go.RowKit
set_option linter.unusedSimpArgs false
set_option linter.unusedVariables false

/-- What Read makes of a text. -/
theorem rd_ex (s : ByteArray) (hz : s.size ≤ 140737488351232) : ∃ p : Int × Int × Int, ReadIs s p.1 p.2.1 p.2.2 ∧ ((∃ t m, ReadIs s t m 0) → p.2.2 = 0) := by
  by_cases h : ∃ t m, ReadIs s t m 0
  · obtain ⟨t, m, h⟩ := h
    exact ⟨(t, m, 0), h, fun _ => rfl⟩
  · obtain ⟨t, m, x, hr⟩ := read_all s hz
    exact ⟨(t, m, x), hr, fun h' => absurd h' h⟩
noncomputable def rdP (s : ByteArray) (hz : s.size ≤ 140737488351232) : Int × Int × Int := (rd_ex s hz).choose
noncomputable def rd (s : ByteArray) (hz : s.size ≤ 140737488351232) : { p : Int × Int × Int // ReadIs s p.1 p.2.1 p.2.2 } := ⟨rdP s hz, (rd_ex s hz).choose_spec.1⟩
theorem rd_zero (s : ByteArray) (hz : s.size ≤ 140737488351232) (h : ∃ t m, ReadIs s t m 0) : (rd s hz).1.2.2 = 0 := (rd_ex s hz).choose_spec.2 h
theorem ErrIs.no {w w' : World} (h : ErrIs w) (hk : Kept No w w') : ErrIs w' := err_later h hk.below

theorem tbo_cells {W w : World} {b : Nat} {x : Tk} (hk : Kept No W w) (h : W.heap[b]? = some (tb x)) : (∀ o, (w.alloc o).cell? ⟨b, 0, none⟩ = some (.int .i64 x.k)) ∧ (∀ o, (w.alloc o).cell? ⟨b, 1, none⟩ = some (.string x.t)) ∧ (∀ o, (w.alloc o).cell? ⟨b, 2, none⟩ = some (.int .i64 x.vt)) ∧ (∀ o, (w.alloc o).cell? ⟨b, 3, none⟩ = some (.int .i64 x.vn)) ∧ (∀ o, (w.alloc o).cell? ⟨b, 4, none⟩ = some (.string x.sy)) ∧ (∀ o, (w.alloc o).cell? ⟨b, 5, none⟩ = some (.int .i64 x.a)) ∧ (∀ o, (w.alloc o).cell? ⟨b, 6, none⟩ = some (.int .i64 x.e)) :=
  ⟨fun o => (tb_cells ((hk.alloc o).heap h id)).1, fun o => (tb_cells ((hk.alloc o).heap h id)).2.1, fun o => (tb_cells ((hk.alloc o).heap h id)).2.2.1, fun o => (tb_cells ((hk.alloc o).heap h id)).2.2.2.1, fun o => (tb_cells ((hk.alloc o).heap h id)).2.2.2.2.1, fun o => (tb_cells ((hk.alloc o).heap h id)).2.2.2.2.2.1, fun o => (tb_cells ((hk.alloc o).heap h id)).2.2.2.2.2.2⟩

set_option maxRecDepth 20000 in
set_option maxHeartbeats 2000000 in
theorem number_not {w : World} {c : Nat} {s : ByteArray} (h : Cu w c s) (k : Nat) (hk : k < s.size) (hs : s.size ≤ 8192) (hl : isDg s[k] = false) :
    Calls Tryz.prog 24 #[.pointer (some ⟨c, 0, none⟩), .int .i64 (k : Int)] w fun r w' => r = .returned (.tuple #[tv t0, .int .i64 0]) ∧ Kept No w w' := by
  have c1 : ∀ o, (w.alloc o).cell? ⟨c, 0, none⟩ = some (.string s) := fun o => (h.no ((Kept.refl No w).alloc o)).src
  have HL : Hid (∀ w, Calls Tryz.prog 46 #[.int .u8 (s[k].toNat : Int)] w fun e w' => e = .returned (.bool false) ∧ w = w') := fun w => by have := isDigit_any s[k] w; rw [hl] at this; exact this
  clear h hl
  go_enter Tryz.func24, Tryz.ntmps24
  go_wp2_with (go_at_call 46; refine Calls.mono (HL.out _) ?_; rintro e w' ⟨rfl, rfl⟩)
  refine bodyPost_ret (v := .tuple #[tv t0, .int .i64 0]) (by simp [results, Tryz.results24, go_sem, tv, t0]) rfl ⟨rfl, ?_⟩
  exact (Kept.refl No w).alloc _

set_option maxRecDepth 20000 in
set_option maxHeartbeats 4000000 in
theorem number_is {w : World} {c : Nat} {s : ByteArray} (h : Cu w c s) (he : ErrIs w) (k : Nat) (hk : k < s.size) (hs : s.size ≤ 8192) (hl : isDg s[k] = true) (t m x : Int) (hb : ReadIs (s.extract k (k + numL ((bl s).drop k))) t m x) (X : Tk) (hX : X = if x = 0 then ⟨3, s.extract k (k + numL ((bl s).drop k)), t, m, ⟨#[]⟩, k, (k + numL ((bl s).drop k) : Nat)⟩ else t0) :
    Calls Tryz.prog 24 #[.pointer (some ⟨c, 0, none⟩), .int .i64 (k : Int)] w fun r w' => r = .returned (.tuple #[tv X, .int .i64 x]) ∧ Kept No w w' := by
  obtain ⟨W, HW⟩ : ∃ W, Hid (W = w.alloc (.cells #[.int .i64 0, .string ⟨#[]⟩, .int .i64 0, .int .i64 0, .string ⟨#[]⟩, .int .i64 0, .int .i64 0] 34)) := ⟨_, show _ = _ from rfl⟩
  have HC : Hid (Cu W c s) := by show Cu _ _ _; rw [HW.out]; exact h.no ((Kept.refl No w).alloc _)
  have HK : Hid (Kept No w W) := by show Kept _ _ _; rw [HW.out]; exact (Kept.refl No w).alloc _
  have HER : Hid (ErrIs w) := he
  have HR0 : Hid (W.heap[w.heap.size]? = some (tb t0)) := by show _ = _; rw [HW.out]; exact World.alloc_heap_new w _
  have HWF : Hid (∀ w, Calls Tryz.prog 46 #[.int .u8 (s[k].toNat : Int)] w fun e w' => e = .returned (.bool true) ∧ w = w') := fun w => by have := isDigit_any s[k] w; rw [hl] at this; exact this
  have HNE : Hid (∀ w, Calls Tryz.prog 47 #[.string s, .int .i64 (k : Int)] w fun e w' => e = .returned (.int .i64 ((k + numL ((bl s).drop k) : Nat) : Int)) ∧ w = w') := fun w => numberEnd_any s k (by omega) (by omega) w
  have c1 : ∀ o, (w.alloc o).cell? ⟨c, 0, none⟩ = some (.string s) := fun o => (h.no ((Kept.refl No w).alloc o)).src
  have c0 := HC.out.src
  have hnl := numL_le ((bl s).drop k)
  rw [List.length_drop, bl_len] at hnl
  obtain ⟨E, HE⟩ : ∃ E, Hid (k + numL ((bl s).drop k) = E) := ⟨_, show _ = _ from rfl⟩
  rw [HE.out] at hb HNE hX
  have HX : Hid (X = _) := hX
  clear hX
  have hkE : k ≤ E := by rw [← HE.out]; omega
  have hEs : E ≤ s.size := by rw [← HE.out]; omega
  have HB : Hid (ReadIs (s.extract k E) t m x) := hb
  clear h hl hb hnl he HE
  obtain ⟨R, HRR⟩ : ∃ R, Hid (w.heap.size = R) := ⟨_, show _ = _ from rfl⟩
  rw [HRR.out] at HR0
  go_enter Tryz.func24, Tryz.ntmps24
  go_wp2_with fail
  refine Calls.mono (HWF.out _) ?_
  rintro e w' ⟨rfl, rfl⟩
  rw [← HW.out]
  clear c1
  go_wp2_with fail
  refine Calls.mono (HNE.out _) ?_
  rintro e w' ⟨rfl, rfl⟩
  go_wp2_with fail
  refine (cut_any HC.out 3 k E hkE (by omega) (by omega)).mono ?_
  rintro e W1 ⟨rfl, hk1⟩
  have H1 : Hid (Kept No w W1 ∧ W1.heap[R]? = some (tb t0)) := ⟨HK.out.trans hk1, hk1.heap HR0.out id⟩
  clear hk1 c0
  obtain ⟨W2, HW2⟩ : ∃ W2, Hid (W1.alloc (tb ⟨3, s.extract k E, 0, 0, ⟨#[]⟩, k, E⟩) = W2) := ⟨_, show _ = _ from rfl⟩
  have HT : Hid (W2.heap[W1.heap.size]? = some (tb ⟨3, s.extract k E, 0, 0, ⟨#[]⟩, k, E⟩)) := by show _ = _; rw [← HW2.out]; exact World.alloc_heap_new W1 _
  have HK2 : Hid (Kept No W1 W2) := by show Kept _ _ _; rw [← HW2.out]; exact (Kept.refl No W1).alloc _
  unfold tb at HW2
  dsimp only at HW2
  unfold tv
  dsimp only
  go_wp2_with fail
  rw [HW2.out]
  clear HW2
  obtain ⟨T, HTT⟩ : ∃ T, Hid (W1.heap.size = T) := ⟨_, show _ = _ from rfl⟩
  rw [HTT.out] at HT ⊢
  rw [HRR.out]
  have HF : Hid (Kept No w W2 ∧ W2.heap[R]? = some (tb t0) ∧ R < T ∧ T < W2.heap.size ∧ w.heap.size ≤ R) := ⟨H1.out.1.trans HK2.out, HK2.out.heap H1.out.2 id, by rw [← HTT.out]; exact hp_lt H1.out.2, hp_lt HT.out, by rw [HRR.out]; exact Nat.le_refl _⟩
  clear H1 HK2 HTT
  refine (HB.out _ (HER.out.no HF.out.1)).mono ?_
  rintro e W3 ⟨rfl, hb3⟩
  have hSS : Kept No W2 W3 := Kept.of_below hb3
  obtain ⟨t3, t4, t5, t6, t7, t8, t9⟩ := tbo_cells hSS HT.out
  obtain ⟨r3, r4, r5, r6, r7, r8, r9⟩ := tbo_cells hSS HF.out.2.1
  have t1' := fun o p => tb_frozen ((hSS.alloc o).heap HT.out id) p
  have t2' := fun o p => tb_frozen ((hSS.alloc o).heap HF.out.2.1 id) p
  dsimp only [t0] at t3 t4 t5 t6 t7 t8 t9 r3 r4 r5 r6 r7 r8 r9
  have nRT : R ≠ T := by have := HF.out.2.2.1; omega
  have nTR : T ≠ R := by have := HF.out.2.2.1; omega
  have HKf : Hid (Kept No w W3 ∧ w.heap.size ≤ R ∧ w.heap.size ≤ T) := ⟨HF.out.1.trans hSS, HF.out.2.2.2.2, by have := HF.out.2.2; omega⟩
  clear hSS hb3 HB HT HF HER HWF HNE HC HK HR0
  unfold AV
  by_cases hx : x = 0
  · subst hx
    have HXX : Hid (X = ⟨3, s.extract k E, t, m, ⟨#[]⟩, k, E⟩) := by show _ = _; rw [HX.out, if_pos rfl]
    go_wp2_with fail
    refine bodyPost_ret (v := .tuple #[tv ⟨3, s.extract k E, t, m, ⟨#[]⟩, k, E⟩, .int .i64 0]) (by simp [results, Tryz.results24, go_sem, tv, t3, t4, t5, t6, t7, t8, t9, r3, r4, r5, r6, r7, r8, r9, nRT, nTR]) rfl ⟨by rw [HXX.out], ?_⟩
    exact HKf.out.1.alloc _ |>.set _ _ _ (Or.inr HKf.out.2.2)|>.set _ _ _ (Or.inr HKf.out.2.2)|>.set _ _ _ (Or.inr HKf.out.2.1)|>.set _ _ _ (Or.inr HKf.out.2.1)|>.set _ _ _ (Or.inr HKf.out.2.1)|>.set _ _ _ (Or.inr HKf.out.2.1)|>.set _ _ _ (Or.inr HKf.out.2.1)|>.set _ _ _ (Or.inr HKf.out.2.1)|>.set _ _ _ (Or.inr HKf.out.2.1)
  · have bx : (x == 0) = false := by simp [hx]
    have HXX : Hid (X = t0) := by show _ = _; rw [HX.out, if_neg hx]
    clear hx
    go_wp2_with fail
    refine bodyPost_ret (v := .tuple #[tv t0, .int .i64 x]) (by simp [results, Tryz.results24, go_sem, tv, t0, t3, t4, t5, t6, t7, t8, t9, r3, r4, r5, r6, r7, r8, r9, nRT, nTR]) rfl ⟨by rw [HXX.out], ?_⟩
    exact HKf.out.1.alloc _ |>.set _ _ _ (Or.inr HKf.out.2.1)|>.set _ _ _ (Or.inr HKf.out.2.1)|>.set _ _ _ (Or.inr HKf.out.2.1)|>.set _ _ _ (Or.inr HKf.out.2.1)|>.set _ _ _ (Or.inr HKf.out.2.1)|>.set _ _ _ (Or.inr HKf.out.2.1)|>.set _ _ _ (Or.inr HKf.out.2.1)

/-- What number tells. -/
noncomputable def nuX (s : ByteArray) (k : Nat) (hs : s.size ≤ 8192) : Tk × Int :=
  if isDg ((bl s).getD k 0) then
    let p := (rd (s.extract k (k + numL ((bl s).drop k))) (by rw [ByteArray.size_extract]; omega)).1
    (if p.2.2 = 0 then ⟨3, s.extract k (k + numL ((bl s).drop k)), p.1, p.2.1, ⟨#[]⟩, k, (k + numL ((bl s).drop k) : Nat)⟩ else t0, p.2.2)
  else (t0, 0)
theorem number_any {w : World} {c : Nat} {s : ByteArray} (h : Cu w c s) (he : ErrIs w) (k : Nat) (hk : k < s.size) (hs : s.size ≤ 8192) :
    Calls Tryz.prog 24 #[.pointer (some ⟨c, 0, none⟩), .int .i64 (k : Int)] w fun r w' => r = .returned (.tuple #[tv (nuX s k hs).1, .int .i64 (nuX s k hs).2]) ∧ Kept No w w' := by
  unfold nuX
  rw [bl_getD s hk]
  cases hl : isDg s[k] with
  | false => exact number_not h k hk hs hl
  | true => exact number_is h he k hk hs hl _ _ _ (rd (s.extract k (k + numL ((bl s).drop k))) (by rw [ByteArray.size_extract]; omega)).2 _ rfl
end Go.Proofs.YtgkgpjbbmnfnmaaGreatDoor

/- A text in quotes. -/
namespace Go.Proofs.YtgkgpjbbmnfnmaaGreatDoor
open Go.RowKit
set_option linter.unusedSimpArgs false
set_option linter.unusedVariables false

/-- Where the next quote stands. -/
def qL : List UInt8 → Option Nat
  | [] => none
  | c :: r => if c.toNat = 34 then some 0 else (qL r).map (· + 1)
theorem qL_index : ∀ l, (qL l = none ∧ Lib.indexByte l 34 = -1) ∨ ∃ n : Nat, qL l = some n ∧ Lib.indexByte l 34 = (n : Int) ∧ n < l.length
  | [] => .inl ⟨rfl, rfl⟩
  | c :: r => by
    unfold Lib.indexByte qL
    by_cases h : c = 34
    · subst h
      exact .inr ⟨0, rfl, rfl, by simp⟩
    · have h' : ¬ c.toNat = 34 := fun e => h (UInt8.toNat_inj.1 (by rw [e]; rfl))
      rcases qL_index r with ⟨h1, h2⟩ | ⟨n, h1, h2, h3⟩
      · left
        simp [h, h', h1, h2]
      · right
        refine ⟨n + 1, by simp [h', h1], ?_, by simp; omega⟩
        have : ¬ (n : Int) = -1 := by omega
        simp [h, h2, this]
/-- What Unquote makes of a text. -/
def uq (t : ByteArray) : Option ByteArray := if Tx.unquoteB t then (Tx.unqL (Tx.bl (t.extract 1 (t.size - 1)))).map Tx.str else none
theorem uq_some {t u : ByteArray} (h : uq t = some u) : Tx.unquoteT t = .tuple #[.string u, .int .i64 0] := by
  unfold uq at h
  unfold Tx.unquoteT
  split at h
  · rename_i hb
    rw [if_pos hb]
    cases hu : Tx.unqL (Tx.bl (t.extract 1 (t.size - 1))) with
    | none => rw [hu] at h; cases h
    | some l => rw [hu] at h; simp at h; simp [h]
  · cases h
theorem uq_none {t : ByteArray} (h : uq t = none) : Tx.unquoteT t = .tuple #[.string ⟨#[]⟩, .int .i64 6] := by
  unfold uq at h
  unfold Tx.unquoteT
  split at h
  · rename_i hb
    rw [if_pos hb]
    cases hu : Tx.unqL (Tx.bl (t.extract 1 (t.size - 1))) with
    | none => rfl
    | some l => rw [hu] at h; cases h
  · rename_i hb
    rw [if_neg hb]

set_option maxRecDepth 20000 in
set_option maxHeartbeats 2000000 in
theorem quoted_not {w : World} {c : Nat} {s : ByteArray} (h : Cu w c s) (k : Nat) (hk : k < s.size) (hs : s.size ≤ 8192) (hl : ¬ s[k].toNat = 34) :
    Calls Tryz.prog 25 #[.pointer (some ⟨c, 0, none⟩), .int .i64 (k : Int)] w fun r w' => r = .returned (.tuple #[tv t0, .int .i64 0]) ∧ Kept No w w' := by
  have c1 : ∀ o, (w.alloc o).cell? ⟨c, 0, none⟩ = some (.string s) := fun o => (h.no ((Kept.refl No w).alloc o)).src
  have b34 : ((s[k].toNat : Int) == 34) = false := by rw [beq_eq_false_iff_ne]; omega
  clear h hl
  go_enter Tryz.func25, Tryz.ntmps25
  go_wp2_with fail
  refine bodyPost_ret (v := .tuple #[tv t0, .int .i64 0]) (by simp [results, Tryz.results25, go_sem, tv, t0]) rfl ⟨rfl, ?_⟩
  exact (Kept.refl No w).alloc _

set_option maxRecDepth 20000 in
set_option maxHeartbeats 2000000 in
theorem quoted_open {w : World} {c : Nat} {s : ByteArray} (h : Cu w c s) (k : Nat) (hk : k < s.size) (hs : s.size ≤ 8192) (hl : s[k].toNat = 34) (hq : Lib.indexByte ((bl s).drop (k + 1)) 34 = -1) :
    Calls Tryz.prog 25 #[.pointer (some ⟨c, 0, none⟩), .int .i64 (k : Int)] w fun r w' => r = .returned (.tuple #[tv t0, .int .i64 16]) ∧ Kept No w w' := by
  obtain ⟨W, HW⟩ : ∃ W, Hid (W = w.alloc (.cells #[.int .i64 0, .string ⟨#[]⟩, .int .i64 0, .int .i64 0, .string ⟨#[]⟩, .int .i64 0, .int .i64 0] 34)) := ⟨_, show _ = _ from rfl⟩
  have HC : Hid (Cu W c s) := by show Cu _ _ _; rw [HW.out]; exact h.no ((Kept.refl No w).alloc _)
  have HK : Hid (Kept No w W) := by show Kept _ _ _; rw [HW.out]; exact (Kept.refl No w).alloc _
  have HR0 : Hid (W.heap[w.heap.size]? = some (tb t0)) := by show _ = _; rw [HW.out]; exact World.alloc_heap_new w _
  have HI : Hid (∀ w, Calls Tryz.prog 49 #[.string (s.extract (k + 1) s.size), .int .u8 34] w fun e w' => e = .returned (.int .i64 (Lib.indexByte ((bl s).drop (k + 1)) 34)) ∧ w = w') := fun w => by
    have := Tryz.strings_IndexByte (s.extract (k + 1) s.size) 34 w
    refine this.mono ?_
    rintro e w' ⟨he, hw⟩
    refine ⟨?_, hw.symm⟩
    rw [he, ← bl_from]; rfl
  have c1 : ∀ o, (w.alloc o).cell? ⟨c, 0, none⟩ = some (.string s) := fun o => (h.no ((Kept.refl No w).alloc o)).src
  have c0 := HC.out.src
  have q1 : (k : Int) + 1 ≤ (s.size : Int) := by omega
  have u1 : IntKind.i64.wrap ((k : Int) + 1) = (k : Int) + 1 := by rw [IntKind.wrap_i64]; omega
  have b34 : ((s[k].toNat : Int) == 34) = true := by rw [hl]; rfl
  rw [hq] at HI
  clear h hl hq c0 HW HC HK HR0
  go_enter Tryz.func25, Tryz.ntmps25
  go_wp2_with (go_at_call 49; refine Calls.mono (HI.out _) ?_; rintro e w' ⟨rfl, rfl⟩)
  refine bodyPost_ret (v := .tuple #[tv t0, .int .i64 16]) (by simp [results, Tryz.results25, go_sem, tv, t0]) rfl ⟨rfl, ?_⟩
  exact (Kept.refl No w).alloc _

set_option maxRecDepth 20000 in
set_option maxHeartbeats 4000000 in
theorem quoted_is {w : World} {c : Nat} {s : ByteArray} (h : Cu w c s) (k : Nat) (hk : k < s.size) (hs : s.size ≤ 8192) (hl : s[k].toNat = 34) (n : Nat) (hq : Lib.indexByte ((bl s).drop (k + 1)) 34 = (n : Int)) (hn : k + n + 2 ≤ s.size)
    (X : Tk) (x : Int) (hX : (X, x) = match uq (s.extract k (k + n + 2)) with | some u => (⟨4, s.extract k (k + n + 2), 0, 0, u, k, (k + n + 2 : Nat)⟩, 0) | none => (t0, 16)) :
    Calls Tryz.prog 25 #[.pointer (some ⟨c, 0, none⟩), .int .i64 (k : Int)] w fun r w' => r = .returned (.tuple #[tv X, .int .i64 x]) ∧ Kept No w w' := by
  obtain ⟨W, HW⟩ : ∃ W, Hid (W = w.alloc (.cells #[.int .i64 0, .string ⟨#[]⟩, .int .i64 0, .int .i64 0, .string ⟨#[]⟩, .int .i64 0, .int .i64 0] 34)) := ⟨_, show _ = _ from rfl⟩
  have HC : Hid (Cu W c s) := by show Cu _ _ _; rw [HW.out]; exact h.no ((Kept.refl No w).alloc _)
  have HK : Hid (Kept No w W) := by show Kept _ _ _; rw [HW.out]; exact (Kept.refl No w).alloc _
  have HR0 : Hid (W.heap[w.heap.size]? = some (tb t0)) := by show _ = _; rw [HW.out]; exact World.alloc_heap_new w _
  have HI : Hid (∀ w, Calls Tryz.prog 49 #[.string (s.extract (k + 1) s.size), .int .u8 34] w fun e w' => e = .returned (.int .i64 (Lib.indexByte ((bl s).drop (k + 1)) 34)) ∧ w = w') := fun w => by
    have := Tryz.strings_IndexByte (s.extract (k + 1) s.size) 34 w
    refine this.mono ?_
    rintro e w' ⟨he, hw⟩
    refine ⟨?_, hw.symm⟩
    rw [he, ← bl_from]; rfl
  have c1 : ∀ o, (w.alloc o).cell? ⟨c, 0, none⟩ = some (.string s) := fun o => (h.no ((Kept.refl No w).alloc o)).src
  have c0 := HC.out.src
  have q1 : (k : Int) + 1 ≤ (s.size : Int) := by omega
  have u1 : IntKind.i64.wrap ((k : Int) + 1) = (k : Int) + 1 := by rw [IntKind.wrap_i64]; omega
  have b34 : ((s[k].toNat : Int) == 34) = true := by rw [hl]; rfl
  rw [hq] at HI
  have u2 : IntKind.i64.wrap ((k : Int) + (n : Int)) = (k : Int) + (n : Int) := by rw [IntKind.wrap_i64]; omega
  have u3 : IntKind.i64.wrap ((k : Int) + (n : Int) + 2) = (k : Int) + (n : Int) + 2 := by rw [IntKind.wrap_i64]; omega
  have h1 : ¬ (n : Int) < 0 := by omega
  obtain ⟨E, HE⟩ : ∃ E, Hid (k + n + 2 = E) := ⟨_, show _ = _ from rfl⟩
  have HEi : Hid ((k : Int) + (n : Int) + 2 = (E : Int)) := by show _ = _; rw [← HE.out]; omega
  rw [HE.out] at hX hn
  have hkE : k ≤ E := by rw [← HE.out]; omega
  have HX : Hid ((X, x) = _) := hX
  clear hX h hl hq HE
  obtain ⟨R, HRR⟩ : ∃ R, Hid (w.heap.size = R) := ⟨_, show _ = _ from rfl⟩
  rw [HRR.out] at HR0
  go_enter Tryz.func25, Tryz.ntmps25
  go_wp2_with fail
  refine Calls.mono (HI.out _) ?_
  rintro e w' ⟨rfl, rfl⟩
  rw [← HW.out]
  clear c1
  go_wp2_with fail
  rw [HEi.out]
  refine (cut_any HC.out 4 k E hkE (by omega) (by omega)).mono ?_
  rintro e W1 ⟨rfl, hk1⟩
  have H1 : Hid (Kept No w W1 ∧ W1.heap[R]? = some (tb t0)) := ⟨HK.out.trans hk1, hk1.heap HR0.out id⟩
  clear hk1 c0
  obtain ⟨W2, HW2⟩ : ∃ W2, Hid (W1.alloc (tb ⟨4, s.extract k E, 0, 0, ⟨#[]⟩, k, E⟩) = W2) := ⟨_, show _ = _ from rfl⟩
  have HT : Hid (W2.heap[W1.heap.size]? = some (tb ⟨4, s.extract k E, 0, 0, ⟨#[]⟩, k, E⟩)) := by show _ = _; rw [← HW2.out]; exact World.alloc_heap_new W1 _
  have HK2 : Hid (Kept No W1 W2) := by show Kept _ _ _; rw [← HW2.out]; exact (Kept.refl No W1).alloc _
  unfold tb at HW2
  dsimp only at HW2
  unfold tv
  dsimp only
  go_wp2_with fail
  rw [HW2.out]
  clear HW2
  obtain ⟨T, HTT⟩ : ∃ T, Hid (W1.heap.size = T) := ⟨_, show _ = _ from rfl⟩
  rw [HTT.out] at HT ⊢
  rw [HRR.out]
  have HF : Hid (Kept No w W2 ∧ W2.heap[R]? = some (tb t0) ∧ R < T ∧ T < W2.heap.size ∧ w.heap.size ≤ R) := ⟨H1.out.1.trans HK2.out, HK2.out.heap H1.out.2 id, by rw [← HTT.out]; exact hp_lt H1.out.2, hp_lt HT.out, by rw [HRR.out]; exact Nat.le_refl _⟩
  clear H1 HK2 HTT
  refine (Tx.Unquote_any (s.extract k E) _ (by rw [ByteArray.size_extract]; omega)).mono ?_
  cases hu : uq (s.extract k E) with
  | none =>
    have HXX : Hid (X = t0 ∧ x = 16) := by
      have := HX.out
      rw [hu] at this
      injection this with a b
      exact ⟨a, b⟩
    rw [uq_none hu]
    clear hu HX
    rintro e W3 ⟨rfl, hb3⟩
    have hSS : Kept No W2 W3 := Kept.of_below hb3
    obtain ⟨t3, t4, t5, t6, t7, t8, t9⟩ := tb_cells (hSS.heap HT.out id)
    obtain ⟨r3, r4, r5, r6, r7, r8, r9⟩ := tb_cells (hSS.heap HF.out.2.1 id)
    have t1' := fun o => tb_frozen (hSS.heap HT.out id) o
    have t2' := fun o => tb_frozen (hSS.heap HF.out.2.1 id) o
    dsimp only [t0] at t3 t4 t5 t6 t7 t8 t9 r3 r4 r5 r6 r7 r8 r9
    have nRT : R ≠ T := by have := HF.out.2.2.1; omega
    have nTR : T ≠ R := by have := HF.out.2.2.1; omega
    have HKf : Hid (Kept No w W3 ∧ w.heap.size ≤ R ∧ w.heap.size ≤ T) := ⟨HF.out.1.trans hSS, HF.out.2.2.2.2, by have := HF.out.2.2; omega⟩
    clear hSS hb3 HT HF HI HC HK HR0
    go_wp2_with fail
    refine bodyPost_ret (v := .tuple #[tv t0, .int .i64 16]) (by simp [results, Tryz.results25, go_sem, tv, t0, t3, t4, t5, t6, t7, t8, t9, r3, r4, r5, r6, r7, r8, r9, nRT, nTR]) rfl ⟨by rw [HXX.out.1, HXX.out.2], ?_⟩
    exact HKf.out.1.set _ _ _ (Or.inr HKf.out.2.1)|>.set _ _ _ (Or.inr HKf.out.2.1)|>.set _ _ _ (Or.inr HKf.out.2.1)|>.set _ _ _ (Or.inr HKf.out.2.1)|>.set _ _ _ (Or.inr HKf.out.2.1)|>.set _ _ _ (Or.inr HKf.out.2.1)|>.set _ _ _ (Or.inr HKf.out.2.1)
  | some u =>
    have HXX : Hid (X = ⟨4, s.extract k E, 0, 0, u, k, E⟩ ∧ x = 0) := by
      have := HX.out
      rw [hu] at this
      injection this with a b
      exact ⟨a, b⟩
    rw [uq_some hu]
    clear hu HX
    rintro e W3 ⟨rfl, hb3⟩
    have hSS : Kept No W2 W3 := Kept.of_below hb3
    obtain ⟨t3, t4, t5, t6, t7, t8, t9⟩ := tb_cells (hSS.heap HT.out id)
    obtain ⟨r3, r4, r5, r6, r7, r8, r9⟩ := tb_cells (hSS.heap HF.out.2.1 id)
    have t1' := fun o => tb_frozen (hSS.heap HT.out id) o
    have t2' := fun o => tb_frozen (hSS.heap HF.out.2.1 id) o
    dsimp only [t0] at t3 t4 t5 t6 t7 t8 t9 r3 r4 r5 r6 r7 r8 r9
    have nRT : R ≠ T := by have := HF.out.2.2.1; omega
    have nTR : T ≠ R := by have := HF.out.2.2.1; omega
    have HKf : Hid (Kept No w W3 ∧ w.heap.size ≤ R ∧ w.heap.size ≤ T) := ⟨HF.out.1.trans hSS, HF.out.2.2.2.2, by have := HF.out.2.2; omega⟩
    clear hSS hb3 HT HF HI HC HK HR0
    go_wp2_with fail
    refine bodyPost_ret (v := .tuple #[tv ⟨4, s.extract k E, 0, 0, u, k, E⟩, .int .i64 0]) (by simp [results, Tryz.results25, go_sem, tv, t0, t3, t4, t5, t6, t7, t8, t9, r3, r4, r5, r6, r7, r8, r9, nRT, nTR]) rfl ⟨by rw [HXX.out.1, HXX.out.2], ?_⟩
    exact HKf.out.1.set _ _ _ (Or.inr HKf.out.2.2)|>.set _ _ _ (Or.inr HKf.out.2.1)|>.set _ _ _ (Or.inr HKf.out.2.1)|>.set _ _ _ (Or.inr HKf.out.2.1)|>.set _ _ _ (Or.inr HKf.out.2.1)|>.set _ _ _ (Or.inr HKf.out.2.1)|>.set _ _ _ (Or.inr HKf.out.2.1)|>.set _ _ _ (Or.inr HKf.out.2.1)

/-- What quoted tells. -/
def quX (s : ByteArray) (k : Nat) : Tk × Int :=
  if ((bl s).getD k 0).toNat = 34 then
    match qL ((bl s).drop (k + 1)) with
    | none => (t0, 16)
    | some n => match uq (s.extract k (k + n + 2)) with
      | some u => (⟨4, s.extract k (k + n + 2), 0, 0, u, k, (k + n + 2 : Nat)⟩, 0)
      | none => (t0, 16)
  else (t0, 0)
theorem quoted_any {w : World} {c : Nat} {s : ByteArray} (h : Cu w c s) (k : Nat) (hk : k < s.size) (hs : s.size ≤ 8192) :
    Calls Tryz.prog 25 #[.pointer (some ⟨c, 0, none⟩), .int .i64 (k : Int)] w fun r w' => r = .returned (.tuple #[tv (quX s k).1, .int .i64 (quX s k).2]) ∧ Kept No w w' := by
  unfold quX
  rw [bl_getD s hk]
  by_cases hl : s[k].toNat = 34
  · rw [if_pos hl]
    rcases qL_index ((bl s).drop (k + 1)) with ⟨h1, h2⟩ | ⟨n, h1, h2, h3⟩
    · rw [h1]
      exact quoted_open h k hk hs hl h2
    · rw [List.length_drop, bl_len] at h3
      rw [h1]
      exact quoted_is h k hk hs hl n h2 (by omega) _ _ rfl
  · rw [if_neg hl]
    exact quoted_not h k hk hs hl
end Go.Proofs.YtgkgpjbbmnfnmaaGreatDoor

/- A sign. -/
namespace Go.Proofs.YtgkgpjbbmnfnmaaGreatDoor
open Go.RowKit
set_option linter.unusedSimpArgs false
set_option linter.unusedVariables false

/-- The signs. -/
def sgs : List (List UInt8) := [[47, 47], [46, 46], [61, 61], [126, 61], [60, 61], [62, 61], [43], [45], [42], [47], [37], [60], [62], [61], [40], [41], [123], [125], [91], [93], [44], [59], [46], [35]]
def sgV : List Value := sgs.map fun g => .string ⟨g.toArray⟩
/-- .. as they lie in memory. -/
def SgIs (w : World) : Prop := w.rangeAt 0 0 sgV
theorem cell_kept {w w' : World} {b o : Nat} {v : Value} (h : w.cell? ⟨b, o, none⟩ = some v) (hk : Kept No w w') : w'.cell? ⟨b, o, none⟩ = some v := by
  cases hb : w.heap[b]? with
  | none => simp [World.cell?, hb] at h
  | some o' => rw [← h]; simp [World.cell?, hb, hk.heap hb id]
theorem SgIs.no {w w' : World} (h : SgIs w) (hk : Kept No w w') : SgIs w' := fun j v hv => cell_kept (h j v hv) hk
theorem sgV_size : sgV.toArray.size = 24 := by decide
theorem sgV_at {j : Nat} (h : j < 24) : sgV.toArray[j]'(by rw [sgV_size]; exact h) = .string ⟨(sgs[j]'h).toArray⟩ := by
  simp [sgV]; rfl
theorem sgs_le : ∀ g ∈ sgs, g.length ≤ 2 ∧ 1 ≤ g.length := by decide
theorem hp_len {l g : List UInt8} (h : Lib.hasPrefix l g = true) : g.length ≤ l.length := by
  rw [← Lib.hasPrefix_of_take] at h; simp at h; exact h.1
theorem index73 (A : Array Value) (j : Nat) (h : j < 24) (hs : A.size = 24) (w : World) (t : ByteArray) (ht : A[j]'(by rw [hs]; exact h) = .string t) : (Instr.index 101 (.agg A) (.int .i64 (j : Int))).run Tryz.prog w = .ok (.string t) w := by
  have h1 : ((j : Int) < 24) := by omega
  have h2 : A[j]? = some (.string t) := by rw [Array.getElem?_eq_getElem (by rw [hs]; exact h), ht]
  simp [Instr.index, go_sem, h1, h2]
  intro h3; omega
/-- The first of some signs that a text begins with. -/
def sgF (l : List UInt8) (G : List (List UInt8)) : Option (List UInt8) := G.find? (fun g => Lib.hasPrefix l g)

set_option maxRecDepth 20000 in
set_option maxHeartbeats 2000000 in
theorem sign_is {w : World} {c : Nat} {s : ByteArray} (h : Cu w c s) (hg : SgIs w) (k : Nat) (hk : k < s.size) (hs : s.size ≤ 8192) (X : Tk) (hX : X = match sgF ((bl s).drop k) sgs with | some g => ⟨5, s.extract k (k + g.length), 0, 0, ⟨#[]⟩, k, (k + g.length : Nat)⟩ | none => t0) :
    Calls Tryz.prog 26 #[.pointer (some ⟨c, 0, none⟩), .int .i64 (k : Int)] w fun r w' => r = .returned (.tuple #[tv X, .int .i64 0]) ∧ Kept No w w' := by
  obtain ⟨W, HW⟩ : ∃ W, Hid (W = w.alloc (.cells #[.int .i64 0, .string ⟨#[]⟩, .int .i64 0, .int .i64 0, .string ⟨#[]⟩, .int .i64 0, .int .i64 0] 34)) := ⟨_, show _ = _ from rfl⟩
  have HC : Hid (Cu W c s) := by show Cu _ _ _; rw [HW.out]; exact h.no ((Kept.refl No w).alloc _)
  have HK : Hid (Kept No w W) := by show Kept _ _ _; rw [HW.out]; exact (Kept.refl No w).alloc _
  have HR0 : Hid (W.heap[w.heap.size]? = some (tb t0)) := by show _ = _; rw [HW.out]; exact World.alloc_heap_new w _
  obtain ⟨A, HA⟩ : ∃ A : Array Value, Hid (sgV.toArray = A) := ⟨_, show _ = _ from rfl⟩
  have HAs : Hid (A.size = 24) := by show _ = _; rw [← HA.out]; exact sgV_size
  have HAi : Hid (∀ j (h : j < 24), A[j]'(by rw [HAs.out]; exact h) = .string ⟨(sgs[j]'h).toArray⟩) := by
    have e := HA.out; subst e; exact fun j h => sgV_at h
  have HG : Hid (∀ o, SgIs (w.alloc o)) := fun o => hg.no ((Kept.refl No w).alloc o)
  obtain ⟨R, HRR⟩ : ∃ R, Hid (w.heap.size = R) := ⟨_, show _ = _ from rfl⟩
  rw [HRR.out] at HR0
  have c0 := HC.out.src
  have HX : Hid (X = _) := hX
  have HKK : Hid (Kept No w W ∧ w.heap.size ≤ R) := ⟨HK.out, by rw [HRR.out]; exact Nat.le_refl _⟩
  have q1 : (k : Int) ≤ (s.size : Int) := by omega
  have HHP : Hid (∀ (g : List UInt8) w, Calls Tryz.prog 28 #[.string (s.extract k s.size), .string ⟨g.toArray⟩] w fun e w' => e = .returned (.bool (Lib.hasPrefix ((bl s).drop k) g)) ∧ w = w') := fun g w => by
    refine (Tryz.strings_HasPrefix (s.extract k s.size) ⟨g.toArray⟩ w).mono ?_
    rintro e w' ⟨he, hw⟩
    refine ⟨?_, hw.symm⟩
    rw [he, ← bl_from]
  clear h hg hX HK
  go_enter Tryz.func26, Tryz.ntmps26
  go_wp2_with (refine wpList_load_mid rfl 101 _ rfl 0 0 rfl sgV _ (HG.out _) Tryz.underlying101 rfl (by kernel_rfl) ?_)
  rw [← HW.out, HA.out, HRR.out]
  clear HG HW HA HRR
  go_loop [9] (fun i => ∃ j : Nat, j ≤ 24 ∧ i = .int .i64 j ∧ Hid (sgF ((bl s).drop k) (sgs.drop j) = sgF ((bl s).drop k) sgs)) (fun i => 24 - (intOf i).toNat)
  case atStart => exact ⟨0, by omega, rfl, rfl⟩
  case round =>
    obtain ⟨j, hj, rfl, HJ⟩ := hrel
    by_cases hlt : j < 24
    · have dlt : decide ((j : Int) < 24) = true := decide_eq_true (by omega)
      have hAi := fun w => index73 A j hlt HAs.out w _ (HAi.out j hlt)
      have Hd : Hid (sgs.drop j = sgs[j] :: sgs.drop (j + 1)) := List.drop_eq_getElem_cons hlt
      have Hle : Hid ((sgs[j]).length ≤ 2) := (sgs_le _ (List.getElem_mem hlt)).1
      have HP : Hid (∀ w, _) := HHP.out sgs[j]
      generalize sgs[j] = g at hAi Hd HP Hle
      cases hp : Lib.hasPrefix ((bl s).drop k) g with
      | false =>
        have HJ2 : Hid (sgF ((bl s).drop k) (sgs.drop (j + 1)) = sgF ((bl s).drop k) sgs) := by
          show _ = _
          rw [← HJ.out, Hd.out]
          unfold sgF
          rw [List.find?_cons, hp]
        rw [hp] at HP
        clear HJ Hd hp
        go_wp2_with (go_at_call 28; refine Calls.mono (HP.out _) ?_; rintro e w' ⟨rfl, rfl⟩)
        go_round
        case rel => exact ⟨j + 1, by omega, by go_num, HJ2⟩
        case measure => simp [intOf] <;> omega
      | true =>
        have HF : Hid (sgF ((bl s).drop k) sgs = some g) := by
          show _ = _
          rw [← HJ.out, Hd.out]
          unfold sgF
          rw [List.find?_cons, hp]
        rw [hp] at HP
        have HXX : Hid (X = ⟨5, s.extract k (k + g.length), 0, 0, ⟨#[]⟩, k, (k + g.length : Nat)⟩) := by show _ = _; rw [HX.out, HF.out]
        have hgl : k + g.length ≤ s.size := by
          have := hp_len hp
          rw [List.length_drop, bl_len] at this; omega
        have hgz : (⟨g.toArray⟩ : ByteArray).size = g.length := by simp [ByteArray.size]
        have u1 : IntKind.i64.wrap ((k : Int) + (g.length : Int)) = (k : Int) + (g.length : Int) := by have := Hle.out; rw [IntKind.wrap_i64]; omega
        clear HJ Hd hp HF HX
        go_wp2_with (first | (go_at_call 28; refine Calls.mono (HP.out _) ?_; rintro e w' ⟨rfl, rfl⟩) | fail)
        rw [show (k : Int) + (g.length : Int) = ((k + g.length : Nat) : Int) from by omega]
        refine (cut_any HC.out 5 k (k + g.length) (by omega) (by omega) (by omega)).mono ?_
        rintro e W1 ⟨rfl, hk1⟩
        have HRx : Hid (W1.heap[R]? = some (tb t0)) := hk1.heap HR0.out id
        have HKf : Hid (Kept No w W1) := HKK.out.1.trans hk1
        obtain ⟨r3, r4, r5, r6, r7, r8, r9⟩ := tb_cells HRx.out
        have t2' := fun o => tb_frozen HRx.out o
        dsimp only [t0] at r3 r4 r5 r6 r7 r8 r9
        clear hk1 HRx HR0 HC c0
        unfold tv
        dsimp only
        go_wp2_with fail
        refine bodyPost_ret (v := .tuple #[tv ⟨5, s.extract k (k + g.length), 0, 0, ⟨#[]⟩, k, (k + g.length : Nat)⟩, .int .i64 0]) (by simp [results, Tryz.results26, go_sem, tv, t0, r3, r4, r5, r6, r7, r8, r9]) rfl ⟨by rw [HXX.out], ?_⟩
        exact HKf.out.set _ _ _ (Or.inr HKK.out.2)|>.set _ _ _ (Or.inr HKK.out.2)|>.set _ _ _ (Or.inr HKK.out.2)|>.set _ _ _ (Or.inr HKK.out.2)|>.set _ _ _ (Or.inr HKK.out.2)|>.set _ _ _ (Or.inr HKK.out.2)|>.set _ _ _ (Or.inr HKK.out.2)
    · obtain rfl : j = 24 := by omega
      have dlt : decide ((24 : Int) < 24) = false := by decide
      have HXX : Hid (X = t0) := by show _ = _; rw [HX.out, ← HJ.out]; rfl
      have HRx := HR0
      obtain ⟨r3, r4, r5, r6, r7, r8, r9⟩ := tb_cells HRx.out
      have t2' := fun o => tb_frozen HRx.out o
      dsimp only [t0] at r3 r4 r5 r6 r7 r8 r9

      clear HJ HX
      go_wp2_with fail
      refine bodyPost_ret (v := .tuple #[tv t0, .int .i64 0]) (by simp [results, Tryz.results26, go_sem, tv, t0, r3, r4, r5, r6, r7, r8, r9]) rfl ⟨by rw [HXX.out], ?_⟩
      exact HKK.out.1.set _ _ _ (Or.inr HKK.out.2)|>.set _ _ _ (Or.inr HKK.out.2)|>.set _ _ _ (Or.inr HKK.out.2)|>.set _ _ _ (Or.inr HKK.out.2)|>.set _ _ _ (Or.inr HKK.out.2)|>.set _ _ _ (Or.inr HKK.out.2)|>.set _ _ _ (Or.inr HKK.out.2)

/-- What sign tells. -/
def sgX (s : ByteArray) (k : Nat) : Tk := match sgF ((bl s).drop k) sgs with | some g => ⟨5, s.extract k (k + g.length), 0, 0, ⟨#[]⟩, k, (k + g.length : Nat)⟩ | none => t0
theorem sign_any {w : World} {c : Nat} {s : ByteArray} (h : Cu w c s) (hg : SgIs w) (k : Nat) (hk : k < s.size) (hs : s.size ≤ 8192) :
    Calls Tryz.prog 26 #[.pointer (some ⟨c, 0, none⟩), .int .i64 (k : Int)] w fun r w' => r = .returned (.tuple #[tv (sgX s k), .int .i64 0]) ∧ Kept No w w' := sign_is h hg k hk hs _ rfl
end Go.Proofs.YtgkgpjbbmnfnmaaGreatDoor

/- A token. -/
namespace Go.Proofs.YtgkgpjbbmnfnmaaGreatDoor
open Go.RowKit
set_option linter.unusedSimpArgs false
set_option linter.unusedVariables false

/-- The four answers, in their order. -/
noncomputable def asks (s : ByteArray) (k : Nat) (hs : s.size ≤ 8192) : List (Tk × Int) := [(nmT s k, 0), nuX s k hs, quX s k, (sgX s k, 0)]
/-- Is it one? -/
def hit (p : Tk × Int) : Bool := p.2 != 0 || p.1.k != 0
def pick (L : List (Tk × Int)) : Tk × Int := match L.find? hit with | some p => p | none => (t0, 15)

theorem ask_any {w : World} {c : Nat} {s : ByteArray} (h : Cu w c s) (he : ErrIs w) (hg : SgIs w) (k : Nat) (hk : k < s.size) (hs : s.size ≤ 8192) (j : Nat) (hj : j < 4) :
    Calls Tryz.prog (23 + j) #[.pointer (some ⟨c, 0, none⟩), .int .i64 (k : Int)] w fun r w' => r = .returned (.tuple #[tv ((asks s k hs)[j]'hj).1, .int .i64 ((asks s k hs)[j]'hj).2]) ∧ Kept No w w' := by
  match j, hj with
  | 0, _ => exact name_any h k hk hs
  | 1, _ => exact number_any h he k hk hs
  | 2, _ => exact quoted_any h k hk hs
  | 3, _ => exact sign_any h hg k hk hs
theorem callAsk (j : Nat) (hj : j < 4) (a : Array Value) (w : World) : (callFunc (23 + j) a).run Tryz.prog w = .ok (.enter (23 + j) a) w := by
  match j, hj with
  | 0, _ => simp [go_sem]
  | 1, _ => simp [go_sem]
  | 2, _ => simp [go_sem]
  | 3, _ => simp [go_sem]
theorem Cu.ask {w : World} {c : Nat} {s : ByteArray} (h : Cu w c s) : ∃ K, ∀ w', Kept No w w' → w'.cell? ⟨c, 2, none⟩ = some (.slice (some ⟨K, 0, none⟩) 4 4) ∧ ∀ j, j < 4 → w'.cell? ⟨K, j, none⟩ = some (mth (23 + j) c) := by
  obtain ⟨M, K, h1, h2, h3⟩ := h.ex
  refine ⟨K, fun w' hk => ⟨by rw [cell_of (hk.heap h1 id)]; rfl, fun j hj => ?_⟩⟩
  rw [cell_of (hk.heap h2 id)]
  match j, hj with
  | 0, _ => rfl
  | 1, _ => rfl
  | 2, _ => rfl
  | 3, _ => rfl

set_option maxRecDepth 20000 in
set_option maxHeartbeats 2000000 in
theorem token_is {w : World} {c : Nat} {s : ByteArray} (h : Cu w c s) (he : ErrIs w) (hg : SgIs w) (k : Nat) (hk : k < s.size) (hs : s.size ≤ 8192) (X : Tk) (x : Int) (hX : (X, x) = pick (asks s k hs)) :
    Calls Tryz.prog 15 #[.pointer (some ⟨c, 0, none⟩), .int .i64 (k : Int)] w fun r w' => r = .returned (.tuple #[tv X, .int .i64 x]) ∧ Kept No w w' := by
  obtain ⟨W, HW⟩ : ∃ W, Hid (W = w.alloc (.cells #[.int .i64 0, .string ⟨#[]⟩, .int .i64 0, .int .i64 0, .string ⟨#[]⟩, .int .i64 0, .int .i64 0] 34)) := ⟨_, show _ = _ from rfl⟩
  have HK : Hid (Kept No w W) := by show Kept _ _ _; rw [HW.out]; exact (Kept.refl No w).alloc _
  have HR0 : Hid (W.heap[w.heap.size]? = some (tb t0)) := by show _ = _; rw [HW.out]; exact World.alloc_heap_new w _
  obtain ⟨K, hK⟩ := h.ask
  have c2 : ∀ o, (w.alloc o).cell? ⟨c, 2, none⟩ = some (.slice (some ⟨K, 0, none⟩) 4 4) := fun o => (hK _ ((Kept.refl No w).alloc o)).1
  have HKc : Hid (∀ w', Kept No w w' → ∀ j, j < 4 → w'.cell? ⟨K, j, none⟩ = some (mth (23 + j) c)) := fun w' hk => (hK w' hk).2
  have HAsk : Hid (∀ w', Kept No w w' → ∀ j (hj : j < 4), Calls Tryz.prog (23 + j) #[.pointer (some ⟨c, 0, none⟩), .int .i64 (k : Int)] w' fun r w'' => r = .returned (.tuple #[tv ((asks s k hs)[j]'hj).1, .int .i64 ((asks s k hs)[j]'hj).2]) ∧ Kept No w' w'') := fun w' hk' j hj => ask_any (h.no hk') (he.no hk') (hg.no hk') k hk hs j hj
  have HX : Hid ((X, x) = _) := hX
  obtain ⟨L, HL⟩ : ∃ L : List (Tk × Int), Hid (asks s k hs = L) := ⟨_, show _ = _ from rfl⟩
  have hLl : L.length = 4 := by rw [← HL.out]; rfl
  have HAsk2 : Hid (∀ w', Kept No w w' → ∀ j (hj : j < L.length), Calls Tryz.prog (23 + j) #[.pointer (some ⟨c, 0, none⟩), .int .i64 (k : Int)] w' fun r w'' => r = .returned (.tuple #[tv (L[j]'hj).1, .int .i64 (L[j]'hj).2]) ∧ Kept No w' w'') := by
    have e := HL.out; subst e; exact fun w' hk j hj => HAsk.out w' hk j hj
  rw [HL.out] at HX
  clear hX h he hg hK HAsk HL
  obtain ⟨R, HRR⟩ : ∃ R, Hid (w.heap.size = R) := ⟨_, show _ = _ from rfl⟩
  rw [HRR.out] at HR0
  have HwR : Hid (w.heap.size ≤ R) := by show _ ≤ _; rw [HRR.out]; exact Nat.le_refl _
  go_enter Tryz.func15, Tryz.ntmps15
  go_wp2_with fail
  rw [← HW.out, HRR.out]
  clear HW HRR c2
  go_loopw [15] (fun i wr => ∃ j : Nat, j ≤ 4 ∧ i = .int .i64 j ∧ Hid (Kept No w wr) ∧ Hid (wr.heap[R]? = some (tb t0)) ∧ Hid (pick (L.drop j) = pick L)) (fun i _ => 4 - (intOf i).toNat)
  case atStart => exact ⟨0, by omega, rfl, HK.out, HR0.out, rfl⟩
  case round =>
    clear HK HR0
    obtain ⟨j, hj, rfl, HK, HR0, HJ⟩ := hrel
    by_cases hlt : j < 4
    · have dlt : decide ((j : Int) < 4) = true := decide_eq_true (by omega)
      have lt4 : (j : Int) < 4 := by omega
      have hcj := HKc.out _ HK.out j hlt
      have HA := HAsk2.out _ HK.out j (by omega)
      have Hd : Hid (L.drop j = L[j] :: L.drop (j + 1)) := List.drop_eq_getElem_cons (by omega)
      unfold mth at hcj
      have hca := callAsk j hlt
      generalize L[j] = p at HA Hd
      obtain ⟨⟨pk, pt, pvt, pvn, psy, pa, pe⟩, x1⟩ := p
      have HA2 : Hid _ := HA
      clear HA
      go_wp2_with fail
      refine Calls.mono HA2.out ?_
      rintro e W1 ⟨rfl, hk1⟩
      have HK1 : Hid (Kept No w W1) := HK.out.trans hk1
      have HR1 : Hid (W1.heap[R]? = some (tb t0)) := hk1.heap HR0.out id
      obtain ⟨r3, r4, r5, r6, r7, r8, r9⟩ := tbo_cells (Kept.refl No W1) HR1.out
      have t2' := fun o p => tb_frozen (((Kept.refl No W1).alloc o).heap HR1.out id) p
      dsimp only [t0] at r3 r4 r5 r6 r7 r8 r9
      have hRne : R ≠ W1.heap.size := by have := hp_lt HR1.out; omega
      clear HA2 hca hcj hk1 HR0 HAsk2 HKc
      unfold tv
      dsimp only
      by_cases hx : x1 = 0
      · subst hx
        by_cases hp : pk = 0
        · subst hp
          have HJ2 : Hid (pick (L.drop (j + 1)) = pick L) := by
            show _ = _
            rw [← HJ.out, Hd.out]
            unfold pick
            rw [List.find?_cons]
            rfl
          have HR2 : Hid (∀ o, (W1.alloc o).heap[R]? = some (tb t0)) := fun o => ((Kept.refl No W1).alloc o).heap HR1.out id
          clear HJ Hd HX
          go_wp2_with fail
          go_roundw
          case rel => exact ⟨j + 1, by omega, by go_num, HK1.out.alloc _, HR2.out _, HJ2⟩
          case measure => simp [intOf] <;> omega
        · have hpb : (pk == 0) = false := by simp [hp]
          have HIT : hit (⟨pk, pt, pvt, pvn, psy, pa, pe⟩, 0) = true := by simp [hit, hp]
          clear hp
          have HXX : Hid (X = ⟨pk, pt, pvt, pvn, psy, pa, pe⟩ ∧ x = 0) := by
            have hh := HX.out
            rw [← HJ.out, Hd.out] at hh
            unfold pick at hh
            rw [List.find?_cons, HIT] at hh
            dsimp only at hh
            exact ⟨congrArg Prod.fst hh, congrArg Prod.snd hh⟩
          clear HX HJ Hd
          go_wp2_with fail
          refine bodyPost_ret (v := .tuple #[tv ⟨pk, pt, pvt, pvn, psy, pa, pe⟩, .int .i64 0]) (by simp [results, Tryz.results15, go_sem, tv, t0, r3, r4, r5, r6, r7, r8, r9]) rfl ⟨by rw [HXX.out.1, HXX.out.2], ?_⟩
          exact (HK1.out.alloc _).set _ _ _ (Or.inr HwR.out)|>.set _ _ _ (Or.inr HwR.out)|>.set _ _ _ (Or.inr HwR.out)|>.set _ _ _ (Or.inr HwR.out)|>.set _ _ _ (Or.inr HwR.out)|>.set _ _ _ (Or.inr HwR.out)|>.set _ _ _ (Or.inr HwR.out)
      · have hxb : (x1 == 0) = false := by simp [hx]
        have HIT : hit (⟨pk, pt, pvt, pvn, psy, pa, pe⟩, x1) = true := by simp [hit, hx]
        clear hx
        have HXX : Hid (X = ⟨pk, pt, pvt, pvn, psy, pa, pe⟩ ∧ x = x1) := by
          have hh := HX.out
          rw [← HJ.out, Hd.out] at hh
          unfold pick at hh
          rw [List.find?_cons, HIT] at hh
          dsimp only at hh
          exact ⟨congrArg Prod.fst hh, congrArg Prod.snd hh⟩
        clear HX HJ Hd
        go_wp2_with fail
        refine bodyPost_ret (v := .tuple #[tv ⟨pk, pt, pvt, pvn, psy, pa, pe⟩, .int .i64 x1]) (by simp [results, Tryz.results15, go_sem, tv, t0, r3, r4, r5, r6, r7, r8, r9]) rfl ⟨by rw [HXX.out.1, HXX.out.2], ?_⟩
        exact (HK1.out.alloc _).set _ _ _ (Or.inr HwR.out)|>.set _ _ _ (Or.inr HwR.out)|>.set _ _ _ (Or.inr HwR.out)|>.set _ _ _ (Or.inr HwR.out)|>.set _ _ _ (Or.inr HwR.out)|>.set _ _ _ (Or.inr HwR.out)|>.set _ _ _ (Or.inr HwR.out)
    · obtain rfl : j = 4 := by omega
      have dlt : decide ((4 : Int) < 4) = false := by decide
      have HXX : Hid (X = t0 ∧ x = 15) := by
        have hh := HX.out
        rw [← HJ.out, List.drop_eq_nil_of_le (by omega)] at hh
        exact ⟨congrArg Prod.fst hh, congrArg Prod.snd hh⟩
      obtain ⟨r3, r4, r5, r6, r7, r8, r9⟩ := tb_cells HR0.out
      have t2' := fun o => tb_frozen HR0.out o
      dsimp only [t0] at r3 r4 r5 r6 r7 r8 r9
      clear HJ HX HAsk2 HKc
      go_wp2_with fail
      refine bodyPost_ret (v := .tuple #[tv t0, .int .i64 15]) (by simp [results, Tryz.results15, go_sem, tv, t0, r3, r4, r5, r6, r7, r8, r9]) rfl ⟨by rw [HXX.out.1, HXX.out.2], ?_⟩
      exact HK.out.set _ _ _ (Or.inr HwR.out)|>.set _ _ _ (Or.inr HwR.out)|>.set _ _ _ (Or.inr HwR.out)|>.set _ _ _ (Or.inr HwR.out)|>.set _ _ _ (Or.inr HwR.out)|>.set _ _ _ (Or.inr HwR.out)|>.set _ _ _ (Or.inr HwR.out)
/-- The token at a place, or its error. -/
noncomputable def tkAt (s : ByteArray) (k : Nat) (hs : s.size ≤ 8192) : Tk × Int := pick (asks s k hs)
theorem token_any {w : World} {c : Nat} {s : ByteArray} (h : Cu w c s) (he : ErrIs w) (hg : SgIs w) (k : Nat) (hk : k < s.size) (hs : s.size ≤ 8192) :
    Calls Tryz.prog 15 #[.pointer (some ⟨c, 0, none⟩), .int .i64 (k : Int)] w fun r w' => r = .returned (.tuple #[tv (tkAt s k hs).1, .int .i64 (tkAt s k hs).2]) ∧ Kept No w w' := token_is h he hg k hk hs _ _ rfl
end Go.Proofs.YtgkgpjbbmnfnmaaGreatDoor
