/- Unquote. Out of the texts' own texts, renumbered. -/
import Derived.Test.YtidokamfppdnaaaGreatDoorRows
import Derived.Test.YtidokamfppdnaaaGreatDoorShelf
import Derived.WalkKit
import Derived.WalkSpells
import Derived.WalkLawsBesides
import Derived.Laws.BitsAllLaws
import Derived.Lib.AppendStr
import Derived.Deep.AppendLies
import Derived.Deep.RegionHeld3
import Derived.Laws.BytesArg
namespace Go.Proofs.YtidokamfppdnaaaGreatDoor.Tx
open Go.RowKit
set_option linter.unusedSimpArgs false
set_option linter.unusedVariables false

/-- Does a byte stand for itself? -/
def pl (c : Nat) : Bool := decide (32 ≤ c) && decide (c ≤ 126) && c != 34 && c != 92
set_option maxRecDepth 20000 in
theorem pl_false1 {c : Nat} (h : c < 32 ∨ 126 < c ∨ c = 34 ∨ c = 92) : pl c = false := by
  unfold pl; rw [Bool.eq_false_iff]; intro e
  simp only [Bool.and_eq_true, decide_eq_true_eq, bne_iff_ne, ne_eq] at e
  omega
set_option maxRecDepth 20000 in
theorem pl_true1 {c : Nat} (h1 : 32 ≤ c) (h2 : c ≤ 126) (h3 : c ≠ 34) (h4 : c ≠ 92) : pl c = true := by
  unfold pl
  simp only [Bool.and_eq_true, decide_eq_true_eq, bne_iff_ne, ne_eq]
  exact ⟨⟨⟨h1, h2⟩, h3⟩, h4⟩
set_option maxRecDepth 20000 in
theorem pl_cases (c : Nat) : (c < 32 ∧ pl c = false) ∨ (126 < c ∧ 32 ≤ c ∧ pl c = false) ∨ (c = 34 ∧ pl c = false) ∨ (c = 92 ∧ pl c = false) ∨ (32 ≤ c ∧ c ≤ 126 ∧ c ≠ 34 ∧ c ≠ 92 ∧ pl c = true) := by
  by_cases h1 : c < 32
  · exact Or.inl ⟨h1, pl_false1 (Or.inl h1)⟩
  · by_cases h2 : 126 < c
    · exact Or.inr (Or.inl ⟨h2, by omega, pl_false1 (Or.inr (Or.inl h2))⟩)
    · by_cases h3 : c = 34
      · exact Or.inr (Or.inr (Or.inl ⟨h3, pl_false1 (Or.inr (Or.inr (Or.inl h3)))⟩))
      · by_cases h4 : c = 92
        · exact Or.inr (Or.inr (Or.inr (Or.inl ⟨h4, pl_false1 (Or.inr (Or.inr (Or.inr h4)))⟩)))
        · exact Or.inr (Or.inr (Or.inr (Or.inr ⟨by omega, by omega, h3, h4, pl_true1 (by omega) (by omega) h3 h4⟩)))
set_option maxHeartbeats 400000 in
set_option maxRecDepth 20000 in
theorem plain_any (c : Nat) (w : World) :
    Calls Tryz.prog 70 #[.int .u8 c] w fun e w' => e = .returned (.bool (pl c)) ∧ w = w' := by
  rcases pl_cases c with ⟨h, hp⟩ | ⟨h, h', hp⟩ | ⟨h, hp⟩ | ⟨h, hp⟩ | ⟨h1, h2, h3, h4, hp⟩
  · rw [hp]; clear hp
    go_enter Tryz.func70, Tryz.ntmps70
    go_wp2
    go_ret
    exact ⟨rfl, rfl⟩
  · rw [hp]; clear hp
    go_enter Tryz.func70, Tryz.ntmps70
    go_wp2
    go_ret
    exact ⟨rfl, rfl⟩
  · rw [hp]; clear hp; subst h
    go_enter Tryz.func70, Tryz.ntmps70
    go_wp2
    go_ret
    exact ⟨rfl, rfl⟩
  · rw [hp]; clear hp; subst h
    go_enter Tryz.func70, Tryz.ntmps70
    go_wp2
    go_ret
    exact ⟨rfl, rfl⟩
  · rw [hp]; clear hp
    have e3 : ((c : Int) != 34) = true := by simp; omega
    have e4 : ((c : Int) != 92) = true := by simp; omega
    clear h3 h4
    go_enter Tryz.func70, Tryz.ntmps70
    go_wp2
    go_ret
    exact ⟨rfl, rfl⟩
/-- Bytes as cells. -/
def bc (l : List Nat) : List Value := l.map fun (n : Nat) => .int .u8 (n : Int)
set_option maxRecDepth 20000 in
theorem bc_one (l : List Nat) : ∀ u ∈ bc l, u.oneCell' = true := by
  intro u hu; simp only [bc, List.mem_map] at hu; obtain ⟨n, _, rfl⟩ := hu; rfl
set_option maxRecDepth 20000 in
theorem bc_append (a b : List Nat) : bc (a ++ b) = bc a ++ bc b := by simp [bc]
set_option maxRecDepth 20000 in
theorem info5 : (Tryz.prog.info? 5).map (fun i => (i.zero, i.size, i.bytes)) = some (some (.int .u8 0), 1, 1) := by kernel_rfl
abbrev digs : ByteArray := ⟨#[48, 49, 50, 51, 52, 53, 54, 55, 56, 57, 97, 98, 99, 100, 101, 102]⟩
set_option maxRecDepth 20000 in
theorem below_own {w w' : World} {base e size n g cap : Nat} {xs : List Value} (hg : w.grownBy w' (Value.ownBlock (.slice (some ⟨g, 0, none⟩) n cap))) (hown : w.ownsRow base e size (.slice (some ⟨g, 0, none⟩) n cap) n xs) (hb : base ≤ w.heap.size) : Below base w w' := by
  have hl := hown.lt g rfl
  exact (Below.refl _ _).grown hg hb (fun k hk => by simp [Value.ownBlock] at hk; omega)
/-- The bytes of a text. -/
def bl (s : ByteArray) : List Nat := s.data.toList.map UInt8.toNat
/-- The text of bytes. -/
def str (l : List Nat) : ByteArray := strOfNums (l.map fun (n : Nat) => (n : Int))
set_option maxRecDepth 20000 in
theorem bl_len (s : ByteArray) : (bl s).length = s.size := by unfold bl; rw [List.length_map]; exact Array.length_toList
set_option maxRecDepth 20000 in
theorem own_len {w : World} {base n g cap : Nat} {xs : List Nat} (h : w.ownsRow base 5 1 (.slice (some ⟨g, 0, none⟩) n cap) n (bc xs)) : xs.length = n := by
  have := h.1; simpa [bc] using this
set_option maxRecDepth 20000 in
theorem conv_own {w : World} {base n g cap : Nat} {xs : List Nat} (h : w.ownsRow base 5 1 (.slice (some ⟨g, 0, none⟩) n cap) n (bc xs)) :
    (convert 73 9 (.slice (some ⟨g, 0, none⟩) n cap)).run Tryz.prog w = .ok (.string (str xs)) w := by
  have hl := own_len h
  refine run_convert_bytes_arg w 73 5 Tryz.underlying73 Tryz.underlying5 g 0 n cap (xs.map fun (n : Nat) => (n : Int)) (by simpa using hl) ?_ 9 Tryz.underlying9
  intro i hi
  have := h.cells (g := g) rfl i (.int .u8 ((xs.map fun (n : Nat) => (n : Int)).getD i 0)) (by
    simp [bc, List.getD, List.getElem?_eq_getElem (show i < xs.length by omega)])
  have hadd : (⟨g, 0, none⟩ : Addr).add i = ⟨g, 0 + i, none⟩ := by unfold Addr.add; split <;> simp_all
  rwa [hadd] at this
set_option maxRecDepth 20000 in
theorem bl_lt (s : ByteArray) : ∀ a ∈ bl s, a < 256 := by
  intro a ha; unfold bl at ha; obtain ⟨b, _, rfl⟩ := List.mem_map.1 ha; exact UInt8.toNat_lt b
set_option maxRecDepth 20000 in
theorem grown_of_below {w w' : World} (h : Below w.heap.size w w') : w.grownBy w' none :=
  ⟨h.os, h.tape, h.output, h.size, fun k hk _ => h.block k hk⟩
set_option maxRecDepth 20000 in
theorem bl_getD (s : ByteArray) (i : Nat) (h : i < s.size) : (bl s).getD i 0 = s[i].toNat := by
  have h' : i < (bl s).length := by rw [bl_len]; exact h
  simp only [List.getD, List.getElem?_eq_getElem h', Option.getD_some]
  exact List.getElem_map (l := s.data.toList) (f := UInt8.toNat) (i := i) (h := by simpa [bl] using h')
/-- What a digit is worth; -1: it is none. -/
def hexI (n : Nat) : Int := if 48 ≤ n ∧ n ≤ 57 then (n : Int) - 48 else if 97 ≤ n ∧ n ≤ 102 then (n : Int) - 87 else -1
set_option maxRecDepth 20000 in
theorem hexI_bd (n : Nat) : -1 ≤ hexI n ∧ hexI n ≤ 15 := by
  unfold hexI
  split
  · omega
  · split <;> omega
set_option maxRecDepth 20000 in
theorem digs_index : ∀ n, n < 256 → Lib.indexByte digs.data.toList (UInt8.ofNat n) = hexI n := by decide +kernel
set_option maxRecDepth 20000 in
theorem IndexByte_digs (c : UInt8) (w : World) :
    Calls Tryz.prog 35 #[.string digs, .int .u8 c.toNat] w fun e w' => e = .returned (.int .i64 (hexI c.toNat)) ∧ w = w' := by
  have h := Tryz.strings_IndexByte digs c.toNat w
  have e : ((c.toNat : Int).toNat).toUInt8 = UInt8.ofNat c.toNat := by rw [Int.toNat_natCast]
  rw [e, digs_index c.toNat (UInt8.toNat_lt c)] at h
  exact h.mono fun e w' ⟨h1, h2⟩ => ⟨h1, h2.symm⟩
/-- The byte with which a list begins as a quote tells it, and how many bytes tell it. -/
def fbL (l : List Nat) : Nat × Nat :=
  if pl (l.getD 0 0) then (l.getD 0 0, 1)
  else if l.length < 4 ∨ l.getD 0 0 ≠ 92 ∨ l.getD 1 0 ≠ 120 then (0, 0)
  else if hexI (l.getD 2 0) < 0 ∨ hexI (l.getD 3 0) < 0 then (0, 0)
  else if pl ((hexI (l.getD 2 0)).toNat * 16 + (hexI (l.getD 3 0)).toNat) then (0, 0)
  else ((hexI (l.getD 2 0)).toNat * 16 + (hexI (l.getD 3 0)).toNat, 4)
/-- Does the text begin with a backslash and an x? -/
def escB (s : ByteArray) : Bool := (s.extract 0 2).toList == [92, 120]
set_option maxHeartbeats 1000000 in
set_option maxRecDepth 20000 in
theorem HasPrefix_esc (s : ByteArray) (w : World) (hs : 4 ≤ s.size) (hm : s.size ≤ maxLen) :
    Calls Tryz.prog 21 #[.string s, .string ⟨#[92, 120]⟩] w fun e w' => e = .returned (.bool (escB s)) ∧ w = w' := by
  unfold maxLen at hm
  go_enter Tryz.func21, Tryz.ntmps21
  go_wp2_with (first | go_in)
  go_ret
  exact ⟨rfl, rfl⟩
set_option maxRecDepth 20000 in
theorem escB_eq (s : ByteArray) (h : 4 ≤ s.size) : escB s = (s[0].toNat == 92 && s[1].toNat == 120) := by
  obtain ⟨⟨l⟩⟩ := s
  match l, h with
  | a :: b :: c :: d :: r, _ =>
    unfold escB
    rw [ByteArray.toList_eq, Lib.extract_data]
    show ([a, b] == [92, 120]) = (a.toNat == 92 && b.toNat == 120)
    rw [Bool.eq_iff_iff]
    simp only [List.cons_beq_cons, Bool.and_eq_true, beq_iff_eq, List.nil_beq_eq, List.isEmpty_nil, and_true]
    constructor
    · rintro ⟨rfl, rfl⟩; exact ⟨rfl, rfl⟩
    · rintro ⟨h1, h2⟩; exact ⟨UInt8.toNat_inj.1 h1, UInt8.toNat_inj.1 h2⟩
set_option maxRecDepth 20000 in
theorem fb_plain (s : ByteArray) (h : 0 < s.size) (hp : pl s[0].toNat = true) : fbL (bl s) = (s[0].toNat, 1) := by
  unfold fbL; rw [bl_getD s 0 h, if_pos hp]
set_option maxRecDepth 20000 in
theorem fb_short (s : ByteArray) (h : 0 < s.size) (hp : pl s[0].toNat = false) (h4 : s.size < 4) : fbL (bl s) = (0, 0) := by
  unfold fbL; rw [bl_getD s 0 h, hp, if_neg (by decide), if_pos (Or.inl (by rw [bl_len]; exact h4))]
set_option maxRecDepth 20000 in
theorem fb_noesc (s : ByteArray) (h : 4 ≤ s.size) (hp : pl s[0].toNat = false) (he : escB s = false) : fbL (bl s) = (0, 0) := by
  rw [escB_eq s h] at he
  unfold fbL; rw [bl_getD s 0 (by omega), hp, if_neg (by decide), if_pos (Or.inr _)]
  rw [bl_getD s 1 (by omega)]
  simp only [Bool.and_eq_false_iff, beq_eq_false_iff_ne] at he
  exact he
set_option maxRecDepth 20000 in
theorem fb_esc (s : ByteArray) (h : 4 ≤ s.size) (hp : pl s[0].toNat = false) (he : escB s = true) :
    fbL (bl s) = if hexI s[2].toNat < 0 ∨ hexI s[3].toNat < 0 then (0, 0) else if pl ((hexI s[2].toNat).toNat * 16 + (hexI s[3].toNat).toNat) then (0, 0) else ((hexI s[2].toNat).toNat * 16 + (hexI s[3].toNat).toNat, 4) := by
  rw [escB_eq s h] at he
  simp only [Bool.and_eq_true, beq_iff_eq] at he
  unfold fbL
  rw [bl_getD s 0 (by omega), bl_getD s 1 (by omega), bl_getD s 2 (by omega), bl_getD s 3 (by omega), hp, if_neg (by decide), if_neg]
  rw [bl_len]
  rintro (h1 | h1 | h1)
  · omega
  · exact h1 he.1
  · exact h1 he.2
set_option maxRecDepth 20000 in
theorem or_hex : ∀ h, h < 16 → ∀ l, l < 16 → bits .or .i64 ((h : Nat) * 16 : Int) (l : Nat) % 256 = ((h * 16 + l : Nat) : Int) := by decide +kernel
set_option maxHeartbeats 1000000 in
set_option maxRecDepth 20000 in
theorem firstByte_any (s : ByteArray) (w : World) (hs : 0 < s.size) (hm : s.size ≤ maxLen) :
    Calls Tryz.prog 55 #[.string s] w fun e w' => e = .returned (.tuple #[.int .u8 (fbL (bl s)).1, .int .i64 (fbL (bl s)).2]) ∧ Below w.heap.size w w' := by
  have hm' := hm
  unfold maxLen at hm
  have h0 : (0 : Int) < (s.size : Int) := by omega
  cases hp : pl s[0].toNat
  · by_cases h4 : s.size < 4
    · have HF : Hid (fbL (bl s) = (0, 0)) := fb_short s hs hp h4
      go_enter Tryz.func55, Tryz.ntmps55
      go_wp2_with (first | (go_at_call 70; refine (plain_any _ _).mono ?_; rintro e w' ⟨rfl, rfl⟩))
      go_ret2
      rw [HF.out]
      exact ⟨rfl, Below.refl _ _⟩
    · cases he : escB s
      · have HF : Hid (fbL (bl s) = (0, 0)) := fb_noesc s (by omega) hp he
        go_enter Tryz.func55, Tryz.ntmps55
        go_wp2_with (first | (go_at_call 70; refine (plain_any _ _).mono ?_; rintro e w' ⟨rfl, rfl⟩) | (go_at_call 21; refine (HasPrefix_esc _ _ (by omega) hm').mono ?_; rintro e w' ⟨rfl, rfl⟩))
        go_ret2
        rw [HF.out]
        exact ⟨rfl, Below.refl _ _⟩
      · have h5 : 4 ≤ s.size := by omega
        have HF : Hid (fbL (bl s) = if hexI s[2].toNat < 0 ∨ hexI s[3].toNat < 0 then (0, 0) else if pl ((hexI s[2].toNat).toNat * 16 + (hexI s[3].toNat).toNat) then (0, 0) else ((hexI s[2].toNat).toNat * 16 + (hexI s[3].toNat).toNat, 4)) := fb_esc s h5 hp he
        have h2 : (2 : Int) < (s.size : Int) := by omega
        have h3 : (3 : Int) < (s.size : Int) := by omega
        obtain ⟨h, hh⟩ : ∃ h, h = hexI s[2].toNat := ⟨_, rfl⟩
        obtain ⟨l, hl⟩ : ∃ l, l = hexI s[3].toNat := ⟨_, rfl⟩
        have i1 := IndexByte_digs s[2]
        have i2 := IndexByte_digs s[3]
        have b1 := hexI_bd s[2].toNat
        have b2 := hexI_bd s[3].toNat
        have hf := HF.out
        rw [← hh] at i1 b1 hf
        rw [← hl] at i2 b2 hf
        have I1 : Hid (∀ w, Calls Tryz.prog 35 #[.string digs, .int .u8 s[2].toNat] w fun e w' => e = .returned (.int .i64 h) ∧ w = w') := i1
        have I2 : Hid (∀ w, Calls Tryz.prog 35 #[.string digs, .int .u8 s[3].toNat] w fun e w' => e = .returned (.int .i64 l) ∧ w = w') := i2
        have HF2 : Hid (fbL (bl s) = if h < 0 ∨ l < 0 then (0, 0) else if pl (h.toNat * 16 + l.toNat) then (0, 0) else (h.toNat * 16 + l.toNat, 4)) := hf
        clear i1 i2 hf HF hh hl
        by_cases hn : h < 0
        · have HF3 : Hid (fbL (bl s) = (0, 0)) := by show _ = _; rw [HF2.out, if_pos (Or.inl hn)]
          clear HF2
          go_enter Tryz.func55, Tryz.ntmps55
          go_wp2_with (first | (go_at_call 70; refine (plain_any _ _).mono ?_; rintro e w' ⟨rfl, rfl⟩) | (go_at_call 21; refine (HasPrefix_esc _ _ h5 hm').mono ?_; rintro e w' ⟨rfl, rfl⟩))
          refine (I1.out _).mono ?_
          rintro e w' ⟨rfl, rfl⟩
          go_wp2_with fail
          refine (I2.out _).mono ?_
          rintro e w' ⟨rfl, rfl⟩
          go_wp2
          go_ret2
          rw [HF3.out]
          exact ⟨rfl, Below.refl _ _⟩
        · by_cases ln : l < 0
          · have HF3 : Hid (fbL (bl s) = (0, 0)) := by show _ = _; rw [HF2.out, if_pos (Or.inr ln)]
            clear HF2
            go_enter Tryz.func55, Tryz.ntmps55
            go_wp2_with (first | (go_at_call 70; refine (plain_any _ _).mono ?_; rintro e w' ⟨rfl, rfl⟩) | (go_at_call 21; refine (HasPrefix_esc _ _ h5 hm').mono ?_; rintro e w' ⟨rfl, rfl⟩))
            refine (I1.out _).mono ?_
            rintro e w' ⟨rfl, rfl⟩
            go_wp2_with fail
            refine (I2.out _).mono ?_
            rintro e w' ⟨rfl, rfl⟩
            go_wp2
            go_ret2
            rw [HF3.out]
            exact ⟨rfl, Below.refl _ _⟩
          · obtain ⟨x, rfl⟩ := Int.eq_ofNat_of_zero_le (show 0 ≤ h by omega)
            obtain ⟨y, rfl⟩ := Int.eq_ofNat_of_zero_le (show 0 ≤ l by omega)
            have ho := or_hex x (by omega) y (by omega)
            have HF3 : Hid (fbL (bl s) = if pl (x * 16 + y) then (0, 0) else (x * 16 + y, 4)) := by show _ = _; rw [HF2.out, if_neg (by omega)]; rfl
            obtain ⟨v, hv⟩ : ∃ v : Nat, v = x * 16 + y := ⟨_, rfl⟩
            rw [← hv] at ho
            have HF4 : Hid (fbL (bl s) = if pl v then (0, 0) else (v, 4)) := by have := HF3.out; rw [← hv] at this; exact this
            clear HF2 HF3 hv
            cases hpv : pl v
            · have HF5 : Hid (fbL (bl s) = (v, 4)) := by show _ = _; rw [HF4.out, hpv]; rfl
              clear HF4
              go_enter Tryz.func55, Tryz.ntmps55
              go_wp2_with (first | (go_at_call 70; refine (plain_any _ _).mono ?_; rintro e w' ⟨rfl, rfl⟩) | (go_at_call 21; refine (HasPrefix_esc _ _ h5 hm').mono ?_; rintro e w' ⟨rfl, rfl⟩))
              refine (I1.out _).mono ?_
              rintro e w' ⟨rfl, rfl⟩
              go_wp2_with fail
              refine (I2.out _).mono ?_
              rintro e w' ⟨rfl, rfl⟩
              go_wp2_with (first | (go_at_call 70; refine (plain_any _ _).mono ?_; rintro e w' ⟨rfl, rfl⟩))
              go_ret2
              rw [HF5.out]
              exact ⟨rfl, Below.refl _ _⟩
            · have HF5 : Hid (fbL (bl s) = (0, 0)) := by show _ = _; rw [HF4.out, hpv]; rfl
              clear HF4
              go_enter Tryz.func55, Tryz.ntmps55
              go_wp2_with (first | (go_at_call 70; refine (plain_any _ _).mono ?_; rintro e w' ⟨rfl, rfl⟩) | (go_at_call 21; refine (HasPrefix_esc _ _ h5 hm').mono ?_; rintro e w' ⟨rfl, rfl⟩))
              refine (I1.out _).mono ?_
              rintro e w' ⟨rfl, rfl⟩
              go_wp2_with fail
              refine (I2.out _).mono ?_
              rintro e w' ⟨rfl, rfl⟩
              go_wp2_with (first | (go_at_call 70; refine (plain_any _ _).mono ?_; rintro e w' ⟨rfl, rfl⟩))
              go_ret2
              rw [HF5.out]
              exact ⟨rfl, Below.refl _ _⟩
  · have HF : Hid (fbL (bl s) = (s[0].toNat, 1)) := fb_plain s hs hp
    go_enter Tryz.func55, Tryz.ntmps55
    go_wp2_with (first | (go_at_call 70; refine (plain_any _ _).mono ?_; rintro e w' ⟨rfl, rfl⟩))
    go_ret2
    rw [HF.out]
    exact ⟨rfl, Below.refl _ _⟩
set_option maxRecDepth 20000 in
theorem fb_le (l : List Nat) (h : l ≠ []) : (fbL l).2 ≤ l.length := by
  have h0 : 0 < l.length := List.length_pos_iff.2 h
  unfold fbL
  split
  · show 1 ≤ l.length; omega
  · split
    · exact Nat.zero_le _
    · rename_i hh
      split
      · exact Nat.zero_le _
      · split
        · exact Nat.zero_le _
        · show 4 ≤ l.length; omega
set_option maxRecDepth 20000 in
theorem fb_lt (l : List Nat) (hl : ∀ a ∈ l, a < 256) : (fbL l).1 < 256 := by
  have h0 : l.getD 0 0 < 256 := by
    cases l with
    | nil => decide
    | cons a l => exact hl a (by simp)
  unfold fbL
  split
  · exact h0
  · split
    · decide
    · split
      · decide
      · split
        · decide
        · have b1 := hexI_bd (l.getD 2 0)
          have b2 := hexI_bd (l.getD 3 0)
          show (hexI (l.getD 2 0)).toNat * 16 + (hexI (l.getD 3 0)).toNat < 256
          omega
/-- The bytes that the inside of a quote tells; none: it is no inside. -/
def unqL (l : List Nat) : Option (List Nat) :=
  if _h : l = [] then some [] else if _h2 : (fbL l).2 = 0 then none else (unqL (l.drop (fbL l).2)).map ((fbL l).1 :: ·)
  termination_by l.length
  decreasing_by
    have h0 : 0 < l.length := List.length_pos_iff.2 _h
    rw [List.length_drop]; omega
set_option maxRecDepth 20000 in
theorem unq_nil : unqL [] = some [] := by rw [unqL]; simp
set_option maxRecDepth 20000 in
theorem unq_none {l : List Nat} (h : l ≠ []) (h2 : (fbL l).2 = 0) : unqL l = none := by rw [unqL]; simp [h, h2]
set_option maxRecDepth 20000 in
theorem unq_some {l : List Nat} (h : l ≠ []) (h2 : (fbL l).2 ≠ 0) : unqL l = (unqL (l.drop (fbL l).2)).map ((fbL l).1 :: ·) := by
  conv => lhs; rw [unqL]
  simp [h, h2]
/-- What Unquote gives. -/
def unquoteB (s : ByteArray) : Bool := decide (2 ≤ s.size) && ((bl s).getD 0 0 == 34 && (bl s).getD (s.size - 1) 0 == 34)
def unquoteT (s : ByteArray) : Value :=
  if unquoteB s then (match unqL (bl (s.extract 1 (s.size - 1))) with | some l => .tuple #[.string (str l), .int .i64 0] | none => .tuple #[.string ⟨#[]⟩, .int .i64 6])
  else .tuple #[.string ⟨#[]⟩, .int .i64 6]
def strLen : Value → Nat
  | .string t => t.size
  | _ => 0
set_option maxRecDepth 20000 in
theorem bl_drop (t : ByteArray) (k : Nat) : bl (t.extract k t.size) = (bl t).drop k := by
  unfold bl; rw [Lib.extract_to_end, List.map_drop]
set_option maxRecDepth 20000 in
theorem bl_ne {t : ByteArray} (h : 0 < t.size) : bl t ≠ [] := by
  intro e; have := bl_len t; rw [e] at this; simp at this; omega
set_option maxHeartbeats 2000000 in
set_option maxRecDepth 20000 in
theorem Unquote_any (s : ByteArray) (w : World) (hs : s.size ≤ 20000) :
    Calls Tryz.prog 36 #[.string s] w fun e w' => e = .returned (unquoteT s) ∧ Below w.heap.size w w' := by
  obtain ⟨i0, hi, hz0, hz1, hz2⟩ := info_parts info5
  cases hb : unquoteB s
  · have HU : Hid (unquoteT s = .tuple #[.string ⟨#[]⟩, .int .i64 6]) := by show _ = _; unfold unquoteT; rw [hb]; rfl
    unfold unquoteB at hb
    by_cases h2 : 2 ≤ s.size
    · rw [bl_getD s 0 (by omega), bl_getD s (s.size - 1) (by omega), decide_eq_true h2, Bool.true_and] at hb
      by_cases h3 : s[0].toNat = 34
      · have h4 : ¬ s[s.size - 1].toNat = 34 := by intro h; rw [h3, h] at hb; exact absurd hb (by decide)
        have e3 : (s[0].toNat : Int) = 34 := by omega
        have e4 : ((s[s.size - 1].toNat : Int) != 34) = true := by simp; omega
        clear hb h3 h4
        go_enter Tryz.func36, Tryz.ntmps36
        go_wp2
        go_ret2
        exact ⟨by rw [HU.out]; rfl, Below.refl _ _⟩
      · have e3 : ((s[0].toNat : Int) != 34) = true := by simp; omega
        clear hb h3
        go_enter Tryz.func36, Tryz.ntmps36
        go_wp2
        go_ret2
        exact ⟨by rw [HU.out]; rfl, Below.refl _ _⟩
    · clear hb
      go_enter Tryz.func36, Tryz.ntmps36
      go_wp2
      go_ret2
      exact ⟨by rw [HU.out]; rfl, Below.refl _ _⟩
  · have hb' := hb
    unfold unquoteB at hb
    simp only [Bool.and_eq_true, decide_eq_true_eq, beq_iff_eq] at hb
    obtain ⟨h2, h3, h4⟩ := hb
    rw [bl_getD s 0 (by omega)] at h3
    rw [bl_getD s (s.size - 1) (by omega)] at h4
    have e3 : (s[0].toNat : Int) = 34 := by omega
    have e4 : (s[s.size - 1].toNat : Int) = 34 := by omega
    clear h3 h4
    have HU : Hid (unquoteT s = match unqL (bl (s.extract 1 (s.size - 1))) with | some l => .tuple #[.string (str l), .int .i64 0] | none => .tuple #[.string ⟨#[]⟩, .int .i64 6]) := by
      show _ = _; unfold unquoteT; rw [hb']; rfl
    clear hb'
    go_enter Tryz.func36, Tryz.ntmps36
    go_wp2_with (first | (at_make; refine wpList_make_own _ rfl _ _ 73 rfl w.heap.size 5 i0 (.int .u8 0) 1 Tryz.underlying73 hi hz0 hz1 .i64 .i64 _ (s.size - 1 - 1) rfl rfl ?_ ?_ ?_ ?_ ?_))
    · rfl
    · rw [hz2]; omega
    · unfold maxLen; omega
    · exact Nat.le_refl _
    intro w1 hown1 hgrow1
    have HB1 : Hid (Below w.heap.size w w1) := (Below.refl _ _).grown hgrow1 (Nat.le_refl _) (fun k hk => by cases hk)
    have HO1 : Hid (w1.ownsRow w.heap.size 5 1 (.slice (some ⟨w.heap.size, 0, none⟩) 0 (s.size - 1 - 1)) 0 (bc [])) := hown1
    clear hown1 hgrow1
    have hIs : (s.extract 1 (s.size - 1)).size ≤ 20000 := by rw [ByteArray.size_extract]; omega
    generalize hI : s.extract 1 (s.size - 1) = I at HU hIs ⊢
    have HI : Hid (s.extract 1 (s.size - 1) = I) := hI
    clear hI
    generalize hB : w.heap.size = B at HB1 HO1 ⊢
    go_wp2_with fail
    go_loopw [4, 5, 6, 7] (fun r q _ _ wr => ∃ (t : ByteArray) (acc : List Nat) (n g cap : Nat), r = .string t ∧ q = .slice (some ⟨g, 0, none⟩) n cap ∧ n + t.size ≤ 20000 ∧ Hid (wr.ownsRow B 5 1 (.slice (some ⟨g, 0, none⟩) n cap) n (bc acc)) ∧ Hid (Below B w wr) ∧ Hid (unqL (bl I) = (unqL (bl t)).map (acc ++ ·))) (fun r _ _ _ _ => strLen r)
    case atStart => exact ⟨I, [], 0, B, _, rfl, rfl, by omega, HO1.out, HB1.out, by show _ = _; cases unqL (bl I) <;> rfl⟩
    case round =>
      clear HO1 HB1
      obtain ⟨t, acc, n, g, cap, rfl, rfl, hn, HO, HB, HQ⟩ := hrel
      have hbr : B ≤ wr.heap.size := by have := HB.out.size; omega
      by_cases h0 : 0 < t.size
      · have hne : t.toList.isEmpty = false := by
          rw [ByteArray.toList_eq, Bool.eq_false_iff]; intro e
          rw [List.isEmpty_iff] at e
          have hz : t.size = 0 := by show t.data.toList.length = 0; rw [e]; rfl
          omega
        have htm : t.size ≤ maxLen := by unfold maxLen; omega
        obtain ⟨v, hv⟩ : ∃ v, v = (fbL (bl t)).1 := ⟨_, rfl⟩
        obtain ⟨k, hk⟩ : ∃ k, k = (fbL (bl t)).2 := ⟨_, rfl⟩
        have f1 := firstByte_any t
        rw [← hv, ← hk] at f1
        have F1 : Hid (∀ w, 0 < t.size → t.size ≤ maxLen → Calls Tryz.prog 55 #[.string t] w fun e w' => e = .returned (.tuple #[.int .u8 (v : Int), .int .i64 (k : Int)]) ∧ Below w.heap.size w w') := f1
        have hkt : k ≤ t.size := by rw [hk, ← bl_len]; exact fb_le _ (bl_ne h0)
        have hvl : v < 256 := by rw [hv]; exact fb_lt _ (bl_lt t)
        have HVK : Hid (v = (fbL (bl t)).1 ∧ k = (fbL (bl t)).2) := ⟨hv, hk⟩
        clear f1 hv hk
        by_cases hk0 : k = 0
        · subst hk0
          have HF : Hid (unquoteT s = .tuple #[.string ⟨#[]⟩, .int .i64 6]) := by
            show _ = _
            rw [HU.out, HQ.out, unq_none (bl_ne h0) HVK.out.2.symm]; rfl
          go_wp2_with (first | (go_at_call 55; refine (F1.out _ h0 htm).mono ?_; rintro e w2 ⟨rfl, hb2⟩))
          go_ret2
          exact ⟨by rw [HF.out]; rfl, by rw [hB]; exact HB.out.trans (hb2.mono hbr)⟩
        · have HQ' : Hid (unqL (bl I) = (unqL (bl (t.extract k t.size))).map ((acc ++ [v]) ++ ·)) := by
            show _ = _
            rw [HQ.out, bl_drop, unq_some (bl_ne h0) (by rw [← HVK.out.2]; exact hk0), ← HVK.out.1, ← HVK.out.2, Option.map_map]
            congr 1
            funext x; simp
          have k1 : (0 : Int) ≤ (k : Int) := by omega
          have k2 : (k : Int) ≤ (t.size : Int) := by omega
          have hk0' : ((k : Int) == 0) = false := by simp; omega
          go_wp2_with fail
          refine (F1.out _ h0 htm).mono ?_
          rintro e w2 ⟨rfl, hb2⟩
          have HO2 : Hid (w2.ownsRow B 5 1 (.slice (some ⟨g, 0, none⟩) n cap) n (bc acc)) := HO.out.kept (grown_of_below hb2) (Or.inr (by simp [Value.ownBlock]))
          have HB2 : Hid (Below B w w2) := HB.out.trans (hb2.mono hbr)
          have hb2' : B ≤ w2.heap.size := Nat.le_trans hbr hb2.size
          clear hb2 HO HB
          go_wp2_with (first | (at_builtin; refine wpList_append_lies _ rfl _ _ 73 rfl B 5 i0 (.int .u8 0) 1 1 Tryz.underlying73 hi hz0 hz1 hz2 rfl (by decide) _ n (bc acc) rfl (HO2.out.alloc _) ⟨w2.heap.size, 0, none⟩ 1 1 [.int .u8 v] rfl rfl ?_ ?_ (by decide) ?_ ?_ ?_ (w2.heap.size + 1) ?_ ?_))
          · exact World.news_of_block (cs := #[.int .u8 v]) (t := 5) (fr := (0, 0)) (heap_alloc_new w2 _)
          · exact bc_one [v]
          · unfold maxLen; omega
          · omega
          · simp; omega
          · simp
          intro g4 cap4 w4 hown4 hgrow4 _ _
          have HB4 : Hid (Below B w w4) := HB2.out.trans (((Below.refl _ _).alloc hb2' _).trans (below_own hgrow4 (HO2.out.alloc _) (by simp; omega)))
          have HO4 : Hid (w4.ownsRow B 5 1 (.slice (some ⟨g4, 0, none⟩) (n + 1) cap4) (n + 1) (bc (acc ++ [v]))) := by
            show World.ownsRow _ _ _ _ _ _ _; rw [bc_append]; exact hown4
          clear hown4 hgrow4 HO2 HB2
          go_wp2
          go_roundw
          case rel => exact ⟨t.extract k t.size, acc ++ [v], n + 1, g4, cap4, rfl, rfl, by rw [ByteArray.size_extract]; omega, HO4.out, HB4.out, HQ'.out⟩
          case measure => simp only [strLen, ByteArray.size_extract]; omega
      · have hz : t.size = 0 := by omega
        have het : t = ⟨#[]⟩ := by
          apply Go.WideShapes.bytes_inj
          have : t.data.toList.length = 0 := hz
          exact List.eq_nil_of_length_eq_zero this
        subst het
        have HF : Hid (unquoteT s = .tuple #[.string (str acc), .int .i64 0]) := by
          show _ = _
          rw [HU.out, HQ.out, show bl ⟨#[]⟩ = [] from rfl, unq_nil]; simp
        have hcv := conv_own HO.out
        go_wp2
        go_ret2
        exact ⟨by rw [HF.out]; rfl, by rw [hB]; exact HB.out⟩
end Go.Proofs.YtidokamfppdnaaaGreatDoor.Tx
