/- Small functions of package text and of the document's answer: errors' numbers, Mix, plain bytes, Hash. -/
import Derived.Test.YtinhfgpcgbnhdaaRows
import Derived.WalkKit
import Derived.WalkSpells
import Derived.WalkLawsBesides
import Derived.Laws.BitsAllLaws
namespace Go.Proofs.Ytinhfgpcgbnhdaa
open Go.RowKit

set_option maxHeartbeats 400000 in
theorem no_any (n : Int) (w : World) :
    Calls Try.prog 23 #[.int .i64 n] w fun e w' => e = .returned (.int .i64 n) ∧ w = w' := by
  go_enter Try.func23, Try.ntmps23
  go_wp2
  go_ret
  exact ⟨rfl, rfl⟩

/-- The sum of which Mix takes the two halves. -/
def mixX (t n : Int) : Int := IntKind.u64.wrap (IntKind.u64.wrap (IntKind.u64.wrap n * 11400714819323198485) + IntKind.u64.wrap t)
/-- The answer of Mix. -/
def mixV (t n : Int) : Int := bits .xor .u32 (mixX t n / 4294967296 % 4294967296) (mixX t n % 4294967296)

set_option maxHeartbeats 400000 in
theorem Mix_any (t n : Int) (w : World) :
    Calls Try.prog 14 #[.int .i64 t, .int .i64 n] w fun e w' => e = .returned (.int .u32 (mixV t n)) ∧ w = w' := by
  go_enter Try.func14, Try.ntmps14
  go_wp2
  go_ret
  exact ⟨rfl, rfl⟩

theorem mask32 (x : Int) (h1 : 0 ≤ x) (h2 : x < 18446744073709551616) : bits .and .u64 x 4294967295 % 4294967296 = x % 4294967296 := by
  rw [u64_and x 4294967295 h1 h2 (by decide) (by decide)]
  have e : x.toNat &&& (4294967295 : Int).toNat = x.toNat % 4294967296 := Nat.and_two_pow_sub_one_eq_mod x.toNat 32
  rw [e]; omega

theorem mixX_bd (t n : Int) : 0 ≤ mixX t n ∧ mixX t n < 18446744073709551616 := by
  unfold mixX; rw [IntKind.wrap_u64]; omega

set_option maxHeartbeats 400000 in
theorem RMix_any (t n : Int) (w : World) :
    Calls Try.prog 15 #[.int .i64 t, .int .i64 n] w fun e w' => e = .returned (.int .u32 (mixV t n)) ∧ w = w' := by
  go_enter Try.func15, Try.ntmps15
  go_wp2
  go_ret
  refine ⟨?_, rfl⟩
  unfold mixV
  rw [← mask32 (mixX t n) (mixX_bd t n).1 (mixX_bd t n).2]
  rfl

/-- Does a byte stand for itself? -/
def pl (c : Nat) : Bool := decide (32 ≤ c) && decide (c ≤ 126) && c != 34 && c != 92

theorem pl_false1 {c : Nat} (h : c < 32 ∨ 126 < c ∨ c = 34 ∨ c = 92) : pl c = false := by
  unfold pl; rw [Bool.eq_false_iff]; intro e
  simp only [Bool.and_eq_true, decide_eq_true_eq, bne_iff_ne, ne_eq] at e
  omega
theorem pl_true1 {c : Nat} (h1 : 32 ≤ c) (h2 : c ≤ 126) (h3 : c ≠ 34) (h4 : c ≠ 92) : pl c = true := by
  unfold pl
  simp only [Bool.and_eq_true, decide_eq_true_eq, bne_iff_ne, ne_eq]
  exact ⟨⟨⟨h1, h2⟩, h3⟩, h4⟩

theorem pl_cases (c : Nat) : (c < 32 ∧ pl c = false) ∨ (126 < c ∧ 32 ≤ c ∧ pl c = false) ∨ (c = 34 ∧ pl c = false) ∨ (c = 92 ∧ pl c = false) ∨ (32 ≤ c ∧ c ≤ 126 ∧ c ≠ 34 ∧ c ≠ 92 ∧ pl c = true) := by
  by_cases h1 : c < 32
  · exact Or.inl ⟨h1, pl_false1 (Or.inl h1)⟩
  · by_cases h2 : 126 < c
    · exact Or.inr (Or.inl ⟨h2, by omega, pl_false1 (Or.inr (Or.inl h2))⟩)
    · by_cases h3 : c = 34
      · exact Or.inr (Or.inr (Or.inl ⟨h3, pl_false1 (Or.inr (Or.inr (Or.inl h3)))⟩))
      · by_cases h4 : c = 92
        · exact Or.inr (Or.inr (Or.inr (Or.inl ⟨h4, pl_false1 (Or.inr (Or.inr (Or.inr h4)))⟩)))
        · exact Or.inr (Or.inr (Or.inr (Or.inr ⟨by omega, by omega, h3, h4, pl_true1 (by omega) (by omega) h3 h4⟩)))

set_option maxHeartbeats 400000 in
theorem plain_any (c : Nat) (w : World) :
    Calls Try.prog 34 #[.int .u8 c] w fun e w' => e = .returned (.bool (pl c)) ∧ w = w' := by
  rcases pl_cases c with ⟨h, hp⟩ | ⟨h, h', hp⟩ | ⟨h, hp⟩ | ⟨h, hp⟩ | ⟨h1, h2, h3, h4, hp⟩
  · rw [hp]; clear hp
    go_enter Try.func34, Try.ntmps34
    go_wp2
    go_ret
    exact ⟨rfl, rfl⟩
  · rw [hp]; clear hp
    go_enter Try.func34, Try.ntmps34
    go_wp2
    go_ret
    exact ⟨rfl, rfl⟩
  · rw [hp]; clear hp; subst h
    go_enter Try.func34, Try.ntmps34
    go_wp2
    go_ret
    exact ⟨rfl, rfl⟩
  · rw [hp]; clear hp; subst h
    go_enter Try.func34, Try.ntmps34
    go_wp2
    go_ret
    exact ⟨rfl, rfl⟩
  · rw [hp]; clear hp
    have e3 : ((c : Int) != 34) = true := by simp; omega
    have e4 : ((c : Int) != 92) = true := by simp; omega
    clear h3 h4
    go_enter Try.func34, Try.ntmps34
    go_wp2
    go_ret
    exact ⟨rfl, rfl⟩

set_option maxHeartbeats 400000 in
theorem RPlain_any (c : Nat) (w : World) :
    Calls Try.prog 35 #[.int .u8 c] w fun e w' => e = .returned (.bool (pl c)) ∧ w = w' := by
  rcases pl_cases c with ⟨h, hp⟩ | ⟨h, h', hp⟩ | ⟨h, hp⟩ | ⟨h, hp⟩ | ⟨h1, h2, h3, h4, hp⟩
  · rw [hp]; clear hp
    go_enter Try.func35, Try.ntmps35
    go_wp2
    go_ret
    exact ⟨rfl, rfl⟩
  · rw [hp]; clear hp
    go_enter Try.func35, Try.ntmps35
    go_wp2
    go_ret
    exact ⟨rfl, rfl⟩
  · rw [hp]; clear hp; subst h
    go_enter Try.func35, Try.ntmps35
    go_wp2
    go_ret
    exact ⟨rfl, rfl⟩
  · rw [hp]; clear hp; subst h
    go_enter Try.func35, Try.ntmps35
    go_wp2
    go_ret
    exact ⟨rfl, rfl⟩
  · rw [hp]; clear hp
    have e3 : ((c : Int) != 34) = true := by simp; omega
    have e4 : ((c : Int) != 92) = true := by simp; omega
    clear h3 h4
    go_enter Try.func35, Try.ntmps35
    go_wp2
    go_ret
    exact ⟨rfl, rfl⟩

/-- One byte more of a hash. -/
def hstep (h : Int) (c : UInt8) : Int := bits .xor .u32 h ((c.toNat : Int) % 4294967296) * 16777619 % 4294967296
/-- The hash of bytes. -/
def hashL (l : List UInt8) : Int := l.foldl hstep 2166136261

theorem take_snoc (s : ByteArray) (k : Nat) (h : k < s.size) : s.data.toList.take (k + 1) = s.data.toList.take k ++ [s[k]] := by
  rw [List.take_succ_eq_append_getElem (by simpa using h)]; rfl
theorem hash_snoc (s : ByteArray) (k : Nat) (h : k < s.size) : hashL (s.data.toList.take (k + 1)) = hstep (hashL (s.data.toList.take k)) s[k] := by
  rw [take_snoc s k h]; simp [hashL]

set_option maxHeartbeats 1000000 in
theorem Hash_any (s : ByteArray) (w : World) (hs : s.size ≤ maxLen) :
    Calls Try.prog 12 #[.string s] w fun e w' => e = .returned (.int .u32 (hashL s.data.toList)) ∧ w = w' := by
  unfold maxLen at hs
  go_enter Try.func12, Try.ntmps12
  go_wp2_with fail
  go_loop [3, 4, 7] (fun h _ i => ∃ k : Nat, k ≤ s.size ∧ i = .int .i64 k ∧ ∃ x, Hid (x = hashL (s.data.toList.take k)) ∧ h = .int .u32 x) (fun _ _ i => s.size - (intOf i).toNat)
  case atStart => exact ⟨0, Nat.zero_le _, rfl, _, rfl, rfl⟩
  case round =>
    obtain ⟨k, hk, rfl, x, hx, rfl⟩ := hrel
    by_cases hlt : k < s.size
    · have HS : Hid (hashL (s.data.toList.take (k + 1)) = hstep x s[k]) := by show _ = _; rw [hash_snoc s k hlt, hx.out]
      clear hx
      go_wp2
      go_round
      case rel =>
        refine ⟨k + 1, by omega, by go_num, _, HS.out.symm, ?_⟩
        rfl
      case measure => simp [intOf]; omega
    · have he : k = s.size := by omega
      subst he
      have HA : Hid (x = hashL s.data.toList) := by show _ = _; rw [hx.out, List.take_of_length_le (by simp)]
      clear hx
      go_wp2
      go_ret
      exact ⟨by rw [HA.out]; rfl, rfl⟩

set_option maxHeartbeats 1000000 in
theorem RHash_any (s : ByteArray) (w : World) (hs : s.size ≤ maxLen) :
    Calls Try.prog 13 #[.string s] w fun e w' => e = .returned (.int .u32 (hashL s.data.toList)) ∧ w = w' := by
  unfold maxLen at hs
  go_enter Try.func13, Try.ntmps13
  go_wp2_with fail
  go_loop [3, 4] (fun h i => ∃ k : Nat, k ≤ s.size ∧ i = .int .i64 k ∧ ∃ x, Hid (x = hashL (s.data.toList.take k)) ∧ h = .int .u32 x) (fun _ i => s.size - (intOf i).toNat)
  case atStart => exact ⟨0, Nat.zero_le _, rfl, _, rfl, rfl⟩
  case round =>
    obtain ⟨k, hk, rfl, x, hx, rfl⟩ := hrel
    by_cases hlt : k < s.size
    · have HS : Hid (hashL (s.data.toList.take (k + 1)) = hstep x s[k]) := by show _ = _; rw [hash_snoc s k hlt, hx.out]
      clear hx
      go_wp2
      go_round
      case rel =>
        refine ⟨k + 1, by omega, by go_num, _, HS.out.symm, ?_⟩
        rfl
      case measure => simp [intOf]; omega
    · have he : k = s.size := by omega
      subst he
      have HA : Hid (x = hashL s.data.toList) := by show _ = _; rw [hx.out, List.take_of_length_le (by simp)]
      clear hx
      go_wp2
      go_ret
      exact ⟨by rw [HA.out]; rfl, rfl⟩
end Go.Proofs.Ytinhfgpcgbnhdaa
