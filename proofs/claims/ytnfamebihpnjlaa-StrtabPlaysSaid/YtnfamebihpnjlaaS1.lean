/- Small functions of package strtab: hashes, buckets, made, Len, Buckets. -/
import Derived.Test.YtnfamebihpnjlaaS0

namespace Go.Proofs.Ytnfamebihpnjlaa
open Go.RowKit
set_option linter.unusedSimpArgs false
set_option linter.unusedVariables false

set_option maxHeartbeats 400000 in
theorem no_any (n : Int) (w : World) :
    Calls Try.prog 28 #[.int .i64 n] w fun e w' => e = .returned (.int .i64 n) ∧ w = w' := by
  go_enter Try.func28, Try.ntmps28
  go_wp2
  go_ret
  exact ⟨rfl, rfl⟩

/-- One byte more of a hash. -/
def hstep (h : Int) (c : UInt8) : Int := bits .xor .u32 h ((c.toNat : Int) % 4294967296) * 16777619 % 4294967296
/-- The hash of bytes. -/
def hashL (l : List UInt8) : Int := l.foldl hstep 2166136261

theorem take_snoc (s : ByteArray) (k : Nat) (h : k < s.size) : s.data.toList.take (k + 1) = s.data.toList.take k ++ [s[k]] := by
  rw [List.take_succ_eq_append_getElem (by simpa using h)]; rfl
theorem hash_snoc (s : ByteArray) (k : Nat) (h : k < s.size) : hashL (s.data.toList.take (k + 1)) = hstep (hashL (s.data.toList.take k)) s[k] := by
  rw [take_snoc s k h]; simp [hashL]

set_option maxHeartbeats 1000000 in
theorem Hash_any (s : ByteArray) (w : World) (hs : s.size ≤ maxLen) :
    Calls Try.prog 25 #[.string s] w fun e w' => e = .returned (.int .u32 (hashL s.data.toList)) ∧ w = w' := by
  unfold maxLen at hs
  go_enter Try.func25, Try.ntmps25
  go_wp2_with fail
  go_loop [3, 4, 7] (fun h _ i => ∃ k : Nat, k ≤ s.size ∧ i = .int .i64 k ∧ ∃ x, Hid (x = hashL (s.data.toList.take k)) ∧ h = .int .u32 x) (fun _ _ i => s.size - (intOf i).toNat)
  case atStart => exact ⟨0, Nat.zero_le _, rfl, _, rfl, rfl⟩
  case round =>
    obtain ⟨k, hk, rfl, x, hx, rfl⟩ := hrel
    by_cases hlt : k < s.size
    · have HS : Hid (hashL (s.data.toList.take (k + 1)) = hstep x s[k]) := by show _ = _; rw [hash_snoc s k hlt, hx.out]
      clear hx
      go_wp2
      go_round
      case rel =>
        refine ⟨k + 1, by omega, by go_num, _, HS.out.symm, ?_⟩
        rfl
      case measure => simp [intOf]; omega
    · have he : k = s.size := by omega
      subst he
      have HA : Hid (x = hashL s.data.toList) := by show _ = _; rw [hx.out, List.take_of_length_le (by simp)]
      clear hx
      go_wp2
      go_ret
      exact ⟨by rw [HA.out]; rfl, rfl⟩

set_option maxHeartbeats 1000000 in
theorem RHash_any (s : ByteArray) (w : World) (hs : s.size ≤ maxLen) :
    Calls Try.prog 37 #[.string s] w fun e w' => e = .returned (.int .u32 (hashL s.data.toList)) ∧ w = w' := by
  unfold maxLen at hs
  go_enter Try.func37, Try.ntmps37
  go_wp2_with fail
  go_loop [3, 4] (fun h i => ∃ k : Nat, k ≤ s.size ∧ i = .int .i64 k ∧ ∃ x, Hid (x = hashL (s.data.toList.take k)) ∧ h = .int .u32 x) (fun _ i => s.size - (intOf i).toNat)
  case atStart => exact ⟨0, Nat.zero_le _, rfl, _, rfl, rfl⟩
  case round =>
    obtain ⟨k, hk, rfl, x, hx, rfl⟩ := hrel
    by_cases hlt : k < s.size
    · have HS : Hid (hashL (s.data.toList.take (k + 1)) = hstep x s[k]) := by show _ = _; rw [hash_snoc s k hlt, hx.out]
      clear hx
      go_wp2
      go_round
      case rel =>
        refine ⟨k + 1, by omega, by go_num, _, HS.out.symm, ?_⟩
        rfl
      case measure => simp [intOf]; omega
    · have he : k = s.size := by omega
      subst he
      have HA : Hid (x = hashL s.data.toList) := by show _ = _; rw [hx.out, List.take_of_length_le (by simp)]
      clear hx
      go_wp2
      go_ret
      exact ⟨by rw [HA.out]; rfl, rfl⟩

theorem hash_bd (l : List UInt8) : 0 ≤ hashL l ∧ hashL l < 4294967296 := by
  have : ∀ (l : List UInt8) (x : Int), 0 ≤ x ∧ x < 4294967296 → 0 ≤ l.foldl hstep x ∧ l.foldl hstep x < 4294967296 := by
    intro l
    induction l with
    | nil => intro x h; exact h
    | cons c l ih =>
      intro x h
      refine ih _ ?_
      unfold hstep; omega
  exact this l _ (by decide)

/-- The bucket of a text. -/
def bk (s : ByteArray) (n : Nat) : Nat := (hashL s.data.toList).toNat % n
theorem bk_lt (s : ByteArray) {n : Nat} (h : 1 ≤ n) : bk s n < n := Nat.mod_lt _ h

set_option maxHeartbeats 400000 in
theorem bucket_any (s : ByteArray) (n : Nat) (w : World) (hs : s.size ≤ maxLen) (h1 : 1 ≤ n) (h2 : n ≤ 1000000) :
    Calls Try.prog 34 #[.string s, .int .i64 n] w fun e w' => e = .returned (.int .i64 (bk s n)) ∧ w = w' := by
  have HS : Hid (s.size ≤ maxLen) := hs
  obtain ⟨x, hx⟩ : ∃ x, Hid (x = hashL s.data.toList) := ⟨_, rfl⟩
  have hb : 0 ≤ x ∧ x < 4294967296 := by rw [hx.out]; exact hash_bd _
  obtain ⟨b1, b2⟩ := hb
  have u1 : IntKind.u32.wrap (n : Int) = (n : Int) := by rw [IntKind.wrap_u32]; omega
  have u2 : (n : Int) ≠ 0 := by omega
  clear hs
  go_enter Try.func34, Try.ntmps34
  go_wp2_with (go_at_call 25; refine (Hash_any _ _ HS.out).mono ?_; rintro e w' ⟨rfl, rfl⟩; rw [← hx.out])
  go_ret
  refine ⟨?_, rfl⟩
  unfold bk
  rw [← hx.out]
  have e1 : (0 : Int) ≤ x % n := Int.emod_nonneg _ u2
  have e2 : x % n < n := Int.emod_lt_of_pos _ (by omega)
  have e3 : wrap64 (x % n) = ((x.toNat % n : Nat) : Int) := by
    rw [Int.natCast_emod, Int.toNat_of_nonneg b1]
    unfold wrap64; omega
  exact congrArg (fun z => Ending.returned (Value.int .i64 z)) e3

set_option maxHeartbeats 400000 in
theorem made_nil (w : World) :
    Calls Try.prog 33 #[.pointer none] w fun e w' => e = .returned (.bool false) ∧ w = w' := by
  go_enter Try.func33, Try.ntmps33
  go_wp2
  go_ret
  exact ⟨rfl, rfl⟩

set_option maxRecDepth 100000 in
set_option maxHeartbeats 1000000 in
theorem made_any {A C n M p : Nat} (w : World) (h : w.heap[A]? = some (tb C n M p)) :
    Calls Try.prog 33 #[.pointer (some ⟨A, 0, none⟩)] w fun e w' => e = .returned (.bool true) ∧ w = w' := by
  obtain ⟨h0, h1, h2⟩ := tb_cells h
  clear h
  have q59 : ∀ (w : World) (r : Option Nat), (binOp .neq 59 (.map r) (.map none)).run Try.prog w = .ok (.bool (!r.isNone)) w := fun w r => run_neq_map_nil w 59 3 64 r Try.underlying59
  go_enter Try.func33, Try.ntmps33
  go_wp2
  go_ret
  exact ⟨rfl, rfl⟩

set_option maxHeartbeats 400000 in
theorem Len_nil (w : World) :
    Calls Try.prog 15 #[.pointer none] w fun e w' => e = .returned (.int .i64 0) ∧ w = w' := by
  go_enter Try.func15, Try.ntmps15
  go_wp2_with (go_at_call 33; refine (made_nil _).mono ?_; rintro e w' ⟨rfl, rfl⟩)
  go_ret
  exact ⟨rfl, rfl⟩
set_option maxHeartbeats 400000 in
theorem Buckets_nil (w : World) :
    Calls Try.prog 16 #[.pointer none] w fun e w' => e = .returned (.int .i64 0) ∧ w = w' := by
  go_enter Try.func16, Try.ntmps16
  go_wp2_with (go_at_call 33; refine (made_nil _).mono ?_; rintro e w' ⟨rfl, rfl⟩)
  go_ret
  exact ⟨rfl, rfl⟩
set_option maxHeartbeats 400000 in
theorem Find_nil (s : ByteArray) (w : World) :
    Calls Try.prog 17 #[.pointer none, .string s] w fun e w' => e = .returned (.tuple #[.int .i64 0, .bool false]) ∧ w = w' := by
  go_enter Try.func17, Try.ntmps17
  go_wp2_with (go_at_call 33; refine (made_nil _).mono ?_; rintro e w' ⟨rfl, rfl⟩)
  go_ret2
  exact ⟨rfl, rfl⟩
set_option maxHeartbeats 400000 in
theorem Text_nil (h : Int) (w : World) :
    Calls Try.prog 19 #[.pointer none, .int .i64 h] w fun e w' => e = .returned (.tuple #[.string ⟨#[]⟩, .bool false]) ∧ w = w' := by
  go_enter Try.func19, Try.ntmps19
  go_wp2_with (go_at_call 33; refine (made_nil _).mono ?_; rintro e w' ⟨rfl, rfl⟩)
  go_ret2
  exact ⟨rfl, rfl⟩
set_option maxHeartbeats 400000 in
theorem Put_nil (s : ByteArray) (h : Int) (w : World) :
    Calls Try.prog 27 #[.pointer none, .string s, .int .i64 h] w fun e w' => e = .returned (.int .i64 2) ∧ w = w' := by
  go_enter Try.func27, Try.ntmps27
  go_wp2_with (go_at_call 33; refine (made_nil _).mono ?_; rintro e w' ⟨rfl, rfl⟩)
  go_ret
  exact ⟨rfl, rfl⟩
set_option maxHeartbeats 400000 in
theorem Drop_nil (h : Int) (w : World) :
    Calls Try.prog 29 #[.pointer none, .int .i64 h] w fun e w' => e = .returned (.int .i64 2) ∧ w = w' := by
  go_enter Try.func29, Try.ntmps29
  go_wp2_with (go_at_call 33; refine (made_nil _).mono ?_; rintro e w' ⟨rfl, rfl⟩)
  go_ret
  exact ⟨rfl, rfl⟩
set_option maxHeartbeats 400000 in
theorem Chain_nil (h : Int) (w : World) :
    Calls Try.prog 22 #[.pointer none, .int .i64 h] w fun e w' => e = .returned (.slice none 0 0) ∧ w = w' := by
  rcases Int.lt_or_le h 0 with hlt | hge
  · go_enter Try.func22, Try.ntmps22
    go_wp2_with (go_at_call 16; refine (Buckets_nil _).mono ?_; rintro e w' ⟨rfl, rfl⟩)
    go_ret
    exact ⟨rfl, rfl⟩
  · go_enter Try.func22, Try.ntmps22
    go_wp2_with (go_at_call 16; refine (Buckets_nil _).mono ?_; rintro e w' ⟨rfl, rfl⟩)
    go_ret
    exact ⟨rfl, rfl⟩

set_option maxHeartbeats 400000 in
theorem Len_any {A C n M p nn c : Nat} {g : Int → Option (ByteArray × Nat)} (w : World) (h : w.heap[A]? = some (tb C n M p)) (hM : MapIs w M nn c g) :
    Calls Try.prog 15 #[.pointer (some ⟨A, 0, none⟩)] w fun e w' => e = .returned (.int .i64 c) ∧ w = w' := by
  have HA : Hid (w.heap[A]? = some (tb C n M p)) := h
  obtain ⟨h0, h1, h2⟩ := tb_cells h
  have hl := hM.len 3
  obtain ⟨D, HD⟩ : ∃ D, Hid (w.ownsMap Try.prog 3 iR M nn D ∧ DIs D c g) := hM
  have HC : Hid (Maps.size D = c) := HD.out.2.1
  clear h
  go_enter Try.func15, Try.ntmps15
  go_wp2_with (first | (go_at_call 33; refine (made_any _ HA.out).mono ?_; rintro e w' ⟨rfl, rfl⟩) | (at_builtin; refine wpList_len_own _ rfl _ 59 rfl 3 64 Try.underlying59 iR M nn D rfl HD.out.1 ?_; rw [HC.out]))
  go_ret
  exact ⟨rfl, rfl⟩
set_option maxHeartbeats 400000 in
theorem Buckets_any {A C n M p : Nat} (w : World) (h : w.heap[A]? = some (tb C n M p)) :
    Calls Try.prog 16 #[.pointer (some ⟨A, 0, none⟩)] w fun e w' => e = .returned (.int .i64 n) ∧ w = w' := by
  have HA : Hid (w.heap[A]? = some (tb C n M p)) := h
  obtain ⟨h0, h1, h2⟩ := tb_cells h
  clear h
  go_enter Try.func16, Try.ntmps16
  go_wp2_with (go_at_call 33; refine (made_any _ HA.out).mono ?_; rintro e w' ⟨rfl, rfl⟩)
  go_ret
  exact ⟨rfl, rfl⟩
end Go.Proofs.Ytnfamebihpnjlaa
