/- The chapter's example; StrtabNil. -/
import Derived.Test.YtnfamebihpnjlaaS9
namespace Go.Proofs.Ytnfamebihpnjlaa
open Go.RowKit
set_option linter.unusedSimpArgs false
set_option linter.unusedVariables false

/-- A table made since w0. -/
def Re (w0 w : World) (A n p : Nat) (L : List Ent) : Prop := ∃ C M vs, Rep w w0.heap.size A C M n p p vs L ∧ Kept No w0 w

theorem Re.kept {w0 w w' : World} {A n p : Nat} {L : List Ent} (h : Re w0 w A n p L) (hk : Kept No w w') : Re w0 w' A n p L := by
  obtain ⟨C, M, vs, h1, h2⟩ := h
  exact ⟨C, M, vs, h1.no hk, h2.trans hk⟩
theorem Re.new (w : World) : Calls Try.prog 9 #[] w fun e w' => ∃ A, e = .returned (.pointer (some ⟨A, 0, none⟩)) ∧ Re w w' A 4 0 [] :=
  (New_any w).mono fun e w' ⟨A, C, M, he, h1, h2⟩ => ⟨A, he, C, M, _, h1, h2⟩
theorem kept_fp {w0 w w' : World} {A C M n p : Nat} {vs : List Value} {L : List Ent} (h : Rep w w0.heap.size A C M n p p vs L) (h2 : Kept No w0 w) (hk : Kept (FP A C M vs) w w') : Kept No w0 w' :=
  h2.trans' hk (fun i hi => Or.inr (h.fp_lt hi).1)
theorem Re.put {w0 w : World} {A n p : Nat} {L : List Ent} (h : Re w0 w A n p L) (s : ByteArray) (hs : s.size ≤ maxLen) (x : Int) (hx : 1 ≤ x) (hx2 : x ≤ 9223372036854775807) (hh : hasB L s x = false) (hp : p + 1 ≤ 100000) (hr : L.length + 1 ≤ n) :
    Calls Try.prog 27 #[.pointer (some ⟨A, 0, none⟩), .string s, .int .i64 x] w fun e w' => e = .returned (.int .i64 0) ∧ Re w0 w' A n (p + 1) (L ++ [⟨x, s, p + 1⟩]) := by
  obtain ⟨C, M, vs, h1, h2⟩ := h
  refine (Put_front h1 s hs x hx hx2 hh hp hr).mono ?_
  rintro e w' ⟨he, vs', h3, h4, _⟩
  exact ⟨he, C, M, vs', h3, kept_fp h1 h2 h4⟩
theorem Re.there {w0 w : World} {A n p : Nat} {L : List Ent} (h : Re w0 w A n p L) (s : ByteArray) (hs : s.size ≤ maxLen) (x : Int) (hx : 1 ≤ x) (hx2 : x ≤ 9223372036854775807) (hh : hasB L s x = true) :
    Calls Try.prog 27 #[.pointer (some ⟨A, 0, none⟩), .string s, .int .i64 x] w fun e w' => e = .returned (.int .i64 17) ∧ Re w0 w' A n p L := by
  obtain ⟨C, M, vs, h1, h2⟩ := h
  refine (Put_there h1 s hs x hx hx2 hh).mono ?_
  rintro e w' ⟨he, hk⟩
  exact ⟨he, C, M, vs, h1.no hk, h2.trans hk⟩
theorem Re.find {w0 w : World} {A n p : Nat} {L : List Ent} (h : Re w0 w A n p L) (s : ByteArray) (hs : s.size ≤ maxLen) :
    Calls Try.prog 17 #[.pointer (some ⟨A, 0, none⟩), .string s] w fun e w' => e = .returned (findV L s) ∧ Re w0 w' A n p L := by
  obtain ⟨C, M, vs, h1, h2⟩ := h
  refine (Find_any h1 s hs).mono ?_
  rintro e w' ⟨he, m, rfl⟩
  exact ⟨he, C, M, vs, h1.no ((Kept.refl _ _).drewN m), h2.drewN m⟩
theorem Re.drop {w0 w : World} {A n p : Nat} {L : List Ent} (h : Re w0 w A n p L) {e : Ent} (he : e ∈ L) (hr : n ≤ 4 ∨ n ≤ 4 * (L.length - 1) + 3) :
    Calls Try.prog 29 #[.pointer (some ⟨A, 0, none⟩), .int .i64 e.h] w fun r w' => r = .returned (.int .i64 0) ∧ Re w0 w' A n p (rm L e.h) := by
  obtain ⟨C, M, vs, h1, h2⟩ := h
  refine (Drop_front h1 he hr).mono ?_
  rintro e w' ⟨he, vs', h3, h4, _⟩
  exact ⟨he, C, M, vs', h3, kept_fp h1 h2 h4⟩
theorem Re.buckets {w0 w : World} {A n p : Nat} {L : List Ent} (h : Re w0 w A n p L) : Calls Try.prog 16 #[.pointer (some ⟨A, 0, none⟩)] w fun e w' => e = .returned (.int .i64 n) ∧ w = w' := by
  obtain ⟨C, M, vs, h1, h2⟩ := h
  exact Buckets_any w h1.hA
theorem Re.len {w0 w : World} {A n p : Nat} {L : List Ent} (h : Re w0 w A n p L) : Calls Try.prog 15 #[.pointer (some ⟨A, 0, none⟩)] w fun e w' => e = .returned (.int .i64 L.length) ∧ w = w' := by
  obtain ⟨C, M, vs, h1, h2⟩ := h
  exact Len_any w h1.hA h1.map

abbrev sa : ByteArray := ⟨#[97]⟩
abbrev sb : ByteArray := ⟨#[98]⟩
theorem sa_le : sa.size ≤ maxLen := by decide
theorem sb_le : sb.size ≤ maxLen := by decide
/-- The example's texts. -/
def L1 : List Ent := [⟨7, sa, 1⟩]
def L2 : List Ent := [⟨7, sa, 1⟩, ⟨3, sb, 2⟩]
def L3 : List Ent := [⟨3, sb, 2⟩]

theorem al1 {w0 w : World} {A : Nat} (h : Re w0 w A 4 0 []) : Calls Try.prog 27 #[.pointer (some ⟨A, 0, none⟩), .string sa, .int .i64 7] w fun e w' => e = .returned (.int .i64 0) ∧ Re w0 w' A 4 1 L1 :=
  h.put sa sa_le 7 (by decide) (by decide) rfl (by decide) (by decide)
theorem al2 {w0 w : World} {A : Nat} (h : Re w0 w A 4 1 L1) : Calls Try.prog 27 #[.pointer (some ⟨A, 0, none⟩), .string sb, .int .i64 3] w fun e w' => e = .returned (.int .i64 0) ∧ Re w0 w' A 4 2 L2 :=
  h.put sb sb_le 3 (by decide) (by decide) rfl (by decide) (by decide)
theorem al3 {w0 w : World} {A : Nat} (h : Re w0 w A 4 2 L2) : Calls Try.prog 17 #[.pointer (some ⟨A, 0, none⟩), .string sa] w fun e w' => e = .returned (.tuple #[.int .i64 7, .bool true]) ∧ Re w0 w' A 4 2 L2 :=
  h.find sa sa_le
theorem al4 {w0 w : World} {A : Nat} (h : Re w0 w A 4 2 L2) : Calls Try.prog 27 #[.pointer (some ⟨A, 0, none⟩), .string sa, .int .i64 9] w fun e w' => e = .returned (.int .i64 17) ∧ Re w0 w' A 4 2 L2 :=
  h.there sa sa_le 9 (by decide) (by decide) rfl
theorem al5 {w0 w : World} {A : Nat} (h : Re w0 w A 4 2 L2) : Calls Try.prog 29 #[.pointer (some ⟨A, 0, none⟩), .int .i64 7] w fun e w' => e = .returned (.int .i64 0) ∧ Re w0 w' A 4 2 L3 :=
  h.drop (e := ⟨7, sa, 1⟩) (List.mem_cons_self ..) (Or.inl (Nat.le_refl _))
theorem al6 {w0 w : World} {A : Nat} (h : Re w0 w A 4 2 L3) : Calls Try.prog 17 #[.pointer (some ⟨A, 0, none⟩), .string sa] w fun e w' => e = .returned (.tuple #[.int .i64 0, .bool false]) ∧ Re w0 w' A 4 2 L3 :=
  h.find sa sa_le

set_option maxRecDepth 100000 in
set_option maxHeartbeats 1000000 in
theorem alive_any (w : World) : Calls Try.prog 11 #[] w fun e w' => e = .returned (.bool true) ∧ Kept No w w' := by
  go_enter Try.func11, Try.ntmps11
  go_wp2_with fail
  refine (Re.new w).mono ?_
  rintro e w1 ⟨A, rfl, h1⟩
  have H1 : Hid (Re w w1 A 4 0 []) := h1
  clear h1
  go_wp2_with fail
  refine (al1 H1.out).mono ?_
  rintro e w2 ⟨rfl, h2⟩
  have H2 : Hid (Re w w2 A 4 1 L1) := h2
  clear h2 H1
  go_wp2_with fail
  refine (al2 H2.out).mono ?_
  rintro e w3 ⟨rfl, h3⟩
  have H3 : Hid (Re w w3 A 4 2 L2) := h3
  clear h3 H2
  go_wp2_with fail
  refine (al3 H3.out).mono ?_
  rintro e w4 ⟨rfl, h4⟩
  have H4 : Hid (Re w w4 A 4 2 L2) := h4
  clear h4 H3
  go_wp2_with fail
  refine (al4 H4.out).mono ?_
  rintro e w5 ⟨rfl, h5⟩
  have H5 : Hid (Re w w5 A 4 2 L2) := h5
  clear h5 H4
  go_wp2_with fail
  refine (al5 H5.out).mono ?_
  rintro e w6 ⟨rfl, h6⟩
  have H6 : Hid (Re w w6 A 4 2 L3) := h6
  clear h6 H5
  go_wp2_with fail
  refine (al6 H6.out).mono ?_
  rintro e w7 ⟨rfl, h7⟩
  have H7 : Hid (Re w w7 A 4 2 L3) := h7
  have HB : Hid (Calls Try.prog 16 #[.pointer (some ⟨A, 0, none⟩)] w7 fun e w' => e = .returned (.int .i64 4) ∧ w7 = w') := h7.buckets
  have HL : Hid (Calls Try.prog 15 #[.pointer (some ⟨A, 0, none⟩)] w7 fun e w' => e = .returned (.int .i64 1) ∧ w7 = w') := h7.len
  clear h7 H6
  go_wp2_with (first | (go_at_call 28; refine (no_any _ _).mono ?_; rintro e w' ⟨rfl, rfl⟩) | (go_at_call 16; refine HB.out.mono ?_; rintro e w' ⟨rfl, rfl⟩) | (go_at_call 15; refine HL.out.mono ?_; rintro e w' ⟨rfl, rfl⟩))
  go_ret
  obtain ⟨C, M, vs, _, hk⟩ := H7.out
  exact ⟨rfl, hk⟩

set_option maxHeartbeats 1000000 in
theorem StrtabNil_any (s : ByteArray) (h : Int) (w : World) : Calls Try.prog 8 #[.string s, .int .i64 h] w fun e w' => e = .returned (.bool true) ∧ Below w.heap.size w w' := by
  go_enter Try.func8, Try.ntmps8
  go_wp2_with (first | (go_at_call 17; refine (Find_nil _ _).mono ?_; rintro e w' ⟨rfl, rfl⟩) | (go_at_call 19; refine (Text_nil _ _).mono ?_; rintro e w' ⟨rfl, rfl⟩) | (go_at_call 27; refine (Put_nil _ _ _).mono ?_; rintro e w' ⟨rfl, rfl⟩) | (go_at_call 29; refine (Drop_nil _ _).mono ?_; rintro e w' ⟨rfl, rfl⟩) | (go_at_call 15; refine (Len_nil _).mono ?_; rintro e w' ⟨rfl, rfl⟩) | (go_at_call 16; refine (Buckets_nil _).mono ?_; rintro e w' ⟨rfl, rfl⟩) | (go_at_call 22; refine (Chain_nil _ _).mono ?_; rintro e w' ⟨rfl, rfl⟩) | (go_at_call 28; refine (no_any _ _).mono ?_; rintro e w' ⟨rfl, rfl⟩))
  refine (alive_any w).mono ?_
  rintro e w2 ⟨rfl, h2⟩
  have H2 : Hid (Kept No w w2) := h2
  clear h2
  go_wp2
  go_ret
  exact ⟨rfl, H2.out.below (Nat.le_refl _) (fun _ e => e.elim)⟩
end Go.Proofs.Ytnfamebihpnjlaa
