/- Whatever is asked of an arena: it is one again. -/
import Derived.Test.YtdaklohfecinjaaE5
namespace Go.Proofs.Ytdaklohfecinjaa
open Go.RowKit
set_option linter.unusedSimpArgs false
set_option linter.unusedVariables false

/-- The first place, or none. -/
theorem first_room (l : List Nd) (size : Nat) (m : Int) : ∀ N : Nat, (∃ k, k < N ∧ m ≤ gap l size k ∧ ∀ i, i < k → gap l size i < m) ∨ ∀ i, i < N → gap l size i < m
  | 0 => .inr (fun i h => by omega)
  | N + 1 => by
    rcases first_room l size m N with ⟨k, h1, h2, h3⟩ | h
    · exact .inl ⟨k, by omega, h2, h3⟩
    · by_cases e : m ≤ gap l size N
      · exact .inl ⟨N, by omega, e, h⟩
      · refine .inr (fun i hi => ?_)
        by_cases e2 : i = N
        · subst e2; omega
        · exact h i (by omega)

/-- An arena made since w0, whatever it is. -/
def Pl (w0 w : World) (A size n : Nat) : Prop := ∃ hb, Re w0 w A size n hb

theorem Re.mono {w0 w : World} {A size n n' : Nat} {hb : List (Nat × Nd)} (h : Re w0 w A size n hb) (hn : n ≤ n') : Re w0 w A size n' hb := by
  obtain ⟨C, M, F, f, least, cs, hR, hfp, hk0⟩ := h
  exact ⟨C, M, F, f, least, cs, { hR with map := hR.map.mono hn }, hfp, hk0⟩
theorem Pl.mono {w0 w : World} {A size n n' : Nat} (h : Pl w0 w A size n) (hn : n ≤ n') : Pl w0 w A size n' := by
  obtain ⟨hb, h⟩ := h
  exact ⟨hb, h.mono hn⟩

theorem rl_nat {m : Int} (h : rl m = true) : ∃ k : Nat, m = k := ⟨m.toNat, by have := rl_true h; omega⟩

theorem Pl.alloc {w0 w : World} {A size n : Nat} (h : Pl w0 w A size n) (hn : n ≤ 1000) (m : Int) :
    Calls Try.prog 27 #[.pointer (some ⟨A, 0, none⟩), .int .i64 m] w fun e w' => (∃ v, e = .returned v) ∧ Pl w0 w' A size (n + 1) := by
  obtain ⟨hb, C, M, F, f, least, cs, hR, hfp, hk0⟩ := h
  cases hr : rl m with
  | false =>
    refine (Alloc_arg m w hR hr).mono ?_
    rintro e w' ⟨he, rfl⟩
    exact ⟨⟨_, he⟩, hb, Re.mono ⟨C, M, F, f, least, cs, hR, hfp, hk0⟩ (by omega)⟩
  | true =>
    obtain ⟨m, rfl⟩ := rl_nat hr
    rcases first_room (nodes F hb) size m (nodes F hb).length with ⟨k, h1, h2, h3⟩ | h1
    · refine (Alloc_room w hR hr (by omega) h1 h2 h3).mono ?_
      rintro e w' ⟨h0, b, f', he, _, _, _, hb0, hR', hk1⟩
      refine ⟨⟨_, he⟩, _, C, M, F, f', h0, _, hR', fun j e => ?_, hk0.since hk1 hfp⟩
      rcases fp_ins h1 e with e | e
      · exact hfp j e
      · have := hk0.size; dsimp only at e; omega
    · refine (Alloc_full w hR hr h1).mono ?_
      rintro e w' ⟨he, ⟨f', hR'⟩, hk1⟩
      exact ⟨⟨_, he⟩, hb, Re.mono ⟨C, M, F, f', least, cs, hR', hfp, hk0.since hk1 (fun j e => hfp j (.inl e))⟩ (by omega)⟩

theorem look_at {hb : List (Nat × Nd)} {i : Int} {p : Nat} (h : look hb i = some p) : ∃ k, ∃ hk : k < hb.length, (hb[k].1 : Int) = i := by
  obtain ⟨x, hx, e, _⟩ := look_some h
  obtain ⟨k, hk, rfl⟩ := List.getElem_of_mem hx
  exact ⟨k, hk, e⟩

theorem Pl.free {w0 w : World} {A size n : Nat} (h : Pl w0 w A size n) (i : Int) (hw : wf i) :
    Calls Try.prog 35 #[.pointer (some ⟨A, 0, none⟩), .int .i64 i] w fun e w' => (∃ v, e = .returned v) ∧ Pl w0 w' A size (n + 1) := by
  obtain ⟨hb, h⟩ := h
  cases hl : look hb i with
  | none =>
    obtain ⟨C, M, F, f, least, cs, hR, hfp, hk0⟩ := h
    refine (Free_none i hw w hR hl).mono ?_
    rintro e w' ⟨he, rfl⟩
    exact ⟨⟨_, he⟩, hb, Re.mono ⟨C, M, F, f, least, cs, hR, hfp, hk0⟩ (by omega)⟩
  | some p =>
    obtain ⟨k, hk, rfl⟩ := look_at hl
    refine (h.free k _ hk rfl hw).mono ?_
    rintro e w' ⟨he, h'⟩
    exact ⟨⟨_, he⟩, _, h'.mono (by omega)⟩

theorem fp_sub {A C M F : Nat} {hb hb' : List (Nat × Nd)} (hs : ∀ x ∈ hb', ∃ y ∈ hb, x.2.p = y.2.p) {j : Nat} (h : FP A C M F hb' j) : FP A C M F hb j := by
  rcases h with h | h | h | h
  · exact .inl h
  · exact .inr (.inl h)
  · exact .inr (.inr (.inl h))
  · refine .inr (.inr (.inr ?_))
    obtain ⟨y, hy, e⟩ := List.mem_map.1 h
    rcases List.mem_cons.1 hy with rfl | hy
    · rw [← e]; exact List.mem_map_of_mem List.mem_cons_self
    · obtain ⟨z, hz, rfl⟩ := List.mem_map.1 hy
      obtain ⟨u, hu, e2⟩ := hs z hz
      rw [← e, e2]
      exact List.mem_map_of_mem (List.mem_cons_of_mem _ (List.mem_map_of_mem hu))

theorem cmpH_mem : ∀ {o : Nat} {hb : List (Nat × Nd)} {x : Nat × Nd}, x ∈ cmpH o hb → ∃ y ∈ hb, x.1 = y.1 ∧ x.2.p = y.2.p ∧ x.2.s = y.2.s
  | o, y :: r, x, hx => by
    rcases List.mem_cons.1 hx with rfl | hx
    · exact ⟨y, by simp, rfl, rfl, rfl⟩
    · obtain ⟨z, hz, e⟩ := cmpH_mem hx
      exact ⟨z, by simp [hz], e⟩

theorem Pl.resize {w0 w : World} {A size n : Nat} (h : Pl w0 w A size n) (i m : Int) (hw : wf i) :
    Calls Try.prog 34 #[.pointer (some ⟨A, 0, none⟩), .int .i64 i, .int .i64 m] w fun e w' => (∃ v, e = .returned v) ∧ Pl w0 w' A size (n + 1) := by
  obtain ⟨hb, h⟩ := h
  have h0 := h
  obtain ⟨C, M, F, f, least, cs, hR, hfp, hk0⟩ := h
  cases hl : look hb i with
  | none =>
    refine (Resize_none i m hw w hR hl).mono ?_
    rintro e w' ⟨he, rfl⟩
    exact ⟨⟨_, he⟩, hb, h0.mono (by omega)⟩
  | some p =>
    obtain ⟨k, hk, rfl⟩ := look_at hl
    cases hr : rl m with
    | false =>
      refine (Resize_arg (List.getElem_mem hk) hw m hr w hR).mono ?_
      rintro e w' ⟨he, rfl⟩
      exact ⟨⟨_, he⟩, hb, h0.mono (by omega)⟩
    | true =>
      obtain ⟨m, rfl⟩ := rl_nat hr
      refine (Resize_some w hR hk hw hr).mono ?_
      rintro e w' ⟨⟨he, _, f', hR'⟩ | ⟨he, k', hk', _, _, f', hR'⟩, hk1⟩
      · exact ⟨⟨_, he⟩, hb, Re.mono ⟨C, M, F, f', least, cs, hR', hfp, hk0.since hk1 hfp⟩ (by omega)⟩
      · refine ⟨⟨_, he⟩, _, Re.mono ⟨C, M, F, f', least, _, hR', fun j e => hfp j (fp_sub (fun x hx => ?_) e), hk0.since hk1 hfp⟩ (Nat.le_succ n)⟩
        rcases ins_mem.1 hx with rfl | hx
        · exact ⟨hb[k], List.getElem_mem hk, rfl⟩
        · exact ⟨x, rem_mem hx, rfl⟩

theorem Pl.extend {w0 w : World} {A size n : Nat} (h : Pl w0 w A size n) (i m : Int) (hw : wf i) :
    Calls Try.prog 36 #[.pointer (some ⟨A, 0, none⟩), .int .i64 i, .int .i64 m] w fun e w' => (∃ v, e = .returned v) ∧ Pl w0 w' A size (n + 1) := by
  obtain ⟨hb, h⟩ := h
  have h0 := h
  obtain ⟨C, M, F, f, least, cs, hR, hfp, hk0⟩ := h
  cases hl : look hb i with
  | none =>
    refine (Extend_none i m hw w hR hl).mono ?_
    rintro e w' ⟨he, rfl⟩
    exact ⟨⟨_, he⟩, hb, h0.mono (by omega)⟩
  | some p =>
    obtain ⟨k, hk, rfl⟩ := look_at hl
    cases hr : rl m with
    | false =>
      refine (Extend_arg (List.getElem_mem hk) hw m hr w hR).mono ?_
      rintro e w' ⟨he, rfl⟩
      exact ⟨⟨_, he⟩, hb, h0.mono (by omega)⟩
    | true =>
      obtain ⟨m, rfl⟩ := rl_nat hr
      by_cases hf : sumS (nodes F (rem hb k)) + m ≤ size
      · refine (Extend_some w hR hk hw hr hf).mono ?_
        rintro e w' ⟨he, ⟨f', hR'⟩, hk1⟩
        refine ⟨⟨_, he⟩, _, Re.mono ⟨C, M, F, f', least, _, hR', fun j e => hfp j (fp_sub (fun x hx => ?_) e), hk0.since hk1 hfp⟩ (Nat.le_succ n)⟩
        obtain ⟨y, hy, _, e2, _⟩ := cmpH_mem hx
        rcases List.mem_append.1 hy with hy | hy
        · exact ⟨y, rem_mem hy, e2⟩
        · rw [List.mem_singleton] at hy
          subst hy
          exact ⟨hb[k], List.getElem_mem hk, e2⟩
      · refine (Extend_full w hR hk hw hr (by omega)).mono ?_
        rintro e w' ⟨he, hR', hk1⟩
        exact ⟨⟨_, he⟩, hb, Re.mono ⟨C, M, F, f, least, cs, hR', hfp, hk0.trans hk1⟩ (by omega)⟩

theorem Pl.store {w0 w : World} {A size n : Nat} (h : Pl w0 w A size n) (i j v : Int) (hw : wf i) :
    Calls Try.prog 28 #[.pointer (some ⟨A, 0, none⟩), .int .i64 i, .int .i64 j, .int .i64 v] w fun e w' => (∃ v, e = .returned v) ∧ Pl w0 w' A size (n + 1) := by
  obtain ⟨hb, h⟩ := h
  have h0 := h
  obtain ⟨C, M, F, f, least, cs, hR, hfp, hk0⟩ := h
  cases hl : look hb i with
  | none =>
    refine (Store_none i j v hw w hR hl).mono ?_
    rintro e w' ⟨he, rfl⟩
    exact ⟨⟨_, he⟩, hb, h0.mono (by omega)⟩
  | some p =>
    obtain ⟨k, hk, rfl⟩ := look_at hl
    by_cases hj : 0 ≤ j ∧ j < (hb[k].2.s : Int)
    · obtain ⟨j, rfl⟩ : ∃ j' : Nat, j = j' := ⟨j.toNat, by omega⟩
      refine (Store_some (List.getElem_mem hk) hw j v (by omega) w hR).mono ?_
      rintro e w' ⟨he, hR', hk1⟩
      exact ⟨⟨_, he⟩, hb, Re.mono ⟨C, M, F, f, least, _, hR', hfp, hk0.since hk1 (fun j e => hfp j (.inr (.inl e)))⟩ (Nat.le_succ n)⟩
    · refine (Store_arg (List.getElem_mem hk) hw j v (by simp; omega) w hR).mono ?_
      rintro e w' ⟨he, rfl⟩
      exact ⟨⟨_, he⟩, hb, h0.mono (by omega)⟩

theorem Pl.compact {w0 w : World} {A size n : Nat} (h : Pl w0 w A size n) :
    Calls Try.prog 31 #[.pointer (some ⟨A, 0, none⟩)] w fun e w' => (∃ v, e = .returned v) ∧ Pl w0 w' A size (n + 1) := by
  obtain ⟨hb, h⟩ := h
  refine h.compact.mono ?_
  rintro e w' ⟨⟨F, he⟩, h'⟩
  exact ⟨⟨_, he⟩, _, h'.mono (by omega)⟩

/-- What does not touch what was made since. -/
theorem Pl.fresh {w0 w : World} {A size n : Nat} (h : Pl w0 w A size n) (o : Obj) : Pl w0 (w.alloc o) A size n := by
  obtain ⟨hb, C, M, F, f, least, cs, hR, hfp, hk0⟩ := h
  exact ⟨hb, C, M, F, f, least, cs, hR.no ((Kept.refl No w).alloc o), hfp, hk0.alloc o⟩

set_option maxHeartbeats 1000000 in
theorem play_any {w0 : World} {A size n : Nat} (kd h m x : Int) (hw : wf h) (w : World) (hP : Pl w0 w A size n) (hn : n ≤ 1000) :
    Calls Try.prog 29 #[.pointer (some ⟨A, 0, none⟩), .agg #[.int .i64 kd, .int .i64 h, .int .i64 m, .int .i64 x]] w fun e w' => (∃ v, e = .returned v) ∧ Pl w0 w' A size (n + 1) := by
  have HP : Hid (Pl w0 (w.alloc (.cells #[.int .i64 kd, .int .i64 h, .int .i64 m, .int .i64 x] 34)) A size n) := hP.fresh _
  have HW : Hid (wf h) := hw
  clear hP hw
  go_enter Try.func29, Try.ntmps29
  go_wp2_with (first
    | (go_at_call 27; refine (HP.out.alloc hn _).mono ?_; rintro e w1 ⟨⟨v, rfl⟩, hp1⟩; have H1 : Hid (Pl w0 w1 A size (n + 1)) := hp1; clear hp1)
    | (go_at_call 35; refine (HP.out.free _ HW.out).mono ?_; rintro e w1 ⟨⟨v, rfl⟩, hp1⟩; have H1 : Hid (Pl w0 w1 A size (n + 1)) := hp1; clear hp1)
    | (go_at_call 34; refine (HP.out.resize _ _ HW.out).mono ?_; rintro e w1 ⟨⟨v, rfl⟩, hp1⟩; have H1 : Hid (Pl w0 w1 A size (n + 1)) := hp1; clear hp1)
    | (go_at_call 28; refine (HP.out.store _ _ _ HW.out).mono ?_; rintro e w1 ⟨⟨v, rfl⟩, hp1⟩; have H1 : Hid (Pl w0 w1 A size (n + 1)) := hp1; clear hp1)
    | (go_at_call 31; refine HP.out.compact.mono ?_; rintro e w1 ⟨⟨v, rfl⟩, hp1⟩; have H1 : Hid (Pl w0 w1 A size (n + 1)) := hp1; clear hp1)
    | (go_at_call 36; refine (HP.out.extend _ _ HW.out).mono ?_; rintro e w1 ⟨⟨v, rfl⟩, hp1⟩; have H1 : Hid (Pl w0 w1 A size (n + 1)) := hp1; clear hp1))
  all_goals
    go_end0
    first
    | exact ⟨⟨_, rfl⟩, H1.out⟩
    | exact ⟨⟨_, rfl⟩, HP.out.mono (by omega)⟩
end Go.Proofs.Ytdaklohfecinjaa
