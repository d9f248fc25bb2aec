/- The chapter's example: alive. -/
import Derived.Test.YtdaklohfecinjaaB10
namespace Go.Proofs.Ytdaklohfecinjaa
open Go.RowKit
set_option linter.unusedSimpArgs false
set_option linter.unusedVariables false

/-- An arena that has been made since w0. -/
def Re (w0 w : World) (A size n : Nat) (hb : List (Nat × Nd)) : Prop :=
  ∃ C M F f least cs, Rp w A C M F f size least n cs hb ∧ (∀ k, FP A C M F hb k → w0.heap.size ≤ k) ∧ Kept No w0 w

theorem fp_ins {A C M F k : Nat} {hb : List (Nat × Nd)} (hk : k < (nodes F hb).length) {x : Nat × Nd} {j : Nat} (h : FP A C M F (ins hb k x) j) : FP A C M F hb j ∨ j = x.2.p := by
  rcases h with h | h | h | h
  · exact .inl (.inl h)
  · exact .inl (.inr (.inl h))
  · exact .inl (.inr (.inr (.inl h)))
  · rw [nodes_ins F hb hk] at h
    obtain ⟨y, hy, e⟩ := List.mem_map.1 h
    by_cases e2 : y = x.2
    · exact .inr (by rw [← e, e2])
    · refine .inl (.inr (.inr (.inr ?_)))
      rw [← e]
      refine List.mem_map_of_mem ?_
      rw [nodes_split F hb hk]
      rcases List.mem_append.1 hy with hy | hy
      · exact List.mem_append.2 (.inl hy)
      · rcases List.mem_cons.1 hy with rfl | hy
        · exact List.mem_append.2 (.inr List.mem_cons_self)
        · rcases List.mem_cons.1 hy with rfl | hy
          · exact absurd rfl e2
          · exact List.mem_append.2 (.inr (List.mem_cons_of_mem _ hy))

theorem Kept.since {S : Nat → Prop} {w0 w w' : World} (h : Kept No w0 w) (hk : Kept S w w') (hS : ∀ k, S k → w0.heap.size ≤ k) : Kept No w0 w' :=
  h.trans' hk (fun i e => .inr (hS i e))

theorem Re.new (n : Nat) (hn : rl n = true) (w : World) : Calls Try.prog 12 #[.int .i64 n] w fun e w' => ∃ A, e = .returned (.tuple #[.pointer (some ⟨A, 0, none⟩), .int .i64 0]) ∧ Re w w' A n 0 [] := by
  refine (New_ok n hn w).mono ?_
  rintro e w' ⟨he, h, hk⟩
  refine ⟨_, he, _, _, _, _, _, _, h, fun k e => ?_, hk⟩
  rcases e with e | e | e | e
  · omega
  · omega
  · omega
  · simp [nodes] at e; omega

theorem Re.alloc {w0 w : World} {A size n : Nat} {hb : List (Nat × Nd)} (h : Re w0 w A size n hb) (hn : n ≤ 1000) (m k h0 a : Nat) (hm : rl m = true) (hk : k ≤ hb.length) (hg : ∀ F, (m : Int) ≤ gap (nodes F hb) size k) (hlow : ∀ F i, i < k → gap (nodes F hb) size i < m)
    (h1 : 1 ≤ h0) (hl : look hb h0 = none) (hlo : ∀ i : Nat, 1 ≤ i → i < h0 → look hb i ≠ none) (ha : ∀ F (hk : k < (nodes F hb).length), (nodes F hb)[k].a + (nodes F hb)[k].s = a) :
    Calls Try.prog 27 #[.pointer (some ⟨A, 0, none⟩), .int .i64 m] w fun e w' => e = .returned (.tuple #[.int .i64 h0, .int .i64 0]) ∧ ∃ b, Re w0 w' A size (n + 1) (ins hb k (h0, ⟨b, a, m⟩)) := by
  obtain ⟨C, M, F, f, least, cs, hR, hfp, hk0⟩ := h
  have hk' : k < (nodes F hb).length := by simp [nodes]; omega
  refine (Alloc_room w hR hm (by omega) hk' (hg F) (hlow F)).mono ?_
  rintro e w' ⟨h0', b, f', he, i1, i2, i3, i4, hR', hk1⟩
  have e0 : h0' = h0 := by
    rcases Nat.lt_trichotomy h0' h0 with hlt | heq | hgt
    · exact absurd i2 (hlo h0' i1 hlt)
    · exact heq
    · exact absurd hl (i3 h0 h1 hgt)
  subst e0
  rw [ha F hk'] at hR'
  refine ⟨he, b, C, M, F, f', h0', _, hR', fun j e => ?_, hk0.since hk1 hfp⟩
  rcases fp_ins hk' e with e | e
  · exact hfp j e
  · have := hk0.size; dsimp only at e; omega

theorem Re.full {w0 w : World} {A size n : Nat} {hb : List (Nat × Nd)} (h : Re w0 w A size n hb) (m : Nat) (hm : rl m = true) (hg : ∀ F i, i < hb.length + 1 → gap (nodes F hb) size i < m) :
    Calls Try.prog 27 #[.pointer (some ⟨A, 0, none⟩), .int .i64 m] w fun e w' => e = .returned (.tuple #[.int .i64 0, .int .i64 8]) ∧ Re w0 w' A size n hb := by
  obtain ⟨C, M, F, f, least, cs, hR, hfp, hk0⟩ := h
  refine (Alloc_full w hR hm (fun i hi => hg F i (by simpa [nodes] using hi))).mono ?_
  rintro e w' ⟨he, ⟨f', hR'⟩, hk1⟩
  exact ⟨he, C, M, F, f', least, cs, hR', hfp, hk0.since hk1 (fun j e => hfp j (.inl e))⟩

theorem Re.free {w0 w : World} {A size n : Nat} {hb : List (Nat × Nd)} (h : Re w0 w A size n hb) (k i : Nat) (hk : k < hb.length) (hi : hb[k].1 = i) (hw : wf i) :
    Calls Try.prog 35 #[.pointer (some ⟨A, 0, none⟩), .int .i64 i] w fun e w' => e = .returned (.int .i64 0) ∧ Re w0 w' A size n (rem hb k) := by
  obtain ⟨C, M, F, f, least, cs, hR, hfp, hk0⟩ := h
  subst hi
  refine (Free_some w hR hk hw).mono ?_
  rintro e w' ⟨he, ⟨f', hR'⟩, hk1⟩
  refine ⟨he, C, M, F, f', _, cs, hR', fun j e => hfp j ?_, hk0.since hk1 hfp⟩
  rcases e with e | e | e | e
  · exact .inl e
  · exact .inr (.inl e)
  · exact .inr (.inr (.inl e))
  · refine .inr (.inr (.inr ?_))
    obtain ⟨y, hy, e⟩ := List.mem_map.1 e
    rw [← e]
    refine List.mem_map_of_mem ?_
    rcases List.mem_cons.1 hy with rfl | hy
    · exact List.mem_cons_self
    · obtain ⟨z, hz, rfl⟩ := List.mem_map.1 hy
      exact List.mem_cons_of_mem _ (List.mem_map_of_mem (rem_mem hz))

theorem Re.compact {w0 w : World} {A size n : Nat} {hb : List (Nat × Nd)} (h : Re w0 w A size n hb) :
    Calls Try.prog 31 #[.pointer (some ⟨A, 0, none⟩)] w fun e w' => (∃ F, e = .returned (.int .i64 (mv (nodes F hb) (nodes F hb).length : Nat))) ∧ Re w0 w' A size n (cmpH 0 hb) := by
  obtain ⟨C, M, F, f, least, cs, hR, hfp, hk0⟩ := h
  refine (Compact_rp w hR).mono ?_
  rintro e w' ⟨he, hR', hk1⟩
  refine ⟨⟨F, he⟩, C, M, F, f, _, _, hR', fun j e => hfp j ?_, hk0.since hk1 hfp⟩
  rcases e with e | e | e | e
  · exact .inl e
  · exact .inr (.inl e)
  · exact .inr (.inr (.inl e))
  · exact .inr (.inr (.inr (by rw [nodes_cmpH, comp_map] at e; exact e)))

theorem Re.addr {w0 w : World} {A size n : Nat} {hb : List (Nat × Nd)} (h : Re w0 w A size n hb) (x : Nat × Nd) (hx : x ∈ hb) (hw : wf x.1) :
    Calls Try.prog 20 #[.pointer (some ⟨A, 0, none⟩), .int .i64 x.1] w fun e w' => e = .returned (.int .i64 x.2.a) ∧ w = w' := by
  obtain ⟨C, M, F, f, least, cs, hR, hfp, hk0⟩ := h
  exact Addr_some hx hw w hR

theorem Re.top {w0 w : World} {A size n : Nat} {hb : List (Nat × Nd)} (h : Re w0 w A size n hb) (t : Nat) (ht : ∀ F, topN (nodes F hb) = t) :
    Calls Try.prog 25 #[.pointer (some ⟨A, 0, none⟩)] w fun e w' => e = .returned (.int .i64 t) ∧ Kept No w0 w' := by
  obtain ⟨C, M, F, f, least, cs, hR, hfp, hk0⟩ := h
  refine (Top_any w hR).mono ?_
  rintro e w' ⟨he, hk⟩
  rw [ht F] at he
  exact ⟨he, hk0.trans hk⟩
end Go.Proofs.Ytdaklohfecinjaa
