/- A table of texts in memory; Find, Text. -/
import Derived.Test.YtnfamebihpnjlaaS1
import Derived.Deep.AppendLies
namespace Go.Proofs.Ytnfamebihpnjlaa
open Go.RowKit
set_option linter.unusedSimpArgs false
set_option linter.unusedVariables false

/-- A text, its handle, the number of its put. -/
structure Ent where
  h : Int
  s : ByteArray
  q : Nat

/-- Ints as cells. -/
def ic (l : List Int) : List Value := l.map (Value.int .i64)
theorem ic_length (l : List Int) : (ic l).length = l.length := by simp [ic]
theorem ic_append (a b : List Int) : ic (a ++ b) = ic a ++ ic b := by simp [ic]

/-- What stands at a handle. -/
def lookE (L : List Ent) (h : Int) : Option (ByteArray × Nat) := (L.find? (fun e => e.h == h)).map fun e => (e.s, e.q)
/-- The handle of a text. -/
def find (L : List Ent) (s : ByteArray) : Option Int := (L.find? (fun e => e.s.data.toList == s.data.toList)).map Ent.h
/-- A chain: the handles in a bucket, in the order of their puts. -/
def cL (L : List Ent) (n b : Nat) : List Int := (L.filter fun e => bk e.s n == b).map Ent.h
/-- A slice of nothing. -/
abbrev nilS : Value := .slice none 0 0

/-- What the entries of a table keep. -/
structure Good (L : List Ent) (p : Nat) : Prop where
  hnd : (L.map Ent.h).Nodup
  snd : (L.map fun e => e.s.data.toList).Nodup
  pos : ∀ e ∈ L, 1 ≤ e.h ∧ e.h ≤ 9223372036854775807
  siz : ∀ e ∈ L, e.s.size ≤ maxLen
  ord : (L.map Ent.q).Pairwise (· ≠ ·)
  le : ∀ e ∈ L, e.q ≤ p

/-- A table in memory, all of it made since block B. -/
structure Rep (w : World) (B A C M n p nn : Nat) (vs : List Value) (L : List Ent) : Prop where
  hA : w.heap[A]? = some (tb C n M p)
  hC : w.heap[C]? = some (chO vs)
  len : vs.length = n
  n1 : 4 ≤ n
  n2 : n ≤ 100000
  pb : p ≤ 100000
  nb : nn ≤ 100000
  map : MapIs w M nn L.length (lookE L)
  row : ∀ b (hb : b < vs.length), w.ownsRow B 3 1 vs[b] (cL L n b).length (ic (cL L n b))
  apart : ∀ b b' (hb : b < vs.length) (hb' : b' < vs.length) g, b ≠ b' → vs[b].ownBlock = some g → vs[b'].ownBlock ≠ some g
  bA : B ≤ A
  bC : B ≤ C
  bM : B ≤ M
  good : Good L p

/-- A table's blocks. -/
def FP (A C M : Nat) (vs : List Value) : Nat → Prop := fun k => k = A ∨ k = C ∨ k = M ∨ ∃ v ∈ vs, v.ownBlock = some k

theorem wf_pos {h : Int} (h1 : 1 ≤ h) (h2 : h ≤ 9223372036854775807) : wf h := wf_of (by omega) h2

theorem find_spec {L : List Ent} {s : ByteArray} : (∃ e ∈ L, e.s = s ∧ find L s = some e.h) ∨ ((∀ e ∈ L, e.s ≠ s) ∧ find L s = none) := by
  unfold find
  cases h : L.find? (fun e => e.s.data.toList == s.data.toList) with
  | none =>
    right
    refine ⟨fun e he hs => ?_, rfl⟩
    have := List.find?_eq_none.1 h e he
    subst hs; simp at this
  | some e =>
    left
    refine ⟨e, List.mem_of_find?_eq_some h, ?_, rfl⟩
    have := List.find?_some h
    exact ba_ext (by simpa using this)
theorem lookE_none {L : List Ent} {h : Int} (hn : ∀ e ∈ L, e.h ≠ h) : lookE L h = none := by
  unfold lookE
  rw [List.find?_eq_none.2 (fun e he => by simpa using hn e he)]; rfl
theorem lookE_mem {L : List Ent} (hnd : (L.map Ent.h).Nodup) {e : Ent} (he : e ∈ L) : lookE L e.h = some (e.s, e.q) := by
  induction L with
  | nil => cases he
  | cons x L ih =>
    simp only [List.map_cons, List.nodup_cons, List.mem_map, not_exists, not_and] at hnd
    unfold lookE
    rw [List.find?_cons]
    rcases List.mem_cons.1 he with rfl | hm
    · simp
    · have : (x.h == e.h) = false := by
        rw [beq_eq_false_iff_ne]; intro e2; exact hnd.1 e hm e2.symm
      rw [this]
      exact ih hnd.2 hm
theorem lookE_some {L : List Ent} {h : Int} {x : ByteArray × Nat} (hl : lookE L h = some x) : ∃ e ∈ L, e.h = h ∧ e.s = x.1 ∧ e.q = x.2 := by
  unfold lookE at hl
  cases hf : L.find? (fun e => e.h == h) with
  | none => rw [hf] at hl; cases hl
  | some e =>
    rw [hf] at hl
    have := List.find?_some hf
    refine ⟨e, List.mem_of_find?_eq_some hf, by simpa using this, ?_⟩
    simp at hl
    rw [← hl]; exact ⟨rfl, rfl⟩
theorem lookE_isSome {L : List Ent} {h : Int} : (lookE L h).isSome = true ↔ ∃ e ∈ L, e.h = h := by
  constructor
  · intro hs
    obtain ⟨x, hx⟩ := Option.isSome_iff_exists.1 hs
    obtain ⟨e, he, h1, _⟩ := lookE_some hx
    exact ⟨e, he, h1⟩
  · rintro ⟨e, he, rfl⟩
    unfold lookE
    rw [Option.isSome_map]
    exact List.find?_isSome.2 ⟨e, he, by simp⟩

theorem mem_cL {L : List Ent} {n b : Nat} {h : Int} : h ∈ cL L n b ↔ ∃ e ∈ L, bk e.s n = b ∧ e.h = h := by
  unfold cL
  simp only [List.mem_map, List.mem_filter, beq_iff_eq]
  constructor
  · rintro ⟨e, ⟨h1, h2⟩, h3⟩; exact ⟨e, h1, h2, h3⟩
  · rintro ⟨e, h1, h2, h3⟩; exact ⟨e, ⟨h1, h2⟩, h3⟩

/-- A row's cells. -/
theorem row_cell {w : World} {B : Nat} {v : Value} {l : List Int} (h : w.ownsRow B 3 1 v l.length (ic l)) {g cap : Nat} (hv : v = .slice (some ⟨g, 0, none⟩) l.length cap) {k : Nat} (hk : k < l.length) : w.cell? ⟨g, k, none⟩ = some (.int .i64 l[k]) := by
  have := h.cells (g := g) (by rw [hv]; rfl) k (.int .i64 l[k]) (by simp [ic, List.getElem?_eq_getElem hk])
  by_cases h0 : k = 0
  · subst h0; simpa [Addr.add] using this
  · simpa [Addr.add, h0] using this
theorem row_shape {w : World} {B : Nat} {v : Value} {l : List Int} (h : w.ownsRow B 3 1 v l.length (ic l)) : (v = nilS ∧ l = []) ∨ ∃ g cap, v = .slice (some ⟨g, 0, none⟩) l.length cap ∧ B ≤ g ∧ l.length ≤ cap ∧ cap ≤ maxLen := by
  rcases h.2 with ⟨h1, h2⟩ | ⟨g, cap, cur, h1, h2, h3, h4, h5, _⟩
  · exact Or.inl ⟨h1, List.eq_nil_of_length_eq_zero h2⟩
  · exact Or.inr ⟨g, cap, h1, h2, h4, h5⟩

/-- The first place in a chain with that text, in a loop's words. -/
theorem find_in_chain {L : List Ent} {n : Nat} {s : ByteArray} {h : Int} (hg : (L.map fun e => e.s.data.toList).Nodup) {e : Ent} (he : e ∈ L) (hs : e.s = s) : find L s = some e.h := by
  rcases find_spec (L := L) (s := s) with ⟨x, hx, hxs, hf⟩ | ⟨hn, _⟩
  · rw [hf]
    have : x = e := by
      have hxe : x.s = e.s := by rw [hxs, hs]
      clear hf hs hxs
      induction L with
      | nil => cases he
      | cons y L ih =>
        simp only [List.map_cons, List.nodup_cons, List.mem_map, not_exists, not_and] at hg
        rcases List.mem_cons.1 hx with rfl | hx'
        · rcases List.mem_cons.1 he with rfl | he'
          · rfl
          · exact absurd (by rw [hxe]) (hg.1 e he')
        · rcases List.mem_cons.1 he with rfl | he'
          · exact absurd (by rw [hxe]) (hg.1 x hx')
          · exact ih hg.2 he' hx'
    rw [this]
  · exact absurd hs (hn e he)

/-- What Find answers. -/
def findV (L : List Ent) (s : ByteArray) : Value := .tuple #[.int .i64 ((find L s).getD 0), .bool (find L s).isSome]
end Go.Proofs.Ytnfamebihpnjlaa
