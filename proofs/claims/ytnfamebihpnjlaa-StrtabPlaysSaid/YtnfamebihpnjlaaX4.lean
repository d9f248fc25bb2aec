/- Entries by their handles; what does not hang on their order. -/
import Derived.Test.YtnfamebihpnjlaaX3
namespace Go.Proofs.Ytnfamebihpnjlaa
open Go.RowKit Go.Shelf
set_option linter.unusedSimpArgs false
set_option linter.unusedVariables false

/-- The entries of some handles. -/
def entsH (L : List Ent) (ks : List Int) : List Ent := ks.filterMap fun h => L.find? fun e => e.h == h

theorem find_h {L : List Ent} (hn : (L.map Ent.h).Nodup) {e : Ent} (he : e ∈ L) : L.find? (fun x => x.h == e.h) = some e := by
  induction L with
  | nil => cases he
  | cons y L ih =>
    simp only [List.map_cons, List.nodup_cons, List.mem_map, not_exists, not_and] at hn
    rw [List.find?_cons]
    rcases List.mem_cons.1 he with rfl | hm
    · simp
    · have : (y.h == e.h) = false := by rw [beq_eq_false_iff_ne]; intro e2; exact hn.1 e hm e2.symm
      rw [this]; exact ih hn.2 hm
theorem entsH_snoc {L : List Ent} (hn : (L.map Ent.h).Nodup) (ks : List Int) {e : Ent} (he : e ∈ L) : entsH L (ks ++ [e.h]) = entsH L ks ++ [e] := by
  unfold entsH
  rw [List.filterMap_append]
  simp [find_h hn he]
theorem entsH_self {L : List Ent} (hn : (L.map Ent.h).Nodup) : entsH L (L.map Ent.h) = L := by
  have : ∀ K : List Ent, (∀ e ∈ K, e ∈ L) → entsH L (K.map Ent.h) = K := by
    intro K
    induction K with
    | nil => intro _; rfl
    | cons x K ih =>
      intro h
      have hx := h x (by simp)
      unfold entsH at ih ⊢
      rw [List.map_cons, List.filterMap_cons, find_h hn hx]
      simp only
      rw [ih (fun e he => h e (by simp [he]))]
  exact this L (fun _ h => h)
theorem entsH_perm {L : List Ent} (hn : (L.map Ent.h).Nodup) {ks : List Int} (h : ks.Perm (L.map Ent.h)) : (entsH L ks).Perm L := by
  have := h.filterMap (fun h => L.find? fun e => e.h == h)
  have e := entsH_self hn
  unfold entsH at e ⊢
  rw [e] at this; exact this
theorem entsH_len (L : List Ent) (ks : List Int) : (entsH L ks).length ≤ ks.length := by
  unfold entsH; exact List.length_filterMap_le _ _
theorem okH_mem {L : List Ent} {ks : List Int} {x : Int} (h : OkH L ks x) : (∃ e ∈ L, e.h = x) ∧ ks.length + 1 ≤ L.length := by
  obtain ⟨rest, hp⟩ := h
  constructor
  · have : x ∈ L.map Ent.h := hp.mem_iff.1 (by simp)
    obtain ⟨e, he, h1⟩ := List.mem_map.1 this
    exact ⟨e, he, h1⟩
  · have := hp.length_eq
    simp at this; omega

theorem lookE_perm {K L : List Ent} (hp : K.Perm L) (hn : (L.map Ent.h).Nodup) (i : Int) : lookE K i = lookE L i := by
  have hn' : (K.map Ent.h).Nodup := (hp.map Ent.h).nodup_iff.2 hn
  by_cases h : ∃ e ∈ L, e.h = i
  · obtain ⟨e, he, rfl⟩ := h
    rw [lookE_mem hn he, lookE_mem hn' (hp.mem_iff.2 he)]
  · rw [lookE_none (L := L) (fun e he h2 => h ⟨e, he, h2⟩), lookE_none (L := K) (fun e he h2 => h ⟨e, hp.mem_iff.1 he, h2⟩)]
theorem Good.perm {K L : List Ent} {p : Nat} (h : Good L p) (hp : K.Perm L) : Good K p :=
  ⟨(hp.map Ent.h).nodup_iff.2 h.hnd, (hp.map fun e => e.s.data.toList).nodup_iff.2 h.snd, fun e he => h.pos e (hp.mem_iff.1 he), fun e he => h.siz e (hp.mem_iff.1 he), (hp.map Ent.q).nodup_iff.2 h.ord, fun e he => h.le e (hp.mem_iff.1 he)⟩
theorem Rq.renewed {w : World} {B A C M n p nn : Nat} {vs : List Value} {L K : List Ent} (h : Rq w B A C M n p nn vs L K) (hp : K.Perm L) (n1 : 4 ≤ n) (pb : p ≤ 100000) (nb : nn ≤ 100000) : Rep w B A C M n p nn vs K :=
  { hA := h.hA, hC := h.hC, len := h.len, n1 := n1, n2 := h.n2, pb := pb, nb := nb, map := h.map.congr hp.length_eq.symm (fun i => (lookE_perm hp h.good.hnd i).symm), row := h.row, apart := h.apart, bA := h.bA, bC := h.bC, bM := h.bM, good := h.good.perm hp }
theorem Loose.rq {b : Nat} {w w' : World} (hl : Loose b w w') {B A C M n p nn : Nat} {vs : List Value} {L K : List Ent} (h : Rq w B A C M n p nn vs L K) (hM : M < b) : Rq w' B A C M n p nn vs L K :=
  { hA := hl.cells h.hA, hC := hl.cells h.hC, len := h.len, n1 := h.n1, n2 := h.n2, map := hl.map h.map hM, row := fun b hb => hl.row (h.row b hb), apart := h.apart, bA := h.bA, bC := h.bC, bM := h.bM, good := h.good, short := h.short }

theorem inOrder_any (A : Nat) (w : World) : Calls Try.prog 42 #[.pointer (some ⟨A, 0, none⟩)] w fun e w' => e = .returned (.func (.func 45) #[] #[.pointer (some ⟨w.heap.size, 0, none⟩)]) ∧ w' = w.alloc (.cells #[.pointer (some ⟨A, 0, none⟩)] 23) := by
  go_enter Try.func42, Try.ntmps42
  go_wp2
  go_ret
  exact ⟨rfl, rfl⟩
end Go.Proofs.Ytnfamebihpnjlaa
