/- What an arena is in memory. -/
import Derived.Test.YtdaklohfecinjaaB1
namespace Go.Proofs.Ytdaklohfecinjaa
open Go.RowKit
set_option linter.unusedSimpArgs false
set_option linter.unusedVariables false

/-- Blocks with their handles: which record has a handle. -/
def look (hb : List (Nat × Nd)) (h : Int) : Option Nat := (hb.find? fun x => decide ((x.1 : Int) = h)).map fun x => x.2.p
/-- The order of addresses, from the front on. -/
def nodes (F : Nat) (hb : List (Nat × Nd)) : List Nd := ⟨F, 0, 0⟩ :: hb.map Prod.snd

/-- An arena in memory. -/
structure Rp (w : World) (A C M F f size least n : Nat) (cs : List Int) (hb : List (Nat × Nd)) : Prop where
  hA : w.heap[A]? = some (ar C M F f size least)
  hC : w.heap[C]? = some (cl cs)
  len : cs.length = size
  seg : Seg w none (nodes F hb) none
  nod : ((nodes F hb).map Nd.p).Nodup
  geo : Geo size 0 (nodes F hb)
  pos : ∀ x ∈ hb, 1 ≤ x.2.s ∧ 1 ≤ x.1
  sz1 : 1 ≤ size
  sz : size ≤ 65536
  map : MapIs w M n (look hb)
  hnd : (hb.map Prod.fst).Nodup
  full : ∃ j, ∃ hj : j < (nodes F hb).length, f = (nodes F hb)[j].p ∧ ∀ i, i < j → gap (nodes F hb) size i = 0
  lst : 1 ≤ least ∧ ∀ h : Nat, 1 ≤ h → h < least → look hb h ≠ none

/-- The blocks of memory that an arena has. -/
def FP (A C M F : Nat) (hb : List (Nat × Nd)) : Nat → Prop := fun k => k = A ∨ k = C ∨ k = M ∨ k ∈ (nodes F hb).map Nd.p

theorem MapIs.congr {w : World} {M n : Nat} {g g' : Int → Option Nat} (h : MapIs w M n g) (e : ∀ i, g i = g' i) : MapIs w M n g' := by
  have : g = g' := funext e
  rw [← this]; exact h
theorem MapIs.mono {w : World} {M n n' : Nat} {g : Int → Option Nat} (h : MapIs w M n g) (e : n ≤ n') : MapIs w M n' g := by
  obtain ⟨D, h1, h2⟩ := h
  exact ⟨D, h1.mono e, h2⟩

theorem Geo.length_le : ∀ {size o : Nat} {l : List Nd}, Geo size o l → (∀ x ∈ l, 1 ≤ x.s) → o + l.length ≤ size
  | size, o, [], h, _ => by simpa [Geo] using h
  | size, o, x :: r, h, hp => by
    have := Geo.length_le h.2 (fun y hy => hp y (by simp [hy]))
    have h1 := hp x (by simp)
    have h2 := h.1
    simp; omega
theorem Rp.length_le {w : World} {A C M F f size least n : Nat} {cs : List Int} {hb : List (Nat × Nd)} (h : Rp w A C M F f size least n cs hb) : hb.length ≤ size := by
  have := Geo.length_le h.geo.2 (fun x hx => by obtain ⟨y, hy, rfl⟩ := List.mem_map.1 hx; exact (h.pos y hy).1)
  simpa using this
theorem Rp.nodes_len {w : World} {A C M F f size least n : Nat} {cs : List Int} {hb : List (Nat × Nd)} (h : Rp w A C M F f size least n cs hb) : (nodes F hb).length ≤ 100000 := by
  have := h.length_le; have := h.sz; simp [nodes]; omega
theorem Rp.bd {w : World} {A C M F f size least n : Nat} {cs : List Int} {hb : List (Nat × Nd)} (h : Rp w A C M F f size least n cs hb) : ∀ x ∈ nodes F hb, x.a + x.s ≤ 65536 :=
  fun x hx => by have := h.geo.bd x hx; have := h.sz; omega
theorem Rp.map_ne {w : World} {A C M F f size least n : Nat} {cs : List Int} {hb : List (Nat × Nd)} (h : Rp w A C M F f size least n cs hb) : M ≠ A ∧ M ≠ C ∧ ∀ x ∈ nodes F hb, M ≠ x.p :=
  ⟨h.map.not_cells h.hA, h.map.not_cells h.hC, fun x hx => by
    obtain ⟨k, hk, rfl⟩ := List.getElem_of_mem hx
    obtain ⟨ah, hx⟩ := h.seg.at hk
    exact h.map.not_cells hx⟩
theorem Rp.ne {w : World} {A C M F f size least n : Nat} {cs : List Int} {hb : List (Nat × Nd)} (h : Rp w A C M F f size least n cs hb) : A ≠ C ∧ (∀ x ∈ nodes F hb, A ≠ x.p) ∧ (∀ x ∈ nodes F hb, C ≠ x.p) := by
  refine ⟨fun e => cl_ar h.hC h.hA e.symm, fun x hx => ?_, fun x hx => ?_⟩
  · obtain ⟨k, hk, rfl⟩ := List.getElem_of_mem hx
    obtain ⟨ah, hx⟩ := h.seg.at hk
    exact ar_nd h.hA hx
  · obtain ⟨k, hk, rfl⟩ := List.getElem_of_mem hx
    obtain ⟨ah, hx⟩ := h.seg.at hk
    exact cl_nd h.hC hx
theorem Rp.lt {w : World} {A C M F f size least n : Nat} {cs : List Int} {hb : List (Nat × Nd)} (h : Rp w A C M F f size least n cs hb) {k : Nat} (hk : FP A C M F hb k) : k < w.heap.size := by
  rcases hk with rfl | rfl | rfl | hk
  · exact hp_lt h.hA
  · exact hp_lt h.hC
  · exact h.map.lt
  · obtain ⟨x, hx, rfl⟩ := List.mem_map.1 hk
    exact h.seg.lt hx
/-- What does not touch it leaves it. -/
theorem Rp.kept {S : Nat → Prop} {w w' : World} {A C M F f size least n : Nat} {cs : List Int} {hb : List (Nat × Nd)} (h : Rp w A C M F f size least n cs hb) (hk : Kept S w w') (hS : ∀ k, FP A C M F hb k → ¬ S k) : Rp w' A C M F f size least n cs hb :=
  { hA := hk.heap h.hA (hS _ (.inl rfl)), hC := hk.heap h.hC (hS _ (.inr (.inl rfl))), len := h.len, seg := h.seg.kept hk (fun x hx => hS _ (.inr (.inr (.inr (List.mem_map_of_mem hx))))), nod := h.nod, geo := h.geo, pos := h.pos, sz1 := h.sz1, sz := h.sz,
    map := h.map.kept hk (hS _ (.inr (.inr (.inl rfl)))), hnd := h.hnd, full := h.full, lst := h.lst }

theorem gap_drop (l : List Nd) (size j i : Nat) : gap (l.drop j) size i = gap l size (j + i) := by
  unfold gap; rw [List.drop_drop]
theorem hd_drop {l : List Nd} {j : Nat} (hj : j < l.length) : hd (l.drop j) none = some l[j].p := by rw [List.drop_eq_getElem_cons hj]; rfl

/-- Which handles there are. -/
theorem look_none {hb : List (Nat × Nd)} {h : Int} : look hb h = none ↔ ∀ x ∈ hb, (x.1 : Int) ≠ h := by
  unfold look; simp
theorem look_some {hb : List (Nat × Nd)} {h : Int} {p : Nat} (e : look hb h = some p) : ∃ x ∈ hb, (x.1 : Int) = h ∧ x.2.p = p := by
  unfold look at e
  cases hf : hb.find? (fun x => decide ((x.1 : Int) = h)) with
  | none => rw [hf] at e; cases e
  | some x =>
    rw [hf] at e
    exact ⟨x, List.mem_of_find?_eq_some hf, by simpa using List.find?_some hf, Option.some.inj e⟩
theorem look_mem {hb : List (Nat × Nd)} (hn : (hb.map Prod.fst).Nodup) {x : Nat × Nd} (hx : x ∈ hb) : look hb x.1 = some x.2.p := by
  induction hb with
  | nil => cases hx
  | cons y r ih =>
    rw [List.map_cons, List.nodup_cons] at hn
    unfold look
    rw [List.find?_cons]
    by_cases e : y.1 = x.1
    · have h1 : decide ((y.1 : Int) = (x.1 : Int)) = true := by simp [e]
      rw [h1]
      rcases List.mem_cons.1 hx with rfl | hx
      · rfl
      · exact absurd (by rw [e]; exact List.mem_map_of_mem hx) hn.1
    · have h0 : decide ((y.1 : Int) = (x.1 : Int)) = false := by simp; omega
      rw [h0]
      rcases List.mem_cons.1 hx with rfl | hx
      · exact absurd rfl e
      · exact ih hn.2 hx
/-- Among many numbers one is not in a list. -/
theorem pigeon : ∀ (n : Nat) (hs : List Nat) (least : Nat), hs.length ≤ n → ∃ N, least ≤ N ∧ N ≤ least + hs.length ∧ N ∉ hs
  | 0, hs, least, h => ⟨least, Nat.le_refl _, by omega, by have : hs = [] := List.eq_nil_of_length_eq_zero (by omega); rw [this]; simp⟩
  | n + 1, hs, least, h => by
    by_cases e : least ∈ hs
    · have hlt : (hs.filter (fun x => decide (x ≠ least))).length < hs.length := by
        rw [List.length_filter_lt_length_iff_exists]
        exact ⟨least, e, by simp⟩
      obtain ⟨N, h1, h2, h3⟩ := pigeon n (hs.filter (fun x => decide (x ≠ least))) (least + 1) (by omega)
      refine ⟨N, by omega, by omega, fun hN => h3 (List.mem_filter.2 ⟨hN, by simp; omega⟩)⟩
    · exact ⟨least, Nat.le_refl _, by omega, e⟩
/-- A free handle, not far. -/
theorem free_handle (hb : List (Nat × Nd)) (least : Nat) : ∃ N : Nat, least ≤ N ∧ N ≤ least + hb.length ∧ look hb N = none := by
  obtain ⟨N, h1, h2, h3⟩ := pigeon _ (hb.map Prod.fst) least (Nat.le_refl _)
  rw [List.length_map] at h2
  refine ⟨N, h1, h2, look_none.2 (fun x hx e => h3 ?_)⟩
  have : x.1 = N := by omega
  rw [← this]; exact List.mem_map_of_mem hx
/-- The least that may be free is not far. -/
theorem Rp.least_le {w : World} {A C M F f size least n : Nat} {cs : List Int} {hb : List (Nat × Nd)} (h : Rp w A C M F f size least n cs hb) : least ≤ size + 1 := by
  obtain ⟨N, h1, h2, h3⟩ := free_handle hb 1
  have := h.length_le
  by_cases e : N < least
  · exact absurd h3 (h.lst.2 N h1 e)
  · omega
end Go.Proofs.Ytdaklohfecinjaa
