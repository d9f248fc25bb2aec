/- A block more in the order: plain lists. -/
import Derived.Test.YtdaklohfecinjaaB2
namespace Go.Proofs.Ytdaklohfecinjaa
open Go.RowKit
set_option linter.unusedSimpArgs false
set_option linter.unusedVariables false

theorem gap_cons (x : Nd) (l : List Nd) (size k : Nat) : gap (x :: l) size (k + 1) = gap l size k := rfl

theorem Geo.insert {size b m : Nat} : ∀ {o : Nat} {l : List Nd} (k : Nat) (hk : k < l.length), Geo size o l → (m : Int) ≤ gap l size k →
    Geo size o (l.take k ++ l[k] :: ⟨b, l[k].a + l[k].s, m⟩ :: l.drop (k + 1))
  | o, x :: r, 0, _, h, hg => by
    refine ⟨h.1, Nat.le_refl _, ?_⟩
    dsimp only
    have h2 := h.2
    simp only [List.drop_succ_cons, List.drop_zero]
    cases r with
    | nil =>
      have : (m : Int) ≤ (size : Int) - ((x.a : Int) + (x.s : Int)) := hg
      show x.a + x.s + m ≤ size
      omega
    | cons y r =>
      have : (m : Int) ≤ (y.a : Int) - ((x.a : Int) + (x.s : Int)) := hg
      exact ⟨by show x.a + x.s + m ≤ y.a; omega, h2.2⟩
  | o, x :: r, k + 1, hk, h, hg => by
    have := Geo.insert (b := b) (m := m) k (by simpa using hk) h.2 hg
    exact ⟨h.1, this⟩

/-- One block more. -/
def ins (hb : List (Nat × Nd)) (k : Nat) (x : Nat × Nd) : List (Nat × Nd) := hb.take k ++ x :: hb.drop k

theorem nodes_split (F : Nat) (hb : List (Nat × Nd)) {k : Nat} (hk : k < (nodes F hb).length) : nodes F hb = (nodes F hb).take k ++ (nodes F hb)[k] :: (nodes F hb).drop (k + 1) := by
  rw [← List.drop_eq_getElem_cons hk, List.take_append_drop]
theorem nodes_ins (F : Nat) (hb : List (Nat × Nd)) {k : Nat} (hk : k < (nodes F hb).length) (x : Nat × Nd) : nodes F (ins hb k x) = (nodes F hb).take k ++ (nodes F hb)[k] :: x.2 :: (nodes F hb).drop (k + 1) := by
  have h1 : (nodes F hb).take k ++ [(nodes F hb)[k]] = (nodes F hb).take (k + 1) := (List.take_succ_eq_append_getElem hk).symm
  have h2 : nodes F (ins hb k x) = (nodes F hb).take (k + 1) ++ x.2 :: (nodes F hb).drop (k + 1) := by
    unfold nodes ins
    simp [List.map_take, List.map_drop]
  rw [h2, ← h1, List.append_assoc]; rfl

theorem look_ins {hb : List (Nat × Nd)} {k h b a s : Nat} (hn : look hb h = none) (i : Int) : (if i = (h : Int) then some b else look hb i) = look (ins hb k (h, ⟨b, a, s⟩)) i := by
  have key : ∀ (l : List (Nat × Nd)) (k : Nat), (∀ x ∈ l, (x.1 : Int) ≠ (h : Int)) → look (l.take k ++ (h, ⟨b, a, s⟩) :: l.drop k) i = if i = (h : Int) then some b else look l i := by
    intro l
    induction l with
    | nil =>
      intro k _
      unfold look
      by_cases e : i = (h : Int)
      · simp [e]
      · have e' : ¬ (h : Int) = i := fun x => e x.symm
        simp [e, e']
    | cons y r ih =>
      intro k hl
      cases k with
      | zero =>
        unfold look
        by_cases e : i = (h : Int)
        · simp [e]
        · have e' : ¬ (h : Int) = i := fun x => e x.symm
          simp [e, e', List.find?_cons]
      | succ k =>
        have ih' := ih k (fun x hx => hl x (by simp [hx]))
        unfold look at ih' ⊢
        simp only [List.take_succ_cons, List.drop_succ_cons, List.cons_append, List.find?_cons]
        by_cases e : (y.1 : Int) = i
        · have hy := hl y (by simp)
          have e' : ¬ i = (h : Int) := fun x => hy (e.trans x)
          simp [e, e']
        · simp only [e, decide_false]
          exact ih'
  exact (key hb k (look_none.1 hn)).symm

theorem ins_mem {hb : List (Nat × Nd)} {k : Nat} {x y : Nat × Nd} : y ∈ ins hb k x ↔ y = x ∨ y ∈ hb := by
  unfold ins
  rw [List.mem_append, List.mem_cons]
  constructor
  · rintro (h | h | h)
    · exact .inr (List.mem_of_mem_take h)
    · exact .inl h
    · exact .inr (List.mem_of_mem_drop h)
  · rintro (h | h)
    · exact .inr (.inl h)
    · rw [← List.take_append_drop k hb] at h
      rcases List.mem_append.1 h with h | h
      · exact .inl h
      · exact .inr (.inr h)
theorem ins_fst_nodup {hb : List (Nat × Nd)} {k : Nat} {x : Nat × Nd} (h : (hb.map Prod.fst).Nodup) (hn : look hb x.1 = none) : ((ins hb k x).map Prod.fst).Nodup := by
  have hp : ((ins hb k x).map Prod.fst).Perm (x.1 :: hb.map Prod.fst) := by
    unfold ins
    rw [List.map_append, List.map_cons]
    refine List.perm_middle.trans (List.Perm.cons _ ?_)
    rw [← List.map_append, List.take_append_drop]
  rw [hp.nodup_iff, List.nodup_cons]
  refine ⟨fun hm => ?_, h⟩
  obtain ⟨y, hy, e⟩ := List.mem_map.1 hm
  exact look_none.1 hn y hy (by rw [e])

/-- The gaps ahead stay. -/
theorem gap_ins {X Y : List Nd} {x y : Nd} {size i : Nat} (hi : i < X.length) : gap (X ++ x :: y :: Y) size i = gap (X ++ x :: Y) size i := by
  induction X generalizing i with
  | nil => simp at hi
  | cons z r ih =>
    cases i with
    | zero =>
      unfold gap
      simp only [List.cons_append, List.drop_zero]
      cases r <;> rfl
    | succ i => exact ih (by simpa using hi)
end Go.Proofs.Ytdaklohfecinjaa
