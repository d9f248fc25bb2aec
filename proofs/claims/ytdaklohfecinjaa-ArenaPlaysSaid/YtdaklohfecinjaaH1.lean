/- ArenaGrows: what a block has behind Resize; the row of its cells. -/
import Derived.Test.YtdaklohfecinjaaF3
namespace Go.Proofs.Ytdaklohfecinjaa
open Go.RowKit
set_option linter.unusedSimpArgs false
set_option linter.unusedVariables false

/-- A block that was laid anew. -/
theorem layC_getD (cs : List Int) (ba bs at' n j : Nat) (h1 : ba + bs ≤ cs.length) (h2 : at' + n ≤ cs.length) (hj : j < n) :
    (layC cs ba (min n bs) at' n).getD (at' + j) 0 = if j < bs then cs.getD (ba + j) 0 else 0 := by
  unfold layC
  have l1 : ((cs.drop ba).take (min n bs)).length = min n bs := by simp; omega
  rw [putL_getD _ _ _ (by rw [putL_length (by rw [l1]; omega)]; simp; omega)]
  by_cases e : j < bs
  · rw [if_neg (by simp; omega), if_pos e, putL_getD _ _ _ (by rw [l1]; omega), if_pos (by rw [l1]; omega)]
    rw [show at' + j - at' = j by omega]
    simp [List.getD, List.getElem?_take, List.getElem?_drop, show j < min n bs by omega]
  · rw [if_pos (by simp; omega), if_neg e]
    rw [List.getD_eq_getElem?_getD, List.getElem?_replicate]
    split <;> rfl

/-- The first place in the order without a block is not behind it, if it is no longer. -/
theorem place_le {F size n : Nat} {hb : List (Nat × Nd)} {k k' : Nat} (hk : k < hb.length) (hg : Geo size 0 (nodes F hb)) (hn : n ≤ hb[k].2.s) (h1 : 1 ≤ n) (hk' : k' < (nodes F (rem hb k)).length) (hfirst : ∀ i, i < k' → gap (nodes F (rem hb k)) size i < n) :
    (nodes F (rem hb k))[k'].a + (nodes F (rem hb k))[k'].s ≤ hb[k].2.a := by
  obtain ⟨hkr, e1, e2, e3⟩ := nodes_rem_at F hb hk
  have hlk : k < (nodes F hb).length := by simp [nodes]; omega
  have hl : ((nodes F hb).take k).length = k := by rw [List.length_take]; omega
  have hat := nodes_at F hb hk
  have hlk1 : k + 1 < (nodes F hb).length := by simp [nodes]; omega
  have hle : k' ≤ k := by
    rcases Nat.lt_or_ge k k' with h | h
    · have h2 := hfirst k h
      have h3 : (hb[k].2.s : Int) ≤ gap (nodes F (rem hb k)) size k := by
        have hgeo := hg
        rw [nodes_split2 F hb hk] at hgeo
        rw [nodes_rem F hb hk]
        have key : ∀ (X : List Nd) (o : Nat) (x y : Nd) (Y : List Nd), Geo size o (X ++ x :: y :: Y) → (y.s : Int) ≤ gap (X ++ x :: Y) size X.length := by
          intro X
          induction X with
          | nil =>
            rintro o x y Y ⟨g1, g2, g3⟩
            cases Y with
            | nil => have : y.a + y.s ≤ size := g3; show (y.s : Int) ≤ (size : Int) - ((x.a : Int) + (x.s : Int)); omega
            | cons z Z => have := g3.1; show (y.s : Int) ≤ (z.a : Int) - ((x.a : Int) + (x.s : Int)); omega
          | cons z Z ih => rintro o x y Y ⟨g1, g2⟩; exact ih _ x y Y g2
        have := key _ _ _ _ _ hgeo
        rw [hl] at this
        exact this
      omega
    · exact h
  have e4 : (nodes F (rem hb k))[k']? = (nodes F hb)[k']? := by
    have e5 : nodes F (rem hb k) = (nodes F hb).take (k + 1) ++ (nodes F hb).drop (k + 2) := by
      rw [nodes_rem F hb hk, List.take_succ_eq_append_getElem hlk, List.append_assoc]; rfl
    rw [e5, List.getElem?_append_left (by rw [List.length_take]; omega), List.getElem?_take, if_pos (by omega)]
  rw [List.getElem?_eq_getElem hk', List.getElem?_eq_getElem (by omega)] at e4
  rw [Option.some.inj e4]
  have := hg.pair k' (k + 1) (by omega) hlk1
  rw [hat] at this
  exact this

theorem ownsRow_no {w w' : World} {base : Nat} {e : TypeId} {size n : Nat} {v : Value} {xs : List Value} (h : w.ownsRow base e size v n xs) (hk : Kept No w w') : w'.ownsRow base e size v n xs := by
  obtain ⟨hl, h | ⟨g, cap, cur, h1, h2, h3, h4⟩⟩ := h
  · exact ⟨hl, .inl h⟩
  · exact ⟨hl, .inr ⟨g, cap, cur, h1, h2, hk.heap h3 id, h4⟩⟩

theorem ownsRow_out {S : Nat → Prop} {w w' : World} {base : Nat} {e : TypeId} {size n : Nat} {v : Value} {xs : List Value} (h : w.ownsRow base e size v n xs) (hk : Kept S w w') (hS : ∀ k, S k → k < base) : w'.ownsRow base e size v n xs := by
  obtain ⟨hl, h | ⟨g, cap, cur, h1, h2, h3, h4⟩⟩ := h
  · exact ⟨hl, .inl h⟩
  · exact ⟨hl, .inr ⟨g, cap, cur, h1, h2, hk.heap h3 (fun e => by have := hS g e; omega), h4⟩⟩

/-- The first j cells of a block, as a row. -/
def rowD (cs : List Int) (a j : Nat) : List Value := (List.range j).map fun t => .int .i64 (cs.getD (a + t) 0)
theorem rowD_succ (cs : List Int) (a j : Nat) : rowD cs a (j + 1) = rowD cs a j ++ [.int .i64 (cs.getD (a + j) 0)] := by
  unfold rowD; rw [List.range_succ, List.map_append]; rfl
theorem rowD_at (cs : List Int) (a : Nat) {s j : Nat} (h : j < s) : (rowD cs a s)[j]? = some (.int .i64 (cs.getD (a + j) 0)) := by
  unfold rowD
  rw [List.getElem?_map, List.getElem?_range h]; rfl
end Go.Proofs.Ytdaklohfecinjaa
