/- Points; rows of points. -/
import Derived.Test.YtbhmgmbgplkkeaaDoorA0
import Derived.Deep.RegionHeld3
import Derived.Laws.EntriesVeiled
import Derived.Maps.AppendAt
import Derived.RangeFuncRecord
namespace Go.Proofs.YtbhmgmbgplkkeaaDoor
open Go.RowKit
set_option linter.unusedSimpArgs false
set_option linter.unusedVariables false

/-- A point: its kind and its number. -/
abbrev V := Int × Int
abbrev AV (v : V) : Value := .agg #[.int .i64 v.1, .int .i64 v.2]
abbrev PT (b : Nat) : Value := .pointer (some ⟨b, 0, none⟩)

/-- A slice of values that can be read. -/
def RdV (W : World) (v : Value) (L : List V) : Prop :=
  ∃ ao cap, v = .slice ao L.length cap ∧ L.length ≤ cap ∧ ∀ j (hj : j < L.length), ∃ b off, ao = some ⟨b, off, none⟩ ∧ W.cell? ⟨b, off + j * 2, none⟩ = some (.int .i64 L[j].1) ∧ W.cell? ⟨b, off + j * 2 + 1, none⟩ = some (.int .i64 L[j].2)
theorem RdV.no {W W' : World} {v : Value} {L : List V} (h : RdV W v L) (hk : Kept No W W') : RdV W' v L := by
  obtain ⟨ao, cap, e, hc, h⟩ := h
  refine ⟨ao, cap, e, hc, fun j hj => ?_⟩
  obtain ⟨b, off, e2, h1, h2⟩ := h j hj
  have hb : b < W.heap.size := by
    rcases Nat.lt_or_ge b W.heap.size with hb | hb
    · exact hb
    · simp [World.cell?, Array.getElem?_eq_none hb] at h1
  have e3 : ∀ o, W'.cell? ⟨b, o, none⟩ = W.cell? ⟨b, o, none⟩ := fun o => World.cell?_of_block (hk.block b hb id)
  exact ⟨b, off, e2, by rw [e3]; exact h1, by rw [e3]; exact h2⟩
def ic (l : List Int) : List Value := l.map (Value.int .i64)
theorem ic_append (a b : List Int) : ic (a ++ b) = ic a ++ ic b := by simp [ic]
theorem ic_len (a : List Int) : (ic a).length = a.length := by simp [ic]
theorem ic_one (l : List Int) : ∀ u ∈ ic l, u.oneCell' = true := by
  intro u hu
  obtain ⟨m, _, rfl⟩ := List.mem_map.1 hu; rfl
theorem info_parts {o : Option TypeInfo} {z : Value} {s b : Nat} (h : o.map (fun i => (i.zero, i.size, i.bytes)) = some (some z, s, b)) : ∃ i, o = some i ∧ i.zero = some z ∧ i.size = s ∧ i.bytes = b := by
  obtain ⟨i, h1, h2⟩ := Option.map_eq_some_iff.1 h
  simp only [Prod.mk.injEq] at h2
  exact ⟨i, h1, h2.1, h2.2.1, h2.2.2⟩
theorem info45 : (Tryd.prog.info? 45).map (fun i => (i.zero, i.size, i.bytes)) = some (some (.agg #[.int .i64 0, .int .i64 0]), 2, 16) := by kernel_rfl

/-- Values as numbers. -/
def flatV (L : List V) : List Int := L.flatMap fun e => [e.1, e.2]
theorem flatV_len (L : List V) : (flatV L).length = L.length * 2 := by
  induction L with
  | nil => rfl
  | cons p ps ih => simp only [flatV, List.flatMap_cons, List.length_append, List.length_cons] at ih ⊢; simp at ih ⊢; omega
theorem flatV_append (a b : List V) : flatV (a ++ b) = flatV a ++ flatV b := by simp [flatV]
theorem flatV_get : ∀ (L : List V) (j : Nat) (hj : j < L.length), (ic (flatV L))[j * 2]? = some (.int .i64 L[j].1) ∧ (ic (flatV L))[j * 2 + 1]? = some (.int .i64 L[j].2)
  | [], _, h => by simp at h
  | p :: L, 0, h => by simp [flatV, ic]
  | p :: L, j + 1, h => by
    have ih := flatV_get L j (by simpa using h)
    have e1 : ic (flatV (p :: L)) = Value.int .i64 p.1 :: Value.int .i64 p.2 :: ic (flatV L) := rfl
    rw [e1, show (j + 1) * 2 = j * 2 + 1 + 1 by omega]
    simpa using ih

/-- A row of values that a call has made. -/
def VRow (w : World) (base : Nat) (v : Value) (L : List V) : Prop := w.ownsRow base 45 2 v L.length (ic (flatV L))
theorem VRow.nil (w : World) (base : Nat) : VRow w base (.slice none 0 0) [] := World.ownsRow_nil w base 45 2
theorem VRow.turn {w w' : World} {base : Nat} {v : Value} {L : List V} (h : VRow w base v L) (hk : ∀ k, v.ownBlock = some k → w'.heap[k]? = w.heap[k]?) : VRow w' base v L := by
  refine ⟨h.1, h.2.imp id ?_⟩
  rintro ⟨g, cap, cur, e1, e2, e3, r⟩
  refine ⟨g, cap, cur, e1, e2, ?_, r⟩
  rw [hk g (by rw [e1]; rfl)]; exact e3
theorem VRow.block {w : World} {base : Nat} {v : Value} {L : List V} (h : VRow w base v L) {k : Nat} (hk : v.ownBlock = some k) : base ≤ k ∧ ∃ c, w.heap[k]? = some (.cells c 45 (0, 0)) := by
  rcases h.2 with ⟨rfl, h0⟩ | ⟨g, cap, cur, rfl, hb, hg, _⟩
  · cases hk
  · simp only [Value.ownBlock, Option.some.injEq] at hk
    subst hk
    exact ⟨hb, cur, hg⟩
theorem VRow.tn {ts : List Nat} {B : Nat} {w w' : World} {base : Nat} {v : Value} {L : List V} (h : VRow w base v L) (hk : Tn ts B w w') (h40 : 45 ∉ ts) : VRow w' base v L := by
  refine h.turn (fun k e => ?_)
  obtain ⟨_, c, hc⟩ := h.block e
  rw [hc, hk.cells hc h40]
theorem VRow.rd {w : World} {base : Nat} {v : Value} {L : List V} (h : VRow w base v L) : RdV w v L := by
  rcases h.2 with ⟨rfl, h0⟩ | ⟨g, cap, cur, rfl, _, _, hcp, _⟩
  · exact ⟨none, 0, by rw [h0], by omega, fun j hj => by omega⟩
  · refine ⟨_, _, rfl, hcp, fun j hj => ⟨g, 0, rfl, ?_, ?_⟩⟩
    · rw [Nat.zero_add]; exact (World.ownsRow.cellAt h _ (by omega)).trans (flatV_get L j hj).1
    · rw [Nat.zero_add]; exact (World.ownsRow.cellAt h _ (by omega)).trans (flatV_get L j hj).2

theorem VRow.form {w : World} {base : Nat} {v : Value} {L : List V} (h : VRow w base v L) : ∃ ao c, v = .slice ao L.length c := by
  rcases h.2 with ⟨rfl, h0⟩ | ⟨g, cap, cur, rfl, _⟩
  · exact ⟨_, _, by rw [h0]⟩
  · exact ⟨_, _, rfl⟩
/-- A value is appended. -/
theorem app_val {ops : Array Oper} {rest : List Oper} {o : Oper} {a : Act} {Q : Exit → Act → World → Prop} {w : World} (hgd : o.guard = none) (s x : Operand)
    (ho : o.op = .call { callee := .builtin .append, args := #[s, x], argTypes := #[23, 23] }) (base : Nat) (v : Value) (L : List V) (hs : a.eval s = v) (hrow : VRow w base v L)
    (N : Nat) (e : V) (hx : a.eval x = .slice (some ⟨N, 0, none⟩) 1 1) (hN : w.heap[N]? = some (.cells #[.int .i64 e.1, .int .i64 e.2] 45 (0, 0))) (hlen : L.length + 1 ≤ 1000000) (hbase : base ≤ w.heap.size)
    (h : ∀ v' w', Hid (VRow w' base v' (L ++ [e])) → Hid (w.grownBy w' v.ownBlock) → wpList Tryd.prog ops Q rest (a.put o.dst v') w') : wpList Tryd.prog ops Q (o :: rest) a w := by
  obtain ⟨i0, hi, hz0, hz1, hz2⟩ := info_parts info45
  refine wpList_append_own _ hgd s x 23 ho base 45 i0 _ 2 16 Tryd.underlying23 hi hz0 hz1 hz2 rfl (by decide) v L.length (ic (flatV L)) hs hrow ⟨N, 0, none⟩ 1 1 (ic (flatV [e])) hx rfl ?_ (ic_one _)
      (by unfold maxLen; omega) (by omega) hbase ?_
  · intro j u hu
    have hc := cell_of hN
    rcases j with _ | _ | j
    · simp [ic, flatV] at hu; subst hu; simpa [Addr.add] using hc 0
    · simp [ic, flatV] at hu; subst hu; simpa [Addr.add] using hc 1
    · simp [ic, flatV] at hu
  · intro v' w' h1 h2 h3
    refine h v' w' ?_ h2
    show World.ownsRow _ _ _ _ _ _ _
    rw [List.length_append, flatV_append, ic_append]; exact h1

end Go.Proofs.YtbhmgmbgplkkeaaDoor
