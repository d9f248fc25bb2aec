/- Rows of entries. -/
import Derived.Test.YthefmfjlinpepaaL0
import Derived.Deep.AppendLies
import Derived.Lib.BitFns
import Derived.OwnWalk
namespace Go.Proofs.Ythefmfjlinpepaa
open Go.RowKit Go.Shelf
set_option linter.unusedSimpArgs false
set_option linter.unusedVariables false

/-- A key with its value. -/
abbrev Ent := (Int × Int) × (Int × Int)
/-- Numbers as cells. -/
def ic (l : List Int) : List Value := l.map (Value.int .i64)
theorem ic_append (a b : List Int) : ic (a ++ b) = ic a ++ ic b := by simp [ic]
theorem ic_length (a : List Int) : (ic a).length = a.length := by simp [ic]
theorem ic_one (l : List Int) : ∀ u ∈ ic l, u.oneCell' = true := by
  intro u hu
  obtain ⟨x, _, rfl⟩ := List.mem_map.1 hu
  rfl
/-- Entries as numbers. -/
def flatE (L : List Ent) : List Int := L.flatMap fun e => [e.1.1, e.1.2, e.2.1, e.2.2]
theorem flatE_len (L : List Ent) : (flatE L).length = L.length * 4 := by
  induction L with
  | nil => rfl
  | cons p ps ih => simp only [flatE, List.flatMap_cons, List.length_append, List.length_cons] at ih ⊢; simp at ih ⊢; omega
theorem flatE_append (a b : List Ent) : flatE (a ++ b) = flatE a ++ flatE b := by simp [flatE]
theorem flatE_get : ∀ (L : List Ent) (j : Nat) (e : Ent), L[j]? = some e → (ic (flatE L))[j * 4]? = some (.int .i64 e.1.1) ∧ (ic (flatE L))[j * 4 + 1]? = some (.int .i64 e.1.2) ∧ (ic (flatE L))[j * 4 + 2]? = some (.int .i64 e.2.1) ∧ (ic (flatE L))[j * 4 + 3]? = some (.int .i64 e.2.2)
  | [], _, _, h => by simp at h
  | p :: L, 0, e, h => by
    simp at h; subst h
    simp [flatE, ic]
  | p :: L, j + 1, e, h => by
    have ih := flatE_get L j e (by simpa using h)
    have e1 : ic (flatE (p :: L)) = Value.int .i64 p.1.1 :: Value.int .i64 p.1.2 :: Value.int .i64 p.2.1 :: Value.int .i64 p.2.2 :: ic (flatE L) := rfl
    rw [e1, show (j + 1) * 4 = j * 4 + 1 + 1 + 1 + 1 by omega]
    simpa using ih

theorem info116 : (Try.prog.info? 116).map (fun i => (i.zero, i.size, i.bytes)) = some (some (.agg #[.int .i64 0, .int .i64 0, .int .i64 0, .int .i64 0]), 4, 32) := by kernel_rfl
/-- A row of entries that a call has made. -/
def ERow (w : World) (base : Nat) (v : Value) (L : List Ent) : Prop := w.ownsRow base 116 4 v L.length (ic (flatE L))
/-- A slice of entries. -/
def EntsIs (w : World) (v : Value) (L : List Ent) : Prop :=
  (v = .slice none 0 0 ∧ L = []) ∨ ∃ b c, v = .slice (some ⟨b, 0, none⟩) L.length c ∧ ∀ j e, L[j]? = some e → w.cell? ⟨b, j * 4, none⟩ = some (.int .i64 e.1.1) ∧ w.cell? ⟨b, j * 4 + 1, none⟩ = some (.int .i64 e.1.2) ∧ w.cell? ⟨b, j * 4 + 2, none⟩ = some (.int .i64 e.2.1) ∧ w.cell? ⟨b, j * 4 + 3, none⟩ = some (.int .i64 e.2.2)
theorem ERow.ents {w : World} {base : Nat} {v : Value} {L : List Ent} (h : ERow w base v L) : EntsIs w v L := by
  rcases h.2 with ⟨rfl, h0⟩ | ⟨g, cap, cur, rfl, _⟩
  · exact Or.inl ⟨rfl, List.eq_nil_of_length_eq_zero h0⟩
  · refine Or.inr ⟨g, cap, rfl, fun j e he => ?_⟩
    have hj : j < L.length := (List.getElem?_eq_some_iff.1 he).1
    obtain ⟨g0, g1, g2, g3⟩ := flatE_get L j e he
    exact ⟨(World.ownsRow.cellAt h _ (by omega)).trans g0, (World.ownsRow.cellAt h _ (by omega)).trans g1, (World.ownsRow.cellAt h _ (by omega)).trans g2, (World.ownsRow.cellAt h _ (by omega)).trans g3⟩
theorem ERow.turn {w w' : World} {base : Nat} {v : Value} {L : List Ent} (h : ERow w base v L) (hk : ∀ k, v.ownBlock = some k → w'.heap[k]? = w.heap[k]?) : ERow w' base v L := by
  refine ⟨h.1, h.2.imp id ?_⟩
  rintro ⟨g, cap, cur, e1, e2, e3, r⟩
  refine ⟨g, cap, cur, e1, e2, ?_, r⟩
  rw [hk g (by rw [e1]; rfl)]; exact e3
theorem ERow.nil (w : World) (base : Nat) : ERow w base (.slice none 0 0) [] := World.ownsRow_nil w base 116 4
theorem ERow.cells {w : World} {base : Nat} {v : Value} {L : List Ent} (h : ERow w base v L) {k : Nat} (hk : v.ownBlock = some k) : ∃ c, w.heap[k]? = some (.cells c 116 (0, 0)) := by
  rcases h.2 with ⟨rfl, h0⟩ | ⟨g, cap, cur, rfl, _, hg, _⟩
  · cases hk
  · simp only [Value.ownBlock, Option.some.injEq] at hk
    subst hk
    exact ⟨cur, hg⟩

section
variable {P : Program} (w : World)
/-- What was appended to is as it was. -/
theorem run_append_keeps (base : Nat) (t ty e : TypeId) (i : TypeInfo) (z : Value) (size bytes : Nat) (ht : P.underlying t = some (.slice e)) (hi : P.info? e = some i) (hz : i.zero = some z)
    (hsize : i.size = size) (hby : i.bytes = bytes) (hzs : z.cells.size = size) (hsz : 0 < size)
    (v : Value) (n : Nat) (xs : List Value) (hown : w.ownsRow base e size v n xs)
    (a : Addr) (m c : Nat) (news : List Value) (hl : news.length = m * size) (hnews : ∀ j u, news[j]? = some u → w.cell? (a.add j) = some u) (h1 : ∀ u ∈ news, u.oneCell' = true)
    (h63 : n + m ≤ maxLen) (hbytes : (n + m) * bytes ≤ 140737488355328) (hbase : base ≤ w.heap.size) :
    ∃ v' w', (Builtin.append_ #[t, t] ty #[v, .slice (some a) m c]).run P w = .ok v' w' ∧ w'.ownsRow base e size v' (n + m) (xs ++ news) ∧ w'.ownsRow base e size v n xs ∧ w.grownBy w' v.ownBlock := by
  obtain ⟨v', w', hr, h2, h3, _, h5⟩ := run_append_own_at (P := P) w base t ty e i z size bytes ht hi hz hsize hby hzs hsz v n xs hown a m c news hl hnews h1 h63 hbytes hbase
  refine ⟨v', w', hr, h2, ?_, h3⟩
  subst hsize
  subst hby
  rcases hown.2 with ⟨rfl, rfl⟩ | ⟨g, cap, cur, rfl, hbg, hg, hnc, hcm, hcs, htake⟩
  · have hx : xs = [] := List.eq_nil_of_length_eq_zero (by simpa using hown.1)
    subst hx
    exact World.ownsRow_nil _ _ _ _
  · by_cases hroom : n + m ≤ cap
    · have hfit : n * i.size + news.length ≤ cur.size := by rw [hl, hcs, ← Nat.add_mul]; exact Nat.mul_le_mul_right _ hroom
      have hr2 := run_append_room (P := P) w t ty e i ht hi g n cap cur hg a m c news hl hnews h1 hroom hfit
      rw [hr] at hr2
      injection hr2 with ev ew
      subst ev
      rcases h2.2 with ⟨ex, _⟩ | ⟨g', cap', cur', ex, q1, q2, q3, q4, q5, q6⟩
      · cases ex
      · injection ex with e1 e2 e3
        injection e1 with e1
        injection e1 with e1
        subst e1
        subst e3
        refine ⟨hown.1, .inr ⟨g, cap, cur', rfl, q1, q2, hnc, hcm, q5, ?_⟩⟩
        have hh := congrArg (List.take (n * i.size)) q6
        rw [List.take_take, Nat.min_eq_left (Nat.mul_le_mul_right _ (by omega)), ← hown.1, List.take_left] at hh
        rw [← hown.1]; exact hh
    · have holds : ∀ j u, xs[j]? = some u → w.cell? ((⟨g, 0, none⟩ : Addr).add j) = some u := hown.cells (g := g) rfl
      have hr2 := run_append_grow (P := P) w t ty e i z ht hi hz ⟨g, 0, none⟩ n cap xs hown.1 holds a m c news hl hnews (by omega) (by simp only [maxLen] at h63; omega) (growslice_fits (by omega) hbytes)
      rw [hr] at hr2
      injection hr2 with ev ew
      subst ew
      exact World.ownsRow.alloc (World.ownsRow.drew hown) _
end
end Go.Proofs.Ythefmfjlinpepaa
