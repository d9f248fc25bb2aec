/- Rows of objects and of values that the law makes. -/
import Derived.Test.YtnihfakhijjjkaaD1
import Derived.Maps.AppendAt
namespace Go.Proofs.Ytnihfakhijjjkaa
open Go.RowKit
set_option linter.unusedSimpArgs false
set_option linter.unusedVariables false

/-- An object that is made: its handle and its kind. -/
def eight (p : Int × Int) : List Value := [.int .i64 p.1, .int .i64 p.2, .int .i64 0, .int .i64 0, .slice none 0 0, .int .i64 0, .int .i64 1, .int .i64 0]
def flat8 (P : List (Int × Int)) : List Value := P.flatMap eight
theorem flat8_len (P : List (Int × Int)) : (flat8 P).length = P.length * 8 := by
  induction P with
  | nil => rfl
  | cons p ps ih => simp only [flat8, List.flatMap_cons, List.length_append, List.length_cons] at ih ⊢; simp [eight] at ih ⊢; omega
theorem flat8_get : ∀ (P : List (Int × Int)) (j : Nat) (hj : j < P.length) (r : Nat), r < 8 → (flat8 P)[j * 8 + r]? = (eight P[j])[r]?
  | [], _, h, _, _ => by simp at h
  | p :: P, 0, h, r, hr => by
    have e1 : flat8 (p :: P) = eight p ++ flat8 P := rfl
    rw [e1, Nat.zero_mul, Nat.zero_add, List.getElem?_append_left (by simp [eight]; omega)]; rfl
  | p :: P, j + 1, h, r, hr => by
    have ih := flat8_get P j (by simpa using h) r hr
    have e1 : flat8 (p :: P) = eight p ++ flat8 P := rfl
    rw [e1, List.getElem?_append_right (by simp [eight]; omega), show (j + 1) * 8 + r - (eight p).length = j * 8 + r by simp [eight]; omega, ih]; rfl
theorem flat8_one (P : List (Int × Int)) : ∀ u ∈ flat8 P, u.oneCell' = true := by
  intro u hu
  obtain ⟨p, _, h⟩ := List.mem_flatMap.1 hu
  simp only [eight, List.mem_cons, List.not_mem_nil, or_false] at h
  rcases h with rfl | rfl | rfl | rfl | rfl | rfl | rfl | rfl <;> rfl
theorem info36 : (Try.prog.info? 36).map (fun i => (i.zero, i.size, i.bytes)) = some (some (.agg #[.int .i64 0, .int .i64 0, .int .i64 0, .int .i64 0, .slice none 0 0, .int .i64 0, .int .i64 0, .int .i64 0]), 8, 80) := by kernel_rfl
theorem info38 : (Try.prog.info? 38).map (fun i => (i.zero, i.size, i.bytes)) = some (some (.agg #[.int .i64 0, .int .i64 0]), 2, 16) := by kernel_rfl

/-- A row of objects that a call has made. -/
def SRow (w : World) (base : Nat) (v : Value) (P : List (Int × Int)) : Prop := w.ownsRow base 36 8 v P.length (flat8 P)
theorem SRow.nil (w : World) (base : Nat) : SRow w base (.slice none 0 0) [] := World.ownsRow_nil w base 36 8
theorem SRow.turn {w w' : World} {base : Nat} {v : Value} {L : List (Int × Int)} (h : SRow w base v L) (hk : ∀ k, v.ownBlock = some k → w'.heap[k]? = w.heap[k]?) : SRow w' base v L := by
  refine ⟨h.1, h.2.imp id ?_⟩
  rintro ⟨g, cap, cur, e1, e2, e3, r⟩
  refine ⟨g, cap, cur, e1, e2, ?_, r⟩
  rw [hk g (by rw [e1]; rfl)]; exact e3
theorem SRow.block {w : World} {base : Nat} {v : Value} {L : List (Int × Int)} (h : SRow w base v L) {k : Nat} (hk : v.ownBlock = some k) : base ≤ k ∧ ∃ c, w.heap[k]? = some (.cells c 36 (0, 0)) := by
  rcases h.2 with ⟨rfl, h0⟩ | ⟨g, cap, cur, rfl, hb, hg, _⟩
  · cases hk
  · simp only [Value.ownBlock, Option.some.injEq] at hk
    subst hk
    exact ⟨hb, cur, hg⟩
theorem SRow.form {w : World} {base : Nat} {v : Value} {L : List (Int × Int)} (h : SRow w base v L) : ∃ ao c, v = .slice ao L.length c := by
  rcases h.2 with ⟨rfl, h0⟩ | ⟨g, cap, cur, rfl, _⟩
  · exact ⟨_, _, by rw [h0]⟩
  · exact ⟨_, _, rfl⟩
/-- An object is appended. -/
theorem app_sn {ops : Array Oper} {rest : List Oper} {o : Oper} {a : Act} {Q : Exit → Act → World → Prop} {w : World} (hgd : o.guard = none) (s x : Operand)
    (ho : o.op = .call { callee := .builtin .append, args := #[s, x], argTypes := #[27, 27] }) (base : Nat) (v : Value) (L : List (Int × Int)) (hs : a.eval s = v) (hrow : SRow w base v L)
    (N : Nat) (e : Int × Int) (hx : a.eval x = .slice (some ⟨N, 0, none⟩) 1 1) (hN : w.heap[N]? = some (.cells (eight e).toArray 36 (0, 0))) (hlen : L.length + 1 ≤ 1000000) (hbase : base ≤ w.heap.size)
    (h : ∀ v' w', Hid (SRow w' base v' (L ++ [e])) → Hid (w.grownBy w' v.ownBlock) → wpList Try.prog ops Q rest (a.put o.dst v') w') : wpList Try.prog ops Q (o :: rest) a w := by
  obtain ⟨i0, hi, hz0, hz1, hz2⟩ := info_parts info36
  refine wpList_append_own _ hgd s x 27 ho base 36 i0 _ 8 80 Try.underlying27 hi hz0 hz1 hz2 rfl (by decide) v L.length (flat8 L) hs hrow ⟨N, 0, none⟩ 1 1 (flat8 [e]) hx rfl ?_ (flat8_one _)
      (by unfold maxLen; omega) (by omega) hbase ?_
  · intro j u hu
    have hc := cell_of hN j
    have e1 : flat8 [e] = eight e := by simp [flat8]
    rw [e1] at hu
    have e3 : (⟨N, 0, none⟩ : Addr).add j = ⟨N, j, none⟩ := by
      simp only [Addr.add, Nat.zero_add]
      split
      · rename_i h; rw [h]
      · rfl
    rw [e3, hc, List.getElem?_toArray]; exact hu
  · intro v' w' h1 h2 h3
    refine h v' w' ?_ h2
    show World.ownsRow _ _ _ _ _ _ _
    have e2 : flat8 (L ++ [e]) = flat8 L ++ flat8 [e] := by simp [flat8]
    rw [List.length_append, e2]; exact h1

/-- A row of values that a call has made. -/
def URow (w : World) (base : Nat) (v : Value) (L : List V) : Prop := w.ownsRow base 38 2 v L.length (ic (flatV L))
theorem URow.nil (w : World) (base : Nat) : URow w base (.slice none 0 0) [] := World.ownsRow_nil w base 38 2
theorem URow.turn {w w' : World} {base : Nat} {v : Value} {L : List V} (h : URow w base v L) (hk : ∀ k, v.ownBlock = some k → w'.heap[k]? = w.heap[k]?) : URow w' base v L := by
  refine ⟨h.1, h.2.imp id ?_⟩
  rintro ⟨g, cap, cur, e1, e2, e3, r⟩
  refine ⟨g, cap, cur, e1, e2, ?_, r⟩
  rw [hk g (by rw [e1]; rfl)]; exact e3
theorem URow.block {w : World} {base : Nat} {v : Value} {L : List V} (h : URow w base v L) {k : Nat} (hk : v.ownBlock = some k) : base ≤ k ∧ ∃ c, w.heap[k]? = some (.cells c 38 (0, 0)) := by
  rcases h.2 with ⟨rfl, h0⟩ | ⟨g, cap, cur, rfl, hb, hg, _⟩
  · cases hk
  · simp only [Value.ownBlock, Option.some.injEq] at hk
    subst hk
    exact ⟨hb, cur, hg⟩
theorem URow.form {w : World} {base : Nat} {v : Value} {L : List V} (h : URow w base v L) : ∃ ao c, v = .slice ao L.length c := by
  rcases h.2 with ⟨rfl, h0⟩ | ⟨g, cap, cur, rfl, _⟩
  · exact ⟨_, _, by rw [h0]⟩
  · exact ⟨_, _, rfl⟩
theorem URow.no {w w' : World} {B : Nat} {v : Value} {L : List V} (h : URow w B v L) (hk : Kept No w w') : URow w' B v L := by
  refine h.turn (fun k e => ?_)
  obtain ⟨_, c, hc⟩ := h.block e
  rw [hc]; exact hk.heap hc id
theorem URow.rd {w : World} {base : Nat} {v : Value} {L : List V} (h : URow w base v L) : RdV w v L := by
  rcases h.2 with ⟨rfl, h0⟩ | ⟨g, cap, cur, rfl, _⟩
  · exact ⟨none, 0, by rw [h0], fun j hj => by omega⟩
  · refine ⟨_, _, rfl, fun j hj => ⟨g, 0, rfl, ?_, ?_⟩⟩
    · rw [Nat.zero_add]; exact (World.ownsRow.cellAt h _ (by omega)).trans (flatV_get L j hj).1
    · rw [Nat.zero_add]; exact (World.ownsRow.cellAt h _ (by omega)).trans (flatV_get L j hj).2
/-- A value is appended, in a region that draws its order. -/
theorem app_uO {o : Oper} {a : Act} {K : Act → World → Prop} {Q : Exit → Act → World → Prop} {w : World} (s x : Operand)
    (ho : o.op = .call { callee := .builtin .append, args := #[s, x], argTypes := #[32, 32] }) {base : Nat} {v : Value} {L : List V} (hs : a.eval s = v) (hrow : URow w base v L)
    (N : Nat) (e : V) (hx : a.eval x = .slice (some ⟨N, 0, none⟩) 1 1) (hN : w.heap[N]? = some (.cells #[.int .i64 e.1, .int .i64 e.2] 38 (0, 0))) (hlen : L.length + 1 ≤ 1000000) (hbase : base ≤ w.heap.size)
    (h : ∀ v' w', URow w' base v' (L ++ [e]) → w.grownBy w' v.ownBlock → K (a.put o.dst v') w') : o.wp Try.prog a w K Q := by
  obtain ⟨i0, hi, hz0, hz1, hz2⟩ := info_parts info38
  obtain ⟨v', w', hr, h2, h3, h4, h5⟩ := run_append_own_at (P := Try.prog) w base 32 o.type 38 i0 (.agg #[.int .i64 0, .int .i64 0]) 2 16 Try.underlying32 hi hz0 hz1 hz2 rfl (by decide) v L.length (ic (flatV L)) hrow ⟨N, 0, none⟩ 1 1 (ic (flatV [e])) rfl
    (by
      intro j u hu
      have hc := cell_of hN
      rcases j with _ | _ | j
      · simp [ic, flatV] at hu; subst hu; simpa [Addr.add] using hc 0
      · simp [ic, flatV] at hu; subst hu; simpa [Addr.add] using hc 1
      · simp [ic, flatV] at hu) (ic_one _) (by unfold maxLen; omega) (by omega) hbase
  unfold Oper.wp execOp
  simp only [ho, resolve, invoke, builtin, Sem.run_bind, Sem.run_pure, Result.andThen_ok, List.map_toArray, List.map_cons, List.map_nil, hs, hx, hr]
  refine h v' w' ?_ h3
  show World.ownsRow _ _ _ _ _ _ _
  rw [List.length_append, flatV_append, ic_append]; exact h2

/-- The row of objects while their slots are made: block rb, with these slices. -/
def FS (W : World) (rb n : Nat) (kd : Nat → Int) (vs : Nat → Value) : Prop :=
  ∃ cur : Array Value, W.heap[rb]? = some (.cells cur 36 (0, 0)) ∧ ∀ j, j < n → cur[j * 8]? = some (.int .i64 ((j : Int) + 1)) ∧ cur[j * 8 + 1]? = some (.int .i64 (kd j)) ∧ cur[j * 8 + 2]? = some (.int .i64 0) ∧ cur[j * 8 + 3]? = some (.int .i64 0) ∧
    cur[j * 8 + 4]? = some (vs j) ∧ cur[j * 8 + 5]? = some (.int .i64 0) ∧ cur[j * 8 + 6]? = some (.int .i64 1) ∧ cur[j * 8 + 7]? = some (.int .i64 0)
theorem FS.same {W W' : World} {rb n : Nat} {kd : Nat → Int} {vs : Nat → Value} (h : FS W rb n kd vs) (hk : W'.heap[rb]? = W.heap[rb]?) : FS W' rb n kd vs := by
  obtain ⟨cur, h1, h2⟩ := h
  exact ⟨cur, hk.trans h1, h2⟩
theorem FS.typ {W : World} {rb n : Nat} {kd : Nat → Int} {vs : Nat → Value} (h : FS W rb n kd vs) : ∃ c, W.heap[rb]? = some (.cells c 36 (0, 0)) := by
  obtain ⟨cur, h1, h2⟩ := h
  exact ⟨cur, h1⟩
theorem FS.set {W : World} {rb n : Nat} {kd : Nat → Int} {vs : Nat → Value} (h : FS W rb n kd vs) {i : Nat} (hi : i < n) (v : Value) : FS (W.setCell ⟨rb, i * 8 + 4, none⟩ v) rb n kd (fun j => if j = i then v else vs j) := by
  obtain ⟨cur, h1, h2⟩ := h
  refine ⟨_, hp_set_same h1 _ v, fun j hj => ?_⟩
  obtain ⟨a0, a1, a2, a3, a4, a5, a6, a7⟩ := h2 j hj
  have hs : i * 8 + 4 < cur.size := by
    have := (h2 i hi).2.2.2.2.1
    exact (Array.getElem?_eq_some_iff.1 this).1
  simp only [Array.getElem?_setIfInBounds]
  refine ⟨?_, ?_, ?_, ?_, ?_, ?_, ?_, ?_⟩
  · rw [if_neg (by omega)]; exact a0
  · rw [if_neg (by omega)]; exact a1
  · rw [if_neg (by omega)]; exact a2
  · rw [if_neg (by omega)]; exact a3
  · by_cases e : j = i
    · subst e; rw [if_pos rfl, if_pos hs, if_pos rfl]
    · rw [if_neg (by omega), if_neg e]; exact a4
  · rw [if_neg (by omega)]; exact a5
  · rw [if_neg (by omega)]; exact a6
  · rw [if_neg (by omega)]; exact a7
/-- A row of values below B that can be read. -/
def RdB (W : World) (B : Nat) (v : Value) (L : List V) : Prop := RdV W v L ∧ ∀ a n c, v = .slice (some a) n c → a.block < B ∧ ∃ cs, W.heap[a.block]? = some (.cells cs 38 (0, 0))
theorem RdB.turn {W W' : World} {B B' : Nat} {v : Value} {L : List V} (h : RdB W B v L) (hB : B ≤ B') (hk : ∀ k cs, k < B → W.heap[k]? = some (.cells cs 38 (0, 0)) → W'.heap[k]? = some (.cells cs 38 (0, 0))) : RdB W' B' v L := by
  obtain ⟨⟨ao, cap, e, h1⟩, h2⟩ := h
  refine ⟨⟨ao, cap, e, fun j hj => ?_⟩, fun a n c e' => ?_⟩
  · obtain ⟨b, off, e2, c0, c1⟩ := h1 j hj
    obtain ⟨hb, cs, hcs⟩ := h2 ⟨b, off, none⟩ _ _ (by rw [e, e2])
    have e3 : ∀ o, W'.cell? ⟨b, o, none⟩ = W.cell? ⟨b, o, none⟩ := fun o => World.cell?_of_block ((hk b cs hb hcs).trans hcs.symm)
    exact ⟨b, off, e2, by rw [e3]; exact c0, by rw [e3]; exact c1⟩
  · obtain ⟨hb, cs, hcs⟩ := h2 a n c e'
    exact ⟨by omega, cs, hk _ cs hb hcs⟩
theorem URow.rdB {w : World} {base : Nat} {v : Value} {L : List V} (h : URow w base v L) : RdB w w.heap.size v L := by
  refine ⟨h.rd, fun a n c e => ?_⟩
  rcases h.2 with ⟨e', h0⟩ | ⟨g, cap, cur, e', hb, hg, _⟩
  · rw [e'] at e; cases e
  · rw [e'] at e
    injection e with e1
    injection e1 with e1
    subst e1
    exact ⟨hp_lt hg, cur, hg⟩
theorem SRow.fs {w : World} {base rb cap : Nat} {P : List (Int × Int)} {kd : Nat → Int} (h : SRow w base (.slice (some ⟨rb, 0, none⟩) P.length cap) P) (hP : ∀ j (hj : j < P.length), P[j] = ((j : Int) + 1, kd j)) (h0 : 0 < P.length) : FS w rb P.length kd (fun _ => .slice none 0 0) := by
  rcases h.2 with ⟨e, h0'⟩ | ⟨g, cap', cur, e, hb, hg, hc, _⟩
  · omega
  · injection e with e1
    injection e1 with e1
    injection e1 with e1
    subst e1
    refine ⟨cur, hg, fun j hj => ?_⟩
    have hcell : ∀ r, r < 8 → cur[j * 8 + r]? = (eight P[j])[r]? := fun r hr => by
      have := World.ownsRow.cellAt h (j * 8 + r) (by omega)
      rw [cell_of hg] at this
      rw [this]; exact flat8_get P j hj r hr
    have e8 := hP j hj
    rw [e8] at hcell
    exact ⟨hcell 0 (by omega), hcell 1 (by omega), hcell 2 (by omega), hcell 3 (by omega), hcell 4 (by omega), hcell 5 (by omega), hcell 6 (by omega), hcell 7 (by omega)⟩
end Go.Proofs.Ytnihfakhijjjkaa
