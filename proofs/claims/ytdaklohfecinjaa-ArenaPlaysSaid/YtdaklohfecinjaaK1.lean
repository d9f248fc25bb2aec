/- What lies in a block stays there: plain facts. -/
import Derived.Test.YtdaklohfecinjaaH1
namespace Go.Proofs.Ytdaklohfecinjaa
open Go.RowKit
set_option linter.unusedSimpArgs false
set_option linter.unusedVariables false

/-- The block with the handle h0 has the cells d. -/
def Hold (cs : List Int) (hb : List (Nat × Nd)) (h0 : Nat) (d : List Int) : Prop := ∃ x ∈ hb, x.1 = h0 ∧ x.2.s = d.length ∧ ∀ j, j < d.length → cs.getD (x.2.a + j) 0 = d.getD j 0

theorem Geo.apart {size o : Nat} {l : List Nd} (h : Geo size o l) {x y : Nd} (hx : x ∈ l) (hy : y ∈ l) (hne : x.p ≠ y.p) : x.a + x.s ≤ y.a ∨ y.a + y.s ≤ x.a := by
  obtain ⟨i, hi, rfl⟩ := List.getElem_of_mem hx
  obtain ⟨k, hk, rfl⟩ := List.getElem_of_mem hy
  rcases Nat.lt_trichotomy i k with e | e | e
  · exact .inl (h.pair i k e hk)
  · subst e; exact absurd rfl hne
  · exact .inr (h.pair k i e hi)

theorem p_inj : ∀ {hb : List (Nat × Nd)}, (hb.map fun x => x.2.p).Nodup → ∀ {x y : Nat × Nd}, x ∈ hb → y ∈ hb → x.2.p = y.2.p → x = y
  | z :: r, hn, x, y, hx, hy, e => by
    rw [List.map_cons, List.nodup_cons] at hn
    rcases List.mem_cons.1 hx with hx1 | hx1 <;> rcases List.mem_cons.1 hy with hy1 | hy1
    · rw [hx1, hy1]
    · refine absurd ?_ hn.1
      rw [← hx1, e]; exact List.mem_map_of_mem (f := fun x : Nat × Nd => x.2.p) hy1
    · refine absurd ?_ hn.1
      rw [← hy1, ← e]; exact List.mem_map_of_mem (f := fun x : Nat × Nd => x.2.p) hx1
    · exact p_inj hn.2 hx1 hy1 e

theorem Rp.apart {w : World} {A C M F f size least n : Nat} {cs : List Int} {hb : List (Nat × Nd)} (h : Rp w A C M F f size least n cs hb) {x y : Nat × Nd} (hx : x ∈ hb) (hy : y ∈ hb) (hne : x.1 ≠ y.1) : x.2.a + x.2.s ≤ y.2.a ∨ y.2.a + y.2.s ≤ x.2.a := by
  refine h.geo.apart (List.mem_cons_of_mem _ (List.mem_map_of_mem hx)) (List.mem_cons_of_mem _ (List.mem_map_of_mem hy)) (fun e => hne ?_)
  have hn : (hb.map fun x => x.2.p).Nodup := by
    have := h.nod
    simp only [nodes, List.map_cons, List.nodup_cons, List.map_map] at this
    exact this.2
  rw [p_inj hn hx hy e]

theorem putL_out {cs : List Int} {o : Nat} {ys : List Int} {j : Nat} (h : o + ys.length ≤ cs.length) (hj : j < o ∨ o + ys.length ≤ j) : (putL cs o ys).getD j 0 = cs.getD j 0 := by
  rw [putL_getD _ _ _ h, if_neg (by omega)]
theorem layC_out {cs : List Int} {ba k at' n j : Nat} (h1 : ba + k ≤ cs.length) (h2 : at' + n ≤ cs.length) (hk : k ≤ n) (hj : j < at' ∨ at' + n ≤ j) : (layC cs ba k at' n).getD j 0 = cs.getD j 0 := by
  unfold layC
  have l1 : ((cs.drop ba).take k).length = k := by simp; omega
  rw [putL_out (by rw [putL_length (by rw [l1]; omega)]; simp; omega) (by simp; omega), putL_out (by rw [l1]; omega) (by rw [l1]; omega)]

theorem mem_rem {hb : List (Nat × Nd)} {k : Nat} (hk : k < hb.length) {x : Nat × Nd} (hx : x ∈ hb) (hne : x.1 ≠ hb[k].1) : x ∈ rem hb k := by
  rcases List.mem_cons.1 ((rem_perm hk).mem_iff.1 hx) with e | e
  · exact absurd (by rw [e]) hne
  · exact e

theorem Hold.other {cs cs' : List Int} {hb hb' : List (Nat × Nd)} {h0 : Nat} {d : List Int} (h : Hold cs hb h0 d) (hs : ∀ x ∈ hb, x.1 = h0 → x ∈ hb' ∧ ∀ j, j < x.2.s → cs'.getD (x.2.a + j) 0 = cs.getD (x.2.a + j) 0) : Hold cs' hb' h0 d := by
  obtain ⟨x, hx, e1, e2, e3⟩ := h
  obtain ⟨h1, h2⟩ := hs x hx e1
  exact ⟨x, h1, e1, e2, fun j hj => by rw [h2 j (by omega)]; exact e3 j hj⟩

/-- A block, where it lies behind a compaction. -/
theorem cmpH_at : ∀ {o : Nat} {hb : List (Nat × Nd)} {k : Nat} (hk : k < hb.length), (hb[k].1, (⟨hb[k].2.p, o + sumS ((hb.map Prod.snd).take k), hb[k].2.s⟩ : Nd)) ∈ cmpH o hb
  | o, x :: r, 0, _ => by simp [cmpH, sumS]
  | o, x :: r, k + 1, hk => by
    have := cmpH_at (o := o + x.2.s) (hb := r) (k := k) (by simpa using hk)
    simp only [cmpH, List.map_cons, List.take_succ_cons, sumS_cons, List.getElem_cons_succ]
    refine List.mem_cons_of_mem _ ?_
    rw [Nat.add_assoc] at this
    exact this

theorem Hold.compact {cs : List Int} {F size : Nat} {hb : List (Nat × Nd)} {h0 : Nat} {d : List Int} (h : Hold cs hb h0 d) (hg : Geo size 0 (nodes F hb)) (hl : cs.length = size) :
    ∃ x, x ∈ cmpH 0 hb ∧ x.1 = h0 ∧ x.2.s = d.length ∧ x.2.a + x.2.s ≤ sumS (nodes F hb) ∧ ∀ j, j < d.length → (cc cs (nodes F hb) (nodes F hb).length).getD (x.2.a + j) 0 = d.getD j 0 := by
  obtain ⟨x, hx, e1, e2, e3⟩ := h
  obtain ⟨k, hk, rfl⟩ := List.getElem_of_mem hx
  have hk1 : k + 1 < (nodes F hb).length := by simp [nodes]; omega
  have hat := nodes_at F hb hk
  have hs1 : sumS ((nodes F hb).take (k + 1)) = sumS ((hb.map Prod.snd).take k) := by simp [nodes, sumS]
  have hd := cc_data hg hl (nodes F hb).length (Nat.le_refl _) (k + 1) hk1
  rw [if_pos hk1, hat, hs1] at hd
  have hbd := hg.bd hb[k].2 (List.mem_cons_of_mem _ (List.mem_map_of_mem (List.getElem_mem hk)))
  have hle := hg.le
  have hcl := cc_length hg hl (nodes F hb).length
  have hsum : sumS ((hb.map Prod.snd).take k) + hb[k].2.s ≤ sumS (nodes F hb) := by
    have h1 : sumS (nodes F hb) = sumS ((nodes F hb).take (k + 1)) + sumS ((nodes F hb).drop (k + 1)) := by rw [← sumS_append, List.take_append_drop]
    rw [List.drop_eq_getElem_cons hk1, sumS_cons, hat, hs1] at h1
    omega
  refine ⟨_, cmpH_at (o := 0) hk, e1, e2, by dsimp only; omega, fun j hj => ?_⟩
  dsimp only
  rw [Nat.zero_add]
  have hjs : j < hb[k].2.s := by omega
  have h1 := data_getD (cs := cc cs (nodes F hb) (nodes F hb).length) (x := ⟨hb[k].2.p, sumS ((hb.map Prod.snd).take k), hb[k].2.s⟩) (j := j) (by dsimp only; omega) hjs
  have h2 := data_getD (cs := cs) (x := hb[k].2) (j := j) (by omega) hjs
  dsimp only at h1
  rw [← h1, hd, h2]
  exact e3 j hj
end Go.Proofs.Ytdaklohfecinjaa
