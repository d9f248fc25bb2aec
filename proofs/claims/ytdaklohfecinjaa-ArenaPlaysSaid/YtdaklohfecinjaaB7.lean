/- Free. -/
import Derived.Test.YtdaklohfecinjaaB6
namespace Go.Proofs.Ytdaklohfecinjaa
open Go.RowKit
set_option linter.unusedSimpArgs false
set_option linter.unusedVariables false

/-- One block less. -/
def rem (hb : List (Nat × Nd)) (k : Nat) : List (Nat × Nd) := hb.take k ++ hb.drop (k + 1)

theorem nodes_at (F : Nat) (hb : List (Nat × Nd)) {k : Nat} (hk : k < hb.length) : (nodes F hb)[k + 1]'(by simp [nodes]; omega) = hb[k].2 := by simp [nodes]
theorem nodes_split2 (F : Nat) (hb : List (Nat × Nd)) {k : Nat} (hk : k < hb.length) : nodes F hb = (nodes F hb).take k ++ (nodes F hb)[k]'(by simp [nodes]; omega) :: hb[k].2 :: (nodes F hb).drop (k + 2) := by
  have h1 : k < (nodes F hb).length := by simp [nodes]; omega
  have h2 : k + 1 < (nodes F hb).length := by simp [nodes]; omega
  have := nodes_split F hb h1
  rw [List.drop_eq_getElem_cons h2, nodes_at F hb hk] at this
  exact this
theorem nodes_rem (F : Nat) (hb : List (Nat × Nd)) {k : Nat} (hk : k < hb.length) : nodes F (rem hb k) = (nodes F hb).take k ++ (nodes F hb)[k]'(by simp [nodes]; omega) :: (nodes F hb).drop (k + 2) := by
  have h1 : k < (nodes F hb).length := by simp [nodes]; omega
  have h2 : nodes F (rem hb k) = (nodes F hb).take (k + 1) ++ (nodes F hb).drop (k + 2) := by
    unfold nodes rem
    simp [List.map_take, List.map_drop]
  rw [h2, List.take_succ_eq_append_getElem h1, List.append_assoc]; rfl

theorem rem_mem {hb : List (Nat × Nd)} {k : Nat} {y : Nat × Nd} (h : y ∈ rem hb k) : y ∈ hb := by
  rcases List.mem_append.1 h with h | h
  · exact List.mem_of_mem_take h
  · exact List.mem_of_mem_drop h
theorem rem_perm {hb : List (Nat × Nd)} {k : Nat} (hk : k < hb.length) : hb.Perm (hb[k] :: rem hb k) := by
  have : hb = hb.take k ++ hb[k] :: hb.drop (k + 1) := by rw [← List.drop_eq_getElem_cons hk, List.take_append_drop]
  conv => lhs; rw [this]
  exact List.perm_middle
theorem look_rem {hb : List (Nat × Nd)} {k : Nat} (hk : k < hb.length) (hn : (hb.map Prod.fst).Nodup) (i : Int) : (if i = (hb[k].1 : Int) then none else look hb i) = look (rem hb k) i := by
  have hp := (rem_perm hk).map Prod.fst
  have hn2 := hp.nodup_iff.1 hn
  rw [List.map_cons, List.nodup_cons] at hn2
  by_cases e : i = (hb[k].1 : Int)
  · rw [if_pos e]
    symm
    refine look_none.2 (fun x hx e' => hn2.1 ?_)
    have : x.1 = hb[k].1 := by omega
    rw [← this]; exact List.mem_map_of_mem hx
  · rw [if_neg e]
    cases hl : look (rem hb k) i with
    | none =>
      refine look_none.2 (fun x hx e' => ?_)
      rcases List.mem_cons.1 ((rem_perm hk).mem_iff.1 hx) with rfl | hx
      · exact e e'.symm
      · exact look_none.1 hl x hx e'
    | some p =>
      obtain ⟨x, hx, e1, e2⟩ := look_some hl
      rw [← e1, look_mem hn (rem_mem hx), e2]

/-- An arena with a block less. -/
theorem Rp.remove {w w' : World} {A C M F f f' size least least' nn k j : Nat} {cs : List Int} {hb : List (Nat × Nd)} (h : Rp w A C M F f size least nn cs hb) (hk : k < hb.length)
    (hj : j < (nodes F hb).length) (hz : ∀ i, i < j → gap (nodes F hb) size i = 0) (hf : f = (nodes F hb)[j].p)
    (hf' : f' = nf hb[k].2.a ((nodes F hb)[j].a + (nodes F hb)[j].s) ((nodes F hb)[k]'(by simp [nodes]; omega)).p f) (hl' : least' = min least hb[k].1)
    (hA' : w'.heap[A]? = some (ar C M F f' size least')) (hC' : w'.heap[C]? = some (cl cs)) (hs' : Seg w' none ((nodes F hb).take k ++ (nodes F hb)[k]'(by simp [nodes]; omega) :: (nodes F hb).drop (k + 2)) none)
    (hM' : MapIs w' M nn (fun i => if i = (hb[k].1 : Int) then none else look hb i)) :
    Rp w' A C M F f' size least' nn cs (rem hb k) := by
  have h1 : k < (nodes F hb).length := by simp [nodes]; omega
  have h2 : k + 1 < (nodes F hb).length := by simp [nodes]; omega
  have e := nodes_rem F hb hk
  have es := nodes_split2 F hb hk
  have hlen : ((nodes F hb).take k).length = k := by rw [List.length_take]; omega
  have hsub : ((nodes F (rem hb k)).map Nd.p).Sublist ((nodes F hb).map Nd.p) := by
    refine List.Sublist.map _ ?_
    conv => rhs; rw [es]
    rw [e]
    exact List.Sublist.append_left (List.Sublist.cons_cons _ (List.sublist_cons_self _ _)) _
  have hgap : ∀ i, i < k → gap (nodes F (rem hb k)) size i = gap (nodes F hb) size i := by
    intro i hi
    conv => rhs; rw [es]
    rw [e, gap_ins (by rw [hlen]; exact hi)]
  have hgeo : Geo size 0 (nodes F (rem hb k)) := by
    have hg := h.geo
    rw [es] at hg
    rw [e]
    have key : ∀ (X : List Nd) (o : Nat) (x y : Nd) (Y : List Nd), Geo size o (X ++ x :: y :: Y) → Geo size o (X ++ x :: Y) := by
      intro X
      induction X with
      | nil =>
        rintro o x y Y ⟨g1, g2, g3⟩
        refine ⟨g1, ?_⟩
        cases Y with
        | nil => exact (by have : y.a + y.s ≤ size := g3; show x.a + x.s ≤ size; omega)
        | cons z Z => exact ⟨by have := g3.1; omega, g3.2⟩
      | cons z Z ih => rintro o x y Y ⟨g1, g2⟩; exact ⟨g1, ih _ x y Y g2⟩
    exact key _ _ _ _ _ hg
  have hpk := (h.pos hb[k] (List.getElem_mem hk)).1
  have hat := nodes_at F hb hk
  refine ⟨hA', hC', h.len, by rw [e]; exact hs', h.nod.sublist hsub, hgeo, fun x hx => h.pos x (rem_mem hx), h.sz1, h.sz, hM'.congr (look_rem hk h.hnd), ?_, ?_, ⟨?_, fun i i1 i2 => ?_⟩⟩
  · have := (rem_perm hk).map Prod.fst
    have := this.nodup_iff.1 h.hnd
    rw [List.map_cons, List.nodup_cons] at this
    exact this.2
  · rw [hf']
    by_cases hc : hb[k].2.a < (nodes F hb)[j].a + (nodes F hb)[j].s
    · rw [nf_lt hc]
      have hkj : k + 1 ≤ j := by
        rcases Nat.lt_or_ge j (k + 1) with hlt | hge
        · have := h.geo.pair j (k + 1) hlt h2
          rw [hat] at this; omega
        · exact hge
      have hk' : k < (nodes F (rem hb k)).length := by rw [e, List.length_append, hlen]; simp
      refine ⟨k, hk', ?_, fun i hi => by rw [hgap i hi]; exact hz i (by omega)⟩
      have : (nodes F (rem hb k))[k]? = some ((nodes F hb)[k]) := by
        rw [e, List.getElem?_append_right (by omega), hlen, Nat.sub_self]; rfl
      rw [List.getElem?_eq_getElem hk'] at this
      rw [Option.some.inj this]
    · rw [nf_ge hc]
      have hjk : j ≤ k := by
        rcases Nat.lt_or_ge k j with hlt | hge
        · by_cases ej : j = k + 1
          · subst ej; rw [hat] at hc; omega
          · have := h.geo.pair (k + 1) j (by omega) hj
            rw [hat] at this; omega
        · exact hge
      have e2 : nodes F (rem hb k) = (nodes F hb).take (k + 1) ++ (nodes F hb).drop (k + 2) := by
        rw [e, List.take_succ_eq_append_getElem h1, List.append_assoc]; rfl
      have hj' : j < (nodes F (rem hb k)).length := by rw [e2, List.length_append, List.length_take]; omega
      refine ⟨j, hj', ?_, fun i hi => by rw [hgap i (by omega)]; exact hz i hi⟩
      have : (nodes F (rem hb k))[j]? = (nodes F hb)[j]? := by
        rw [e2, List.getElem?_append_left (by rw [List.length_take]; omega), List.getElem?_take, if_pos (by omega)]
      rw [List.getElem?_eq_getElem hj, List.getElem?_eq_getElem hj'] at this
      rw [hf, Option.some.inj this]
  · rw [hl']; have := h.lst.1; have := (h.pos hb[k] (List.getElem_mem hk)).2; omega
  · rw [← look_rem hk h.hnd, if_neg (by omega)]
    exact h.lst.2 i i1 (by omega)

set_option maxHeartbeats 400000 in
theorem Free_nil (h : Int) (w : World) : Calls Try.prog 35 #[.pointer none, .int .i64 h] w fun e w' => e = .returned (.int .i64 2) ∧ w = w' := by
  go_enter Try.func35, Try.ntmps35
  go_wp2_with (go_at_call 50; refine (find_nil _ _).mono ?_; rintro e w' ⟨rfl, rfl⟩)
  go_ret
  exact ⟨rfl, rfl⟩

set_option maxHeartbeats 400000 in
theorem Free_none {A C M F f size least nn : Nat} {cs : List Int} {hb : List (Nat × Nd)} (i : Int) (hw : wf i) (w : World) (h : Rp w A C M F f size least nn cs hb) (hl : look hb i = none) :
    Calls Try.prog 35 #[.pointer (some ⟨A, 0, none⟩), .int .i64 i] w fun e w' => e = .returned (.int .i64 5) ∧ w = w' := by
  have HR : Hid (Rp w A C M F f size least nn cs hb ∧ wf i ∧ look hb i = none) := ⟨h, hw, hl⟩
  clear h hw hl
  go_enter Try.func35, Try.ntmps35
  go_wp2_with (go_at_call 50; refine (find_none _ _ HR.out.1.hA HR.out.1.map HR.out.2.1 HR.out.2.2).mono ?_; rintro e w' ⟨rfl, rfl⟩)
  go_ret
  exact ⟨rfl, rfl⟩
end Go.Proofs.Ytdaklohfecinjaa
