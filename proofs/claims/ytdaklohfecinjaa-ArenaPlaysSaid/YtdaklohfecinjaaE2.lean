/- An arena one of whose blocks is out of the order: Resize and Extend pass through it. -/
import Derived.Test.YtdaklohfecinjaaE1
namespace Go.Proofs.Ytdaklohfecinjaa
open Go.RowKit
set_option linter.unusedSimpArgs false
set_option linter.unusedVariables false

/-- What of an arena is there whatever its handles are. -/
structure Rq (w : World) (A C M F f size least : Nat) (cs : List Int) (l : List Nd) : Prop where
  hA : w.heap[A]? = some (ar C M F f size least)
  hC : w.heap[C]? = some (cl cs)
  len : cs.length = size
  seg : Seg w none l none
  nod : (l.map Nd.p).Nodup
  geo : Geo size 0 l
  sz : size ≤ 65536
  full : ∃ j, ∃ hj : j < l.length, f = l[j].p ∧ ∀ i, i < j → gap l size i = 0

theorem Rq.bd {w : World} {A C M F f size least : Nat} {cs : List Int} {l : List Nd} (h : Rq w A C M F f size least cs l) : ∀ x ∈ l, x.a + x.s ≤ 65536 :=
  fun x hx => by have := h.geo.bd x hx; have := h.sz; omega
theorem Rq.ne {w : World} {A C M F f size least : Nat} {cs : List Int} {l : List Nd} (h : Rq w A C M F f size least cs l) : A ≠ C ∧ (∀ x ∈ l, A ≠ x.p) ∧ (∀ x ∈ l, C ≠ x.p) := by
  refine ⟨fun e => cl_ar h.hC h.hA e.symm, fun x hx => ?_, fun x hx => ?_⟩
  · obtain ⟨k, hk, rfl⟩ := List.getElem_of_mem hx
    obtain ⟨ah, hx⟩ := h.seg.at hk
    exact ar_nd h.hA hx
  · obtain ⟨k, hk, rfl⟩ := List.getElem_of_mem hx
    obtain ⟨ah, hx⟩ := h.seg.at hk
    exact cl_nd h.hC hx

set_option maxHeartbeats 400000 in
theorem Rq.place {A C M F f size least n : Nat} {cs : List Int} {l : List Nd} {w : World} (h : Rq w A C M F f size least cs l) (hn : 1 ≤ n) :
    Calls Try.prog 58 #[.pointer (some ⟨A, 0, none⟩), .int .i64 n] w fun e w' => ∃ r, e = .returned (.pointer (pt r)) ∧
      ((∃ k, ∃ hk : k < l.length, r = some l[k].p ∧ (n : Int) ≤ gap l size k ∧ ∀ i, i < k → gap l size i < n) ∨ (r = none ∧ ∀ i, i < l.length → gap l size i < n)) ∧
      (∃ f', Rq w' A C M F f' size least cs l) ∧ Kept (Only A) w w' := by
  obtain ⟨j, hj, hf, hz⟩ := h.full
  have hs := h.seg
  rw [← List.take_append_drop j l, Seg_append] at hs
  have hlen : (l.drop j).length = l.length - j := List.length_drop
  have hsub : (l.drop j).map Nd.p = (l.map Nd.p).drop j := List.map_drop
  refine (place_any (l.drop j) w h.hA hs.2 (by rw [hd_drop hj, hf]) (by rw [hsub]; exact h.nod.sublist (List.drop_sublist _ _)) (fun x hx => h.bd x (List.mem_of_mem_drop hx)) h.sz hn).mono ?_
  rintro e w' ⟨r, he, hr, ⟨i, hi, hi0, hiA⟩, hk⟩
  have hij : j + i < l.length := by clear hr hi0 hiA hk; rw [hlen] at hi; omega
  refine ⟨r, he, ?_, ⟨(l.drop j)[i].p, ?_⟩, hk⟩
  · rcases hr with ⟨k, hk, h1, h2, h3⟩ | ⟨h1, h2⟩
    · refine .inl ⟨j + k, by omega, ?_, by rw [← gap_drop]; exact h2, fun i' hi' => ?_⟩
      · rw [h1, List.getElem_drop]
      · by_cases e : i' < j
        · rw [hz i' e]; omega
        · have := h3 (i' - j) (by omega)
          rwa [gap_drop, show j + (i' - j) = i' by omega] at this
    · refine .inr ⟨h1, fun i' hi' => ?_⟩
      by_cases e : i' < j
      · rw [hz i' e]; omega
      · have := h2 (i' - j) (by omega)
        rwa [gap_drop, show j + (i' - j) = i' by omega] at this
  · obtain ⟨hn1, hn2, hn3⟩ := h.ne
    refine ⟨hiA, hk.heap h.hC (fun e => hn1 e.symm), h.len, h.seg.kept hk (fun x hx e => hn2 x hx e.symm), h.nod, h.geo, h.sz, ⟨j + i, hij, by rw [List.getElem_drop], fun i' hi' => ?_⟩⟩
    by_cases e : i' < j
    · exact hz i' e
    · have := hi0 (i' - j) (by omega)
      rwa [gap_drop, show j + (i' - j) = i' by omega] at this

/-- An arena with a block out of its order. -/
theorem Rp.out {w w' : World} {A C M F f f' size least nn k j : Nat} {cs : List Int} {hb : List (Nat × Nd)} (h : Rp w A C M F f size least nn cs hb) (hk : k < hb.length)
    (hj : j < (nodes F hb).length) (hz : ∀ i, i < j → gap (nodes F hb) size i = 0) (hf : f = (nodes F hb)[j].p)
    (hf' : f' = nf hb[k].2.a ((nodes F hb)[j].a + (nodes F hb)[j].s) ((nodes F hb)[k]'(by simp [nodes]; omega)).p f)
    (hA' : w'.heap[A]? = some (ar C M F f' size least)) (hC' : w'.heap[C]? = some (cl cs)) (hs' : Seg w' none ((nodes F hb).take k ++ (nodes F hb)[k]'(by simp [nodes]; omega) :: (nodes F hb).drop (k + 2)) none) :
    Rq w' A C M F f' size least cs (nodes F (rem hb k)) := by
  have h1 : k < (nodes F hb).length := by simp [nodes]; omega
  have h2 : k + 1 < (nodes F hb).length := by simp [nodes]; omega
  have e := nodes_rem F hb hk
  have es := nodes_split2 F hb hk
  have hlen : ((nodes F hb).take k).length = k := by rw [List.length_take]; omega
  have hsub : ((nodes F (rem hb k)).map Nd.p).Sublist ((nodes F hb).map Nd.p) := by
    refine List.Sublist.map _ ?_
    conv => rhs; rw [es]
    rw [e]
    exact List.Sublist.append_left (List.Sublist.cons_cons _ (List.sublist_cons_self _ _)) _
  have hgap : ∀ i, i < k → gap (nodes F (rem hb k)) size i = gap (nodes F hb) size i := by
    intro i hi
    conv => rhs; rw [es]
    rw [e, gap_ins (by rw [hlen]; exact hi)]
  have hgeo : Geo size 0 (nodes F (rem hb k)) := by
    have hg := h.geo
    rw [es] at hg
    rw [e]
    have key : ∀ (X : List Nd) (o : Nat) (x y : Nd) (Y : List Nd), Geo size o (X ++ x :: y :: Y) → Geo size o (X ++ x :: Y) := by
      intro X
      induction X with
      | nil =>
        rintro o x y Y ⟨g1, g2, g3⟩
        refine ⟨g1, ?_⟩
        cases Y with
        | nil => exact (by have : y.a + y.s ≤ size := g3; show x.a + x.s ≤ size; omega)
        | cons z Z => exact ⟨by have := g3.1; omega, g3.2⟩
      | cons z Z ih => rintro o x y Y ⟨g1, g2⟩; exact ⟨g1, ih _ x y Y g2⟩
    exact key _ _ _ _ _ hg
  have hpk := (h.pos hb[k] (List.getElem_mem hk)).1
  have hat := nodes_at F hb hk
  refine ⟨hA', hC', h.len, by rw [e]; exact hs', h.nod.sublist hsub, hgeo, h.sz, ?_⟩
  rw [hf']
  by_cases hc : hb[k].2.a < (nodes F hb)[j].a + (nodes F hb)[j].s
  · rw [nf_lt hc]
    have hkj : k + 1 ≤ j := by
      rcases Nat.lt_or_ge j (k + 1) with hlt | hge
      · have := h.geo.pair j (k + 1) hlt h2
        rw [hat] at this; omega
      · exact hge
    have hk' : k < (nodes F (rem hb k)).length := by rw [e, List.length_append, hlen]; simp
    refine ⟨k, hk', ?_, fun i hi => by rw [hgap i hi]; exact hz i (by omega)⟩
    have : (nodes F (rem hb k))[k]? = some ((nodes F hb)[k]) := by
      rw [e, List.getElem?_append_right (by omega), hlen, Nat.sub_self]; rfl
    rw [List.getElem?_eq_getElem hk'] at this
    rw [Option.some.inj this]
  · rw [nf_ge hc]
    have hjk : j ≤ k := by
      rcases Nat.lt_or_ge k j with hlt | hge
      · by_cases ej : j = k + 1
        · subst ej; rw [hat] at hc; omega
        · have := h.geo.pair (k + 1) j (by omega) hj
          rw [hat] at this; omega
      · exact hge
    have e2 : nodes F (rem hb k) = (nodes F hb).take (k + 1) ++ (nodes F hb).drop (k + 2) := by
      rw [e, List.take_succ_eq_append_getElem h1, List.append_assoc]; rfl
    have hj' : j < (nodes F (rem hb k)).length := by rw [e2, List.length_append, List.length_take]; omega
    refine ⟨j, hj', ?_, fun i hi => by rw [hgap i (by omega)]; exact hz i hi⟩
    have : (nodes F (rem hb k))[j]? = (nodes F hb)[j]? := by
      rw [e2, List.getElem?_append_left (by rw [List.length_take]; omega), List.getElem?_take, if_pos (by omega)]
    rw [List.getElem?_eq_getElem hj, List.getElem?_eq_getElem hj'] at this
    rw [hf, Option.some.inj this]

theorem sub_mem {X Y : List Nd} {x b y : Nd} (hy : y ∈ X ++ x :: Y) : y ∈ X ++ x :: b :: Y := by
  rcases List.mem_append.1 hy with hy | hy
  · exact List.mem_append.2 (.inl hy)
  · rcases List.mem_cons.1 hy with rfl | hy
    · exact List.mem_append.2 (.inr List.mem_cons_self)
    · exact List.mem_append.2 (.inr (List.mem_cons_of_mem _ (List.mem_cons_of_mem _ hy)))

/-- unlink, of a whole arena. -/
theorem Rp.unlink {A C M F f size least nn k : Nat} {cs : List Int} {hb : List (Nat × Nd)} (w : World) (h : Rp w A C M F f size least nn cs hb) (hk : k < hb.length) :
    Calls Try.prog 63 #[.pointer (some ⟨A, 0, none⟩), .pointer (some ⟨hb[k].2.p, 0, none⟩)] w fun e w' => (∃ v, e = .returned v) ∧ (∃ f', Rq w' A C M F f' size least cs (nodes F (rem hb k))) ∧
      w'.heap[hb[k].2.p]? = some (nd hb[k].2.a hb[k].2.s (some ((nodes F hb)[k]'(by simp [nodes]; omega)).p) (hd ((nodes F hb).drop (k + 2)) none)) ∧ MapIs w' M nn (look hb) ∧ Kept (FP A C M F hb) w w' := by
  obtain ⟨j, hj, hf, hz⟩ := h.full
  obtain ⟨ahj, hjn⟩ := h.seg.at hj
  have hbdj := h.bd (nodes F hb)[j] (List.getElem_mem hj)
  have hsp := nodes_split2 F hb hk
  have hs := h.seg
  have hn := h.nod
  rw [hsp] at hs hn
  refine (unlink_list w h.hA (by rw [hf]; exact hjn) hbdj hs hn).mono ?_
  rintro e w1 ⟨hv, ha1, hb1, hs1, hk1, hz1⟩
  obtain ⟨n1, n2, n3⟩ := h.ne
  have hmne := h.map_ne
  have hsub : ∀ y ∈ (nodes F hb).take k ++ (nodes F hb)[k]'(by simp [nodes]; omega) :: (nodes F hb).drop (k + 2), y ∈ nodes F hb := fun y hy => by
    rw [hsp]; exact sub_mem hy
  refine ⟨hv, ⟨_, h.out hk hj hz hf rfl ha1 (hk1.heap h.hC ?_) hs1⟩, hb1, h.map.kept hk1 ?_, hk1.mono ?_⟩
  · rintro (e | e)
    · exact n1 e.symm
    · obtain ⟨y, hy, e⟩ := List.mem_map.1 e
      exact n3 y (hsub y hy) e.symm
  · rintro (e | e)
    · exact hmne.1 e
    · obtain ⟨y, hy, e⟩ := List.mem_map.1 e
      exact hmne.2.2 y (hsub y hy) e.symm
  · rintro y (e | e)
    · exact .inl e
    · obtain ⟨z, hz, e⟩ := List.mem_map.1 e
      exact .inr (.inr (.inr (by rw [← e]; exact List.mem_map_of_mem (hsub z hz))))

/-- The block comes back, here or elsewhere. -/
theorem Rq.back {w w1 w5 : World} {A C M F f0 f size least nn k k' a m : Nat} {cs0 cs cs5 : List Int} {hb : List (Nat × Nd)} (h0 : Rp w A C M F f0 size least nn cs0 hb) (hk : k < hb.length)
    (q : Rq w1 A C M F f size least cs (nodes F (rem hb k))) (hk' : k' < (nodes F (rem hb k)).length) (hm : 1 ≤ m) (hgk : 1 ≤ gap (nodes F (rem hb k)) size k')
    (hgeo : Geo size 0 ((nodes F (rem hb k)).take k' ++ (nodes F (rem hb k))[k'] :: ⟨hb[k].2.p, a, m⟩ :: (nodes F (rem hb k)).drop (k' + 1))) (hA5 : w5.heap[A]? = some (ar C M F f size least)) (hC5 : w5.heap[C]? = some (cl cs5)) (hl5 : cs5.length = size)
    (hs5 : Seg w5 none ((nodes F (rem hb k)).take k' ++ (nodes F (rem hb k))[k'] :: ⟨hb[k].2.p, a, m⟩ :: (nodes F (rem hb k)).drop (k' + 1)) none) (hM5 : MapIs w5 M nn (look hb)) :
    Rp w5 A C M F f size least nn cs5 (ins (rem hb k) k' (hb[k].1, ⟨hb[k].2.p, a, m⟩)) := by
  have e := nodes_ins F (rem hb k) hk' (hb[k].1, ⟨hb[k].2.p, a, m⟩)
  have hpk := h0.pos hb[k] (List.getElem_mem hk)
  have hlk : look (rem hb k) hb[k].1 = none := by rw [← look_rem hk h0.hnd, if_pos rfl]
  have hlook : ∀ i, look hb i = look (ins (rem hb k) k' (hb[k].1, ⟨hb[k].2.p, a, m⟩)) i := fun i => by
    rw [← look_ins hlk]
    by_cases e : i = (hb[k].1 : Int)
    · rw [if_pos e, e, look_mem h0.hnd (List.getElem_mem hk)]
    · rw [if_neg e, ← look_rem hk h0.hnd, if_neg e]
  have hnr : ((rem hb k).map Prod.fst).Nodup := by
    have := (rem_perm hk).map Prod.fst
    have := this.nodup_iff.1 h0.hnd
    rw [List.map_cons, List.nodup_cons] at this
    exact this.2
  refine ⟨hA5, hC5, hl5, by rw [e]; exact hs5, ?_, by rw [e]; exact hgeo, ?_, h0.sz1, h0.sz, hM5.congr hlook, ins_fst_nodup hnr hlk, ?_, ⟨h0.lst.1, fun i i1 i2 => by rw [← hlook]; exact h0.lst.2 i i1 i2⟩⟩
  · rw [e]
    have hs := nodes_split F (rem hb k) hk'
    have hp : (((nodes F (rem hb k)).take k' ++ (nodes F (rem hb k))[k'] :: ⟨hb[k].2.p, a, m⟩ :: (nodes F (rem hb k)).drop (k' + 1)).map Nd.p).Perm (hb[k].2.p :: (nodes F (rem hb k)).map Nd.p) := by
      conv => rhs; rw [hs]
      simp only [List.map_append, List.map_cons]
      refine List.Perm.trans ?_ List.perm_middle
      refine List.Perm.append_left _ (List.Perm.swap _ _ _)
    rw [hp.nodup_iff]
    have hp2 : ((nodes F hb).map Nd.p).Perm (hb[k].2.p :: (nodes F (rem hb k)).map Nd.p) := by
      rw [nodes_rem F hb hk]
      conv => lhs; rw [nodes_split2 F hb hk]
      simp only [List.map_append, List.map_cons]
      refine List.Perm.trans ?_ List.perm_middle
      refine List.Perm.append_left _ (List.Perm.swap _ _ _)
    exact hp2.nodup_iff.1 h0.nod
  · intro y hy
    rcases ins_mem.1 hy with rfl | hy
    · exact ⟨hm, hpk.2⟩
    · exact h0.pos y (rem_mem hy)
  · obtain ⟨j, hj, hf, hz⟩ := q.full
    have hjk : j ≤ k' := by
      rcases Nat.lt_or_ge k' j with hlt | hge
      · have := hz k' hlt; omega
      · exact hge
    have hlen : ((nodes F (rem hb k)).take k').length = k' := by rw [List.length_take]; omega
    have e2 : nodes F (ins (rem hb k) k' (hb[k].1, ⟨hb[k].2.p, a, m⟩)) = (nodes F (rem hb k)).take (k' + 1) ++ ⟨hb[k].2.p, a, m⟩ :: (nodes F (rem hb k)).drop (k' + 1) := by
      rw [e, List.take_succ_eq_append_getElem hk', List.append_assoc]; rfl
    refine ⟨j, by rw [e2]; simp; omega, ?_, fun i hi => ?_⟩
    · rw [hf]
      have : (nodes F (ins (rem hb k) k' (hb[k].1, ⟨hb[k].2.p, a, m⟩)))[j]? = (nodes F (rem hb k))[j]? := by
        rw [e2, List.getElem?_append_left (by rw [List.length_take]; omega), List.getElem?_take, if_pos (by omega)]
      rw [List.getElem?_eq_getElem hj, List.getElem?_eq_getElem (by rw [e2]; simp; omega)] at this
      rw [Option.some.inj this]
    · rw [e, gap_ins (by rw [hlen]; omega), ← nodes_split F (rem hb k) hk']; exact hz i hi
end Go.Proofs.Ytdaklohfecinjaa
