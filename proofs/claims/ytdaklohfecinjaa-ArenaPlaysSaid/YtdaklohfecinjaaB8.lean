/- Free, where there is a block. -/
import Derived.Test.YtdaklohfecinjaaB7
namespace Go.Proofs.Ytdaklohfecinjaa
open Go.RowKit
set_option linter.unusedSimpArgs false
set_option linter.unusedVariables false

theorem Rp.h_le {w : World} {A C M F f size least nn : Nat} {cs : List Int} {hb : List (Nat × Nd)} (h : Rp w A C M F f size least nn cs hb) : least ≤ 65537 := by
  have := h.least_le; have := h.sz; omega

set_option maxRecDepth 100000 in
set_option maxHeartbeats 1000000 in
theorem Free_some {A C M F f size least nn k : Nat} {cs : List Int} {hb : List (Nat × Nd)} (w : World) (h : Rp w A C M F f size least nn cs hb) (hk : k < hb.length) (hw : wf hb[k].1) :
    Calls Try.prog 35 #[.pointer (some ⟨A, 0, none⟩), .int .i64 hb[k].1] w fun e w' => e = .returned (.int .i64 0) ∧ (∃ f', Rp w' A C M F f' size (min least hb[k].1) nn cs (rem hb k)) ∧ Kept (FP A C M F hb) w w' := by
  obtain ⟨j, hj, hf, hz⟩ := h.full
  have h1 : k < (nodes F hb).length := by simp [nodes]; omega
  obtain ⟨ahj, hjn⟩ := h.seg.at hj
  have hbdj := h.bd (nodes F hb)[j] (List.getElem_mem hj)
  obtain ⟨x, HX⟩ : ∃ x, Hid ((nodes F hb)[k] = x) := ⟨(nodes F hb)[k], show _ = _ from rfl⟩
  obtain ⟨b, HB⟩ : ∃ b, Hid (hb[k].2 = b) := ⟨hb[k].2, show _ = _ from rfl⟩
  obtain ⟨i, HI⟩ : ∃ i, Hid (hb[k].1 = i) := ⟨hb[k].1, show _ = _ from rfl⟩
  have hsp := nodes_split2 F hb hk
  rw [HX.out, HB.out] at hsp
  have hlook : look hb i = some b.p := by rw [← HI.out, look_mem h.hnd (List.getElem_mem hk), HB.out]
  have HS : Hid (Seg w none ((nodes F hb).take k ++ x :: b :: (nodes F hb).drop (k + 2)) none ∧ (((nodes F hb).take k ++ x :: b :: (nodes F hb).drop (k + 2)).map Nd.p).Nodup) := by
    rw [← hsp]; exact ⟨h.seg, h.nod⟩
  have HJ : Hid (w.heap[f]? = some (nd (nodes F hb)[j].a (nodes F hb)[j].s ahj (hd ((nodes F hb).drop (j + 1)) none))) := by rw [hf]; exact hjn
  have HR : Hid (Rp w A C M F f size least nn cs hb ∧ wf i ∧ look hb i = some b.p) := ⟨h, by rw [← HI.out]; exact hw, hlook⟩
  have HZ : Hid (f = (nodes F hb)[j].p ∧ ∀ i, i < j → gap (nodes F hb) size i = 0) := ⟨hf, hz⟩
  have HSP : Hid (nodes F hb = (nodes F hb).take k ++ x :: b :: (nodes F hb).drop (k + 2)) := hsp
  have hll := h.h_le
  rw [HI.out]
  clear h hw hf hz hjn hsp hlook
  go_enter Try.func35, Try.ntmps35
  go_wp2_with (go_at_call 50; refine (find_some _ _ HR.out.1.hA HR.out.1.map HR.out.2.1 HR.out.2.2).mono ?_; rintro e w' ⟨rfl, rfl⟩)
  refine (unlink_list w HR.out.1.hA HJ.out hbdj HS.out.1 HS.out.2).mono ?_
  rintro e w1 ⟨⟨v, rfl⟩, ha1, hb1, hs1, hk1, hz1⟩
  have hRp := HR.out.1
  obtain ⟨n1, n2, n3⟩ := hRp.ne
  have hmne := hRp.map_ne
  have hMU : ¬ UL A ((nodes F hb).take k ++ x :: (nodes F hb).drop (k + 2)) M := by
    rintro (e | e)
    · exact hmne.1 e
    · obtain ⟨y, hy, e⟩ := List.mem_map.1 e
      refine hmne.2.2 y ?_ e.symm
      rw [HSP.out]
      rcases List.mem_append.1 hy with hy | hy
      · exact List.mem_append.2 (.inl hy)
      · rcases List.mem_cons.1 hy with rfl | hy
        · exact List.mem_append.2 (.inr List.mem_cons_self)
        · exact List.mem_append.2 (.inr (List.mem_cons_of_mem _ (List.mem_cons_of_mem _ hy)))
  have hCU : ¬ UL A ((nodes F hb).take k ++ x :: (nodes F hb).drop (k + 2)) C := by
    rintro (e | e)
    · exact n1 e.symm
    · obtain ⟨y, hy, e⟩ := List.mem_map.1 e
      refine n3 y ?_ e.symm
      rw [HSP.out]
      rcases List.mem_append.1 hy with hy | hy
      · exact List.mem_append.2 (.inl hy)
      · rcases List.mem_cons.1 hy with rfl | hy
        · exact List.mem_append.2 (.inr List.mem_cons_self)
        · exact List.mem_append.2 (.inr (List.mem_cons_of_mem _ (List.mem_cons_of_mem _ hy)))
  have HM1 : Hid (MapIs w1 M nn (look hb)) := hRp.map.kept hk1 hMU
  have HC1 : Hid (w1.heap[C]? = some (cl cs)) := hk1.heap hRp.hC hCU
  have H1 : Hid (w1.heap[A]? = some (ar C M F (nf b.a ((nodes F hb)[j].a + (nodes F hb)[j].s) x.p f) size least) ∧ Seg w1 none ((nodes F hb).take k ++ x :: (nodes F hb).drop (k + 2)) none ∧ Kept (UL A ((nodes F hb).take k ++ x :: (nodes F hb).drop (k + 2))) w w1) := ⟨ha1, hs1, hk1⟩
  obtain ⟨a0, a1, a2, a3, a4⟩ := ar_cells ha1
  obtain ⟨D, HD⟩ : ∃ D, Hid (w1.ownsMap Try.prog 3 pR M nn D ∧ ∀ h, D.atKey (.int .i64 h) .nil = pD (look hb h) ∧ Maps.has D (.int .i64 h) = (look hb h).isSome) := HM1.out
  have FIN : Hid (∀ (w2 : World) (L : Nat), w2.ownsMap Try.prog 3 pR M nn (D.del (.int .i64 (i : Int))) → Kept (Only M) w1 w2 → min least i = L → (∃ f', Rp (w2.setCell ⟨A, 4, none⟩ (.int .i64 (L : Int))) A C M F f' size (min least i) nn cs (rem hb k)) ∧ Kept (FP A C M F hb) w (w2.setCell ⟨A, 4, none⟩ (.int .i64 (L : Int)))) := by
    intro w2 L ho hk2 hL
    have hA2 := hk2.heap ha1 (fun e => hmne.1 e.symm)
    have hm2 : MapIs w2 M nn (fun i' => if i' = (i : Int) then none else look hb i') := MapIs.del HD.out.2 ho
    have k3 : Kept (Only A) w2 (w2.setCell ⟨A, 4, none⟩ (.int .i64 (L : Int))) := Kept.one _ _ _ _
    have hx := HX.out
    have hbk := HB.out
    have hik := HI.out
    refine ⟨⟨nf b.a ((nodes F hb)[j].a + (nodes F hb)[j].s) x.p f, ?_⟩, ?_⟩
    · have hseg2 : Seg (w2.setCell ⟨A, 4, none⟩ (.int .i64 (L : Int))) none ((nodes F hb).take k ++ x :: (nodes F hb).drop (k + 2)) none := by
        have hsub : ∀ y ∈ (nodes F hb).take k ++ x :: (nodes F hb).drop (k + 2), y ∈ nodes F hb := fun y hy => by
          rw [HSP.out]
          rcases List.mem_append.1 hy with hy | hy
          · exact List.mem_append.2 (.inl hy)
          · rcases List.mem_cons.1 hy with rfl | hy
            · exact List.mem_append.2 (.inr List.mem_cons_self)
            · exact List.mem_append.2 (.inr (List.mem_cons_of_mem _ (List.mem_cons_of_mem _ hy)))
        exact (hs1.kept hk2 (fun y hy e => hmne.2.2 y (hsub y hy) e.symm)).kept k3 (fun y hy e => n2 y (hsub y hy) e.symm)
      refine hRp.remove hk hj HZ.out.2 HZ.out.1 ?_ (by rw [hik]) ?_ ?_ ?_ ?_
      · rw [hbk, hx]
      · rw [hL]; exact hp_set_same hA2 4 _
      · exact k3.heap (hk2.heap HC1.out (fun e => hmne.2.1 e.symm)) (fun e => n1 e.symm)
      · rw [hx]; exact hseg2
      · rw [hik]; exact hm2.kept k3 hmne.1
    · have q1 : Kept (FP A C M F hb) w w1 := hk1.mono (fun y e => by
        rcases e with e | e
        · exact Or.inl e
        · refine Or.inr (Or.inr (Or.inr ?_))
          obtain ⟨z, hz, e⟩ := List.mem_map.1 e
          rw [← e]
          refine List.mem_map_of_mem ?_
          rw [HSP.out]
          rcases List.mem_append.1 hz with hy | hy
          · exact List.mem_append.2 (.inl hy)
          · rcases List.mem_cons.1 hy with rfl | hy
            · exact List.mem_append.2 (.inr List.mem_cons_self)
            · exact List.mem_append.2 (.inr (List.mem_cons_of_mem _ (List.mem_cons_of_mem _ hy))))
      exact (q1.trans (hk2.mono (fun y e => Or.inr (Or.inr (Or.inl e))))).trans (k3.mono (fun y e => Or.inl e))
  have FRZ : Hid (∀ w2, Kept (Only M) w1 w2 → w2.cell? ⟨A, 4, none⟩ = some (.int .i64 (least : Int)) ∧ w2.frozen? ⟨A, 4, none⟩ = false) := fun w2 hk2 => by
    have hA2 := hk2.heap ha1 (fun e => hmne.1 e.symm)
    exact ⟨(ar_cells hA2).2.2.2.2, (ar_frozen hA2).2⟩
  clear ha1 hb1 hs1 hk1 hz1 hRp n1 n2 n3 hmne hMU hCU
  go_wp2_with (at_delete; refine wpList_delete_own _ rfl _ _ 62 3 rfl 59 keyed3 Try.underlying62 pR M nn D rfl HD.out.1 _ (.int .i64 (i : Int)) rfl (Maps.keyOf_int_mk Try.underlying3 HR.out.2.1) ?_; intro w2 hown2 hturn2; have hk2 : Kept (Only M) w1 w2 := (Kept.refl (Only M) _).grown hturn2.grown (fun j e => by cases e; exact Or.inl rfl); obtain ⟨c4, f4⟩ := FRZ.out w2 hk2)
  all_goals
    go_ret
    refine ⟨rfl, FIN.out _ _ hown2 hk2 ?_⟩
    omega
end Go.Proofs.Ytdaklohfecinjaa
