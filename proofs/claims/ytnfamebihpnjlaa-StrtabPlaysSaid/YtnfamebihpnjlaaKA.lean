/- inOrder's function: its rounds, in the order of the puts. -/
import Derived.Test.YtnfamebihpnjlaaX3
import Derived.Test.YtnfamebihpnjlaaK9
namespace Go.Proofs.Ytnfamebihpnjlaa
open Go.RowKit Go.Shelf
set_option linter.unusedSimpArgs false
set_option linter.unusedVariables false
attribute [local go_sem] Oper.semAt_some

/-- What comes behind ks. -/
def OkO (L : List Ent) (ks : List Int) (x : Int) : Prop := ∃ rest, ks ++ x :: rest = L.map Ent.h
/-- All handles. -/
def FinO (L : List Ent) (ks : List Int) : Prop := ks = L.map Ent.h
theorem ok_atO {L : List Ent} {ss : List Int} (h : ss = L.map Ent.h) {k : Nat} (hk : k < ss.length) : OkO L (ss.take k) ss[k] :=
  ⟨ss.drop (k + 1), by rw [← List.drop_eq_getElem_cons hk, List.take_append_drop]; exact h⟩

set_option maxRecDepth 100000 in
set_option maxHeartbeats 2000000 in
theorem iter_ord (n : Nat) {W : World} {A C n' M p nn Bt : Nat} {L : List Ent} (hA : W.heap[A]? = some (tb C n' M p)) (hM : MapIs W M nn L.length (lookE L)) (hg : Good L p) (ho : Ord L) (hl : L.length ≤ 60000) (hBt : W.heap[Bt]? = some (.cells #[.pointer (some ⟨A, 0, none⟩)] 23 (0, 0))) :
    Rounds Fence.wide n Try.prog 45 #[.pointer (some ⟨Bt, 0, none⟩)] (OkO L) (FinO L) W := by
  intro l J W1 hk h0 hJd hY
  have HA : Hid (W1.heap[A]? = some (tb C n' M p)) := hk.heap hA id
  have HM : Hid (MapIs W1 M nn L.length (lookE L)) := hM.kept hk id
  have HG : Hid (Good L p) := hg
  have HO : Hid (Ord L) := ho
  have HBt : Hid (W1.heap[Bt]? = some (.cells #[.pointer (some ⟨A, 0, none⟩)] 23 (0, 0))) := hk.heap hBt id
  have H0 : Hid (∀ b W', Kept No W1 W' → W1.heap.size ≤ b → J b [] W') := h0
  have HJd : Hid (∀ b ks W m, J b ks W → J b ks (W.drewN m)) := hJd
  have HY : Hid (∀ b ks x W2, J b ks W2 → W1.heap.size ≤ b → b < W2.heap.size → OkO L ks x → YieldAt Fence.wide (n - 1) Try.prog l #[.int .i64 x] W2 fun e W' => e = .returned (.bool true) ∧ J b (ks ++ [x]) W' ∧ W'.heap[b]? = W2.heap[b]?) := hY
  clear hA hM hg ho hBt hk h0 hJd hY
  have c1 : W1.cell? ⟨Bt, 0, none⟩ = some (.pointer (some ⟨A, 0, none⟩)) := by rw [cell_of HBt.out]; rfl
  have c2 : W1.cell? ⟨A, 1, none⟩ = some (.map (some M)) := (tb_cells HA.out).2.1
  refine callsIn_of_wp Try.func45 rfl trivial ?_ rfl
  simp only [Try.ntmps45, List.size_toArray, List.length_cons, List.length_nil, Nat.reduceAdd, Nat.reduceSub, Array.replicate_succ, Array.replicate_zero, List.push_toArray, List.append_toArray, List.nil_append, List.cons_append]
  gi_wp2_with fail
  refine wpIn_wide.2 ?_
  obtain ⟨W2, HW2⟩ : ∃ W2, Hid (W2 = (W1.alloc (.cells #[.map (some M)] 59)).drew) := ⟨_, rfl⟩
  have HK2 : Hid (Kept No W1 W2) := by show Kept _ _ _; rw [HW2.out]; exact ((Kept.refl _ _).alloc _).drew
  have HSo : Hid _ := SortedFunc_ord (w := (W1.alloc (.cells #[.map (some M)] 59)).drew) (Bm := W1.heap.size) (by rw [← HW2.out]; exact HK2.out.heap HA.out id) (by rw [← HW2.out]; exact HM.out.kept HK2.out id) HG.out HO.out hl (by show (W1.alloc (.cells #[.map (some M)] 59)).cell? _ = _; simp) (by show _ < (W1.alloc (.cells #[.map (some M)] 59)).heap.size; simp)
  go_region_held3 (fun w' => w'.cell? ⟨Bt, 0, none⟩ = some (.pointer (some ⟨A, 0, none⟩)) ∧ w'.cell? ⟨A, 1, none⟩ = some (.map (some M))) (go_keep)
    (first
    | (go_at_call 47; refine (Keys_any M _).mono ?_; rintro e w2 ⟨rfl, rfl⟩)
    | (go_at_call 46; refine Calls.mono HSo.out ?_; rintro e w3 ⟨v, ss, rfl, hss, hrow, hbel⟩
       have HK3 : Hid (Kept No W1 w3) := (by rw [← HW2.out] at hbel; exact HK2.out.trans (Kept.of_below hbel))
       have HR3 : Hid (w3.ownsRow W1.heap.size 3 1 v ss.length (ic ss)) := (by
         rw [← HW2.out] at hrow
         have hz : W1.heap.size ≤ W2.heap.size := HK2.out.size
         refine ⟨hrow.1, ?_⟩
         rcases hrow.2 with h | ⟨gg, cc, cu, a1, a2, r⟩
         · exact Or.inl h
         · exact Or.inr ⟨gg, cc, cu, a1, by omega, r⟩)
       have HP3 : Hid (ss = L.map Ent.h) := hss
       have hlen3 := row_len HR3.out
       have x1 : w3.cell? ⟨Bt, 0, none⟩ = some (.pointer (some ⟨A, 0, none⟩)) := (by rw [cell_of (HK3.out.heap HBt.out id)]; rfl)
       have x2 : w3.cell? ⟨A, 1, none⟩ = some (.map (some M)) := (tb_cells (HK3.out.heap HA.out id)).2.1
       clear hss hrow hbel))
  all_goals
    have hssl : ss.length ≤ 60000 := by have := congrArg List.length HP3.out; rw [List.length_map] at this; omega
    clear x1 x2 c1 c2 hlen3 HSo
    rcases HR3.out.2 with ⟨rfl, hz⟩ | ⟨g, cap, cur, rfl, hbase, hgb, r1, r2, r3, r4⟩
    · have hs0 : ss = [] := List.eq_nil_of_length_eq_zero hz
      subst hs0
      have HJ : Hid (J W1.heap.size [] w3) := H0.out _ _ HK3.out (Nat.le_refl _)
      gi_wp2
      gi_loop [4, 14] (fun _ i => i = .int .i64 0) (fun _ _ => 0)
      case atStart => rfl
      case round =>
        subst hrel
        gi_wp2
        go_end0
        exact ⟨⟨_, rfl⟩, _, [], HP3.out, HJ.out⟩
    · have HJ : Hid (J g (ss.take 0) w3) := H0.out _ _ HK3.out hbase
      have HC : Hid (∀ (wr : World), wr.heap[g]? = w3.heap[g]? → ∀ k (hk : k < ss.length), wr.cell? ⟨g, k, none⟩ = some (.int .i64 ss[k])) := by
        intro wr he k hk
        have hr : w3.ownsRow W1.heap.size 3 1 (.slice (some ⟨g, 0, none⟩) ss.length cap) ss.length (ic ss) := HR3.out
        rw [← row_cell hr rfl hk]
        simp [World.cell?, he]
      have HGB : Hid (w3.heap[g]? = some (.cells cur 3 (0, 0))) := hgb
      clear hgb r1 r2 r3 r4
      gi_wp2
      gi_loopw [4, 14] (fun _ i wr => ∃ k : Nat, k ≤ ss.length ∧ i = .int .i64 k ∧ Hid (J g (ss.take k) wr ∧ wr.heap[g]? = w3.heap[g]?)) (fun _ i _ => ss.length - (ivO i).toNat)
      case atStart => exact ⟨0, Nat.zero_le _, rfl, HJ.out, rfl⟩
      case round =>
        obtain ⟨k, hk, rfl, HI⟩ := hrel
        by_cases hlt : k < ss.length
        · have k1 : (k : Int) < (ss.length : Int) := by omega
          have ck := HC.out wr HI.out.2 k hlt
          have HYk : Hid (YieldAt Fence.wide (n - 1) Try.prog l #[.int .i64 ss[k]] wr fun e W' => e = .returned (.bool true) ∧ J g (ss.take k ++ [ss[k]]) W' ∧ W'.heap[g]? = wr.heap[g]?) := HY.out g (ss.take k) ss[k] wr HI.out.1 hbase (hp_lt (HI.out.2.trans HGB.out)) (ok_atO HP3.out hlt)
          have HT : Hid (ss.take (k + 1) = ss.take k ++ [ss[k]]) := by show _ = _; rw [List.take_add_one]; simp [hlt]
          generalize ss[k] = x at ck HYk HT
          obtain ⟨fn, tmps, as', bo, hy, hR⟩ := HYk.out
          gi_wp2
          refine ⟨fun h => (by cases h), ?_⟩
          refine hR.mono ?_
          rintro e W3 ⟨rfl, hJ3, hg3⟩
          clear hy hR
          gi_wp2
          go_roundw
          case rel => exact ⟨k + 1, by omega, by first | rfl | go_num, by rw [HT.out]; exact hJ3, hg3.trans HI.out.2⟩
          case measure => simp [ivO] <;> omega
        · have he : k = ss.length := by omega
          subst he
          gi_wp2
          go_end0
          exact ⟨⟨_, rfl⟩, _, ss, HP3.out, by have := HI.out.1; rwa [List.take_length] at this⟩
end Go.Proofs.Ytnfamebihpnjlaa
