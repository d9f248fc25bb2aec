/- small. -/
import Derived.Test.YtnihfakhijjjkaaA9
import Derived.Test.YtnihfakhijjjkaaB1
namespace Go.Proofs.Ytnihfakhijjjkaa
open Go.RowKit
set_option linter.unusedSimpArgs false
set_option linter.unusedVariables false

/-- How many slots the first ones have, Again's members with them. -/
def slots (S : List Sn) (an : Nat) (j : Nat) : Nat := an + ((S.take j).map fun s => s.sl.length).sum
theorem slots_succ (S : List Sn) (an : Nat) (j : Nat) (hj : j < S.length) : slots S an (j + 1) = slots S an j + S[j].sl.length := by
  unfold slots
  rw [List.take_succ_eq_append_getElem hj]
  simp only [List.map_append, List.sum_append, List.map_cons, List.map_nil, List.sum_cons, List.sum_nil]; omega
def smallB (S : List Sn) (an : Nat) : Bool := decide (S.length ≤ 60) && decide (slots S an S.length ≤ 600)
theorem mem_sum {l : List Nat} {x : Nat} (h : x ∈ l) : x ≤ l.sum := by
  induction l with
  | nil => cases h
  | cons a l ih =>
    rcases List.mem_cons.1 h with rfl | h
    · simp
    · have := ih h; simp; omega
theorem small_bd {S : List Sn} {an : Nat} (h : smallB S an = true) : S.length ≤ 60 ∧ ∀ s ∈ S, s.sl.length ≤ 600 := by
  simp only [smallB, Bool.and_eq_true, decide_eq_true_eq, slots, List.take_length] at h
  refine ⟨h.1, fun t ht => ?_⟩
  have := mem_sum (List.mem_map_of_mem (f := fun t : Sn => t.sl.length) ht)
  omega

set_option maxRecDepth 20000 in
set_option maxHeartbeats 2000000 in
theorem small_any {w : World} {md ph wh : Int} {so go ao po : Option Addr} {sc gn gc an ac pn pc : Nat} {S : List Sn} (hS : RdS w (.slice so S.length sc) S) (hn : S.length ≤ 140737488355328) (han : an ≤ 140737488355328) (hs : ∀ s ∈ S, s.sl.length ≤ 140737488355328) :
    Calls Try.prog 16 #[AW md ph wh so S.length sc go gn gc ao an ac po pn pc] w fun e w' => e = .returned (.bool (smallB S an)) ∧ Kept No w w' := by
  have HT : Hid (RdS w (.slice so S.length sc) S) := hS
  have HS : Hid (∀ s ∈ S, s.sl.length ≤ 140737488355328) := hs
  have HTh : Hid (∀ W', Kept No w W' → ∀ j (hj : j < S.length), ∃ b off svo svc, so = some ⟨b, off, none⟩ ∧ W'.cell? ⟨b, off + j * 8 + 4, none⟩ = some (.slice svo S[j].sl.length svc)) := fun W' ht j hj => by
    obtain ⟨ao', cap', e, h⟩ := HT.out.no ht
    injection e with e1 e2 e3
    subst e1
    obtain ⟨b, off, sv, e1, h0, h1, h2, h3, h4, h5, h6, h7, ⟨sa, sc, rfl, _⟩⟩ := h j hj
    exact ⟨b, off, sa, sc, e1, h4⟩
  obtain ⟨W, HWd⟩ : ∃ W, Hid (W = w.alloc (BV md ph wh (.slice so S.length sc) (.slice go gn gc) (.slice ao an ac) (.slice po pn pc))) := ⟨_, rfl⟩
  have HK : Hid (Kept No w W) := by show Kept _ _ _; rw [HWd.out]; exact (Kept.refl _ _).alloc _
  have hb : W.heap[w.heap.size]? = some (BV md ph wh (.slice so S.length sc) (.slice go gn gc) (.slice ao an ac) (.slice po pn pc)) := by rw [HWd.out]; exact World.alloc_heap_new w _
  have g0 : W.cell? ⟨w.heap.size, 3, none⟩ = some (.slice so S.length sc) := by rw [cell_of hb]; rfl
  have g1 : W.cell? ⟨w.heap.size, 5, none⟩ = some (.slice ao an ac) := by rw [cell_of hb]; rfl
  obtain ⟨rr, HRr⟩ : ∃ rr, Hid (smallB S an = rr) := ⟨_, rfl⟩
  rw [HRr.out]
  have HS0 : Hid (slots S an 0 = an) := by show _ = _; simp [slots]
  clear hb hs hS
  go_enter Try.func16, Try.ntmps16
  go_wp2_with (first | rw [← HWd.out])
  go_loopw [3, 4, 8, 9, 10, 11, 12, 13, 14, 15, 16, 17, 18, 19, 20, 21, 22, 23, 24, 25, 26, 27, 28] (fun m i _ _ _ _ _ _ _ _ _ _ _ _ _ _ _ _ _ _ _ _ _ wr => ∃ j : Nat, j ≤ S.length ∧ j ≤ 61 ∧ i = .int .i64 j ∧ m = .int .i64 (slots S an j : Nat) ∧ slots S an j ≤ 140737488355328 * (j + 1) ∧ wr = W) (fun _ i _ _ _ _ _ _ _ _ _ _ _ _ _ _ _ _ _ _ _ _ _ _ => 61 - (intOf i).toNat)
  case atStart => exact ⟨0, by omega, by omega, rfl, by rw [HS0.out], by rw [HS0.out]; omega, rfl⟩
  case round =>
    obtain ⟨j, hj, hj61, rfl, rfl, hsl, rfl⟩ := hrel
    by_cases hlt : j < S.length
    · have k1 : (j : Int) < (S.length : Int) := by omega
      by_cases h60 : j ≤ 60
      · have k2 : (j : Int) ≤ 60 := by omega
        obtain ⟨b, off, svo, svc, rfl, r3⟩ := HTh.out _ HK.out j hlt
        have hb1 := HS.out S[j] (List.getElem_mem hlt)
        have hsu := slots_succ S an j hlt
        have HSu : Hid (slots S an (j + 1) = slots S an j + S[j].sl.length) := hsu
        generalize S[j].sl.length = ln at r3 hb1 HSu hsu
        generalize slots S an j = sj at hsl HSu hsu ⊢
        have hbig : (sj : Int) + (ln : Int) < 9223372036854775807 := by omega
        clear hsu
        go_wp2
        go_roundw
        case rel => exact ⟨j + 1, by omega, by omega, by go_num, by rw [HSu.out]; go_num, by rw [HSu.out]; omega, by first | rfl | trivial⟩
        case measure => simp [intOf]; omega
      · have k2 : ¬ (j : Int) ≤ 60 := by omega
        have k3 : ¬ (S.length : Int) ≤ 60 := by omega
        have HY : Hid (rr = false) := by
          show _ = _
          rw [← HRr.out]; unfold smallB; simp; omega
        go_wp2
        go_ret
        exact ⟨by rw [HY.out]; rfl, HK.out⟩
    · have k1 : ¬ (j : Int) < (S.length : Int) := by omega
      obtain rfl : j = S.length := by omega
      by_cases h60 : S.length ≤ 60
      · have k3 : (S.length : Int) ≤ 60 := by omega
        have HY : Hid (rr = decide ((slots S an S.length : Int) ≤ 600)) := by
          show _ = _
          rw [← HRr.out]; unfold smallB; simp [h60]; omega
        go_wp2
        go_ret
        exact ⟨by rw [HY.out]; rfl, HK.out⟩
      · have k3 : ¬ (S.length : Int) ≤ 60 := by omega
        have HY : Hid (rr = false) := by
          show _ = _
          rw [← HRr.out]; unfold smallB; simp; omega
        go_wp2
        go_ret
        exact ⟨by rw [HY.out]; rfl, HK.out⟩

/-- The view that the law makes: its values. -/
def fixV (S : List Sn) (v : V) : V := if oT v.1 && (decide (v.2 < 1) || (decide ((S.length : Int) < v.2) || !decide ((snAt S (v.2 - 1).toNat).kind = v.1))) then (0, 0) else v
def freshS (S : List Sn) : List Sn := (List.range S.length).map fun (j : Nat) => ⟨(j : Int) + 1, (snAt S j).kind, 0, 0, (snAt S j).sl.map (fixV S), 0, 1, 0⟩
theorem fresh_len (S : List Sn) : (freshS S).length = S.length := by simp [freshS]
theorem fresh_get (S : List Sn) (j : Nat) (hj : j < (freshS S).length) : (freshS S)[j] = ⟨(j : Int) + 1, (snAt S j).kind, 0, 0, (snAt S j).sl.map (fixV S), 0, 1, 0⟩ := by
  simp [freshS]
theorem fix_leads (S : List Sn) (v : V) (ho : oT (fixV S v).1 = true) : (fst1 (freshS S) (fixV S v).1 (fixV S v).2).isNone = false := by
  unfold fixV at ho ⊢
  split at ho
  · simp [oT] at ho
  · rename_i hc
    rw [if_neg hc]
    simp only [ho, Bool.true_and, Bool.or_eq_true, decide_eq_true_eq, Bool.not_eq_true', decide_eq_false_iff_not, not_or, Decidable.not_not] at hc
    obtain ⟨h1, h2, h3⟩ := hc
    cases hf : fst1 (freshS S) v.1 v.2 with
    | some _ => rfl
    | none =>
      exfalso
      unfold fst1 at hf
      rw [List.findIdx?_eq_none_iff] at hf
      have hk : (v.2 - 1).toNat < (freshS S).length := by rw [fresh_len]; omega
      have := hf _ (List.getElem_mem hk)
      rw [fresh_get] at this
      simp only [h3, decide_eq_false_iff_not, not_and] at this
      exact this trivial (by omega)
theorem slots_none {S T : List Sn} {mn : Sn → Sn → Bool} {s : Sn} (hm : ∀ t, mn s t = false) (hs : ∀ v ∈ s.sl, oT v.1 = true → (fst1 T v.1 v.2).isNone = false) : ∀ k, k ≤ s.sl.length → slotsTo T mn s k = []
  | 0, _ => rfl
  | k + 1, hk => by
    have ih := slots_none (S := S) hm hs k (by omega)
    have hmem : s.sl.getD k (0, 0) ∈ s.sl := by
      have : s.sl.getD k (0, 0) = s.sl[k] := by simp [List.getD, show k < s.sl.length by omega]
      rw [this]; exact List.getElem_mem _
    have hb : slotB T mn s (s.sl.getD k (0, 0)) = false := by
      unfold slotB
      rw [hm]
      cases ho : oT (s.sl.getD k (0, 0)).1 with
      | false => rfl
      | true => rw [hs _ hmem ho]; rfl
    show slotsTo T mn s k ++ (if slotB T mn s (s.sl.getD k (0, 0)) = true then [(s.h, (k : Int))] else []) = []
    rw [ih, hb]; rfl
theorem aud_none {T : List Sn} {br : Sn → Bool} {mn : Sn → Sn → Bool} (hb : ∀ s ∈ T, br s = false) (hm : ∀ s ∈ T, ∀ t, mn s t = false) (hs : ∀ s ∈ T, ∀ v ∈ s.sl, oT v.1 = true → (fst1 T v.1 v.2).isNone = false) : ∀ j, j ≤ T.length → audTo T br mn j = []
  | 0, _ => rfl
  | j + 1, hj => by
    have ih := aud_none hb hm hs j (by omega)
    have hmem : snAt T j ∈ T := by rw [snAt_eq (show j < T.length by omega)]; exact List.getElem_mem _
    have := slots_none (S := T) (hm _ hmem) (hs _ hmem) _ (Nat.le_refl _)
    simp [audTo, ih, hb _ hmem, this]
theorem fresh_mem {S : List Sn} {s : Sn} (h : s ∈ freshS S) : ∃ j, j < S.length ∧ s = ⟨(j : Int) + 1, (snAt S j).kind, 0, 0, (snAt S j).sl.map (fixV S), 0, 1, 0⟩ := by
  obtain ⟨j, hj, rfl⟩ := List.mem_map.1 h
  exact ⟨j, List.mem_range.1 hj, rfl⟩
theorem fresh_aud_gen (S : List Sn) : audTo (freshS S) (brG 1 []) mnG (freshS S).length = [] := by
  refine aud_none (fun s hs => ?_) (fun s hs t => ?_) (fun s hs v hv ho => ?_) _ (Nat.le_refl _)
  all_goals obtain ⟨j, hj, rfl⟩ := fresh_mem hs
  · rfl
  · rfl
  · obtain ⟨u, hu, rfl⟩ := List.mem_map.1 hv
    exact fix_leads S u ho
theorem fresh_aud_inc (S : List Sn) : audTo (freshS S) (brI 1) mnI (freshS S).length = [] := by
  refine aud_none (fun s hs => ?_) (fun s hs t => ?_) (fun s hs v hv ho => ?_) _ (Nat.le_refl _)
  all_goals obtain ⟨j, hj, rfl⟩ := fresh_mem hs
  · rfl
  · rfl
  · obtain ⟨u, hu, rfl⟩ := List.mem_map.1 hv
    exact fix_leads S u ho
end Go.Proofs.Ytnihfakhijjjkaa
