/- The rules of a view; what an audit tells. -/
import Derived.Test.YtnihfakhijjjkaaA6
namespace Go.Proofs.Ytnihfakhijjjkaa
open Go.RowKit
set_option linter.unusedSimpArgs false
set_option linter.unusedVariables false

set_option maxRecDepth 20000 in
set_option maxHeartbeats 4000000 in
theorem rulesOf_gen {w : World} {wh : Int} {so go ao po : Option Addr} {sn sc gn gc an ac pn pc : Nat} {L : List Int} (hL : RdI w (.slice ao an ac) L) (hn : L.length ≤ 1000000) (hw : ∀ h ∈ L, wf h) :
    Calls Try.prog 20 #[AW 1 0 wh so sn sc go gn gc ao an ac po pn pc] w fun e w' => ∃ vb tb M n, e = .returned (.agg #[Fc 30 #[PT vb, PT tb], Fc 35 #[], Fc 32 #[]]) ∧
      w'.heap[vb]? = some (BV 1 0 wh (.slice so sn sc) (.slice go gn gc) (.slice ao an ac) (.slice po pn pc)) ∧ w'.heap[tb]? = some (.cells #[.map (some M)] 56) ∧ MapJ w' M n (cnt L L.length) ∧ Kept No w w' := by
  have HL : Hid (RdI w (.slice ao an ac) L) := hL
  have HWf : Hid (∀ h ∈ L, wf h) := hw
  clear hL hw
  obtain ⟨W, HWd⟩ : ∃ W, Hid (W = (w.alloc (BV 1 0 wh (.slice so sn sc) (.slice go gn gc) (.slice ao an ac) (.slice po pn pc))).alloc (.cells #[.nilFunc, .nilFunc, .nilFunc] 47)) := ⟨_, rfl⟩
  have hkW : Kept No w W := by rw [HWd.out]; exact ((Kept.refl _ _).alloc _).alloc _
  have hv : W.heap[w.heap.size]? = some (BV 1 0 wh (.slice so sn sc) (.slice go gn gc) (.slice ao an ac) (.slice po pn pc)) := by rw [HWd.out]; exact (Below.heap_alloc _ _ _ (by simp)).trans (World.alloc_heap_new w _)
  have hr : W.heap[w.heap.size + 1]? = some (.cells #[.nilFunc, .nilFunc, .nilFunc] 47 (0, 0)) := by
    rw [HWd.out]; have := World.alloc_heap_new (w.alloc (BV 1 0 wh (.slice so sn sc) (.slice go gn gc) (.slice ao an ac) (.slice po pn pc))) (.cells #[.nilFunc, .nilFunc, .nilFunc] 47); rwa [World.size_alloc] at this
  have HKW : Hid (Kept No w W) := hkW
  have HRr : Hid _ := hr
  clear hkW hr
  have f0 : W.cell? ⟨w.heap.size, 0, none⟩ = some (.int .i64 1) := by rw [cell_of hv]; rfl
  have f1 : W.cell? ⟨w.heap.size, 1, none⟩ = some (.int .i64 0) := by rw [cell_of hv]; rfl
  have f2 : W.cell? ⟨w.heap.size, 2, none⟩ = some (.int .i64 wh) := by rw [cell_of hv]; rfl
  have f3 : W.cell? ⟨w.heap.size, 3, none⟩ = some (.slice so sn sc) := by rw [cell_of hv]; rfl
  have f4 : W.cell? ⟨w.heap.size, 4, none⟩ = some (.slice go gn gc) := by rw [cell_of hv]; rfl
  have f5 : W.cell? ⟨w.heap.size, 5, none⟩ = some (.slice ao an ac) := by rw [cell_of hv]; rfl
  have f6 : W.cell? ⟨w.heap.size, 6, none⟩ = some (.slice po pn pc) := by rw [cell_of hv]; rfl
  clear hv
  go_enter Try.func20, Try.ntmps20
  go_wp2_with (first | rw [← HWd.out])
  refine Calls.mono (genRules_any (HL.out.no HKW.out) hn HWf.out) ?_
  rintro e w1 ⟨vb, tb, M, n, rfl, hvb, htb, hM, hk1⟩
  have hr2 := hk1.heap HRr.out id
  have HK2 : Hid (Kept No w w1) := HKW.out.trans hk1
  have y0 : w1.cell? ⟨w.heap.size + 1, 0, none⟩ = some .nilFunc := by rw [cell_of hr2]; rfl
  have y1 : w1.cell? ⟨w.heap.size + 1, 1, none⟩ = some .nilFunc := by rw [cell_of hr2]; rfl
  have y2 : w1.cell? ⟨w.heap.size + 1, 2, none⟩ = some .nilFunc := by rw [cell_of hr2]; rfl
  have q0 : w1.frozen? ⟨w.heap.size + 1, 0, none⟩ = false := frozen_of hr2 _
  have q1 : w1.frozen? ⟨w.heap.size + 1, 1, none⟩ = false := frozen_of hr2 _
  have q2 : w1.frozen? ⟨w.heap.size + 1, 2, none⟩ = false := frozen_of hr2 _
  have hne1 : vb ≠ w.heap.size + 1 := by rintro rfl; rw [hr2] at hvb; cases hvb
  have hne2 : tb ≠ w.heap.size + 1 := by rintro rfl; rw [hr2] at htb; cases htb
  have HF : Hid (w1.heap[vb]? = some (BV 1 0 wh (.slice so sn sc) (.slice go gn gc) (.slice ao an ac) (.slice po pn pc)) ∧ w1.heap[tb]? = some (.cells #[.map (some M)] 56) ∧ MapJ w1 M n (cnt L L.length) ∧ vb ≠ w.heap.size + 1 ∧ tb ≠ w.heap.size + 1 ∧ M ≠ w.heap.size + 1) :=
    ⟨hvb, htb, hM, hne1, hne2, hM.cells hr2⟩
  clear hr2 hvb htb hM hk1 hne1 hne2 HWd HKW HRr f0 f1 f2 f3 f4 f5 f6
  go_wp2
  refine bodyPost_ret (v := .agg #[Fc 30 #[PT vb, PT tb], Fc 35 #[], Fc 32 #[]]) (by simp [results, Try.results20, go_sem, y0, y1, y2]) rfl ?_
  have hkk := keep3 w1 (w.heap.size + 1) (Fc 30 #[PT vb, PT tb]) (Fc 35 #[]) (Fc 32 #[])
  obtain ⟨g1, g2, g3, l1, l2, l3⟩ := HF.out
  exact ⟨vb, tb, M, n, rfl, hkk.heap g1 l1, hkk.heap g2 l2, g3.kept hkk l3, HK2.out.trans' hkk (fun i hi => .inr (by omega))⟩

set_option maxRecDepth 20000 in
set_option maxHeartbeats 4000000 in
theorem rulesOf_inc {w : World} {wh : Int} {so go ao po : Option Addr} {sn sc gn gc an ac pn pc : Nat} :
    Calls Try.prog 20 #[AW 0 0 wh so sn sc go gn gc ao an ac po pn pc] w fun e w' => ∃ vb fb, e = .returned (.agg #[Fc 28 #[PT fb], Fc 35 #[], Fc 36 #[]]) ∧
      w'.heap[vb]? = some (BV 0 0 wh (.slice so sn sc) (.slice go gn gc) (.slice ao an ac) (.slice po pn pc)) ∧ w'.heap[fb]? = some (.cells #[Fc 37 #[PT vb]] 44) ∧ Kept No w w' := by
  obtain ⟨W, HWd⟩ : ∃ W, Hid (W = (w.alloc (BV 0 0 wh (.slice so sn sc) (.slice go gn gc) (.slice ao an ac) (.slice po pn pc))).alloc (.cells #[.nilFunc, .nilFunc, .nilFunc] 47)) := ⟨_, rfl⟩
  have hkW : Kept No w W := by rw [HWd.out]; exact ((Kept.refl _ _).alloc _).alloc _
  have hv : W.heap[w.heap.size]? = some (BV 0 0 wh (.slice so sn sc) (.slice go gn gc) (.slice ao an ac) (.slice po pn pc)) := by rw [HWd.out]; exact (Below.heap_alloc _ _ _ (by simp)).trans (World.alloc_heap_new w _)
  have hr : W.heap[w.heap.size + 1]? = some (.cells #[.nilFunc, .nilFunc, .nilFunc] 47 (0, 0)) := by
    rw [HWd.out]; have := World.alloc_heap_new (w.alloc (BV 0 0 wh (.slice so sn sc) (.slice go gn gc) (.slice ao an ac) (.slice po pn pc))) (.cells #[.nilFunc, .nilFunc, .nilFunc] 47); rwa [World.size_alloc] at this
  have HKW : Hid (Kept No w W) := hkW
  have HRr : Hid _ := hr
  clear hkW hr
  have f0 : W.cell? ⟨w.heap.size, 0, none⟩ = some (.int .i64 0) := by rw [cell_of hv]; rfl
  have f1 : W.cell? ⟨w.heap.size, 1, none⟩ = some (.int .i64 0) := by rw [cell_of hv]; rfl
  have f2 : W.cell? ⟨w.heap.size, 2, none⟩ = some (.int .i64 wh) := by rw [cell_of hv]; rfl
  have f3 : W.cell? ⟨w.heap.size, 3, none⟩ = some (.slice so sn sc) := by rw [cell_of hv]; rfl
  have f4 : W.cell? ⟨w.heap.size, 4, none⟩ = some (.slice go gn gc) := by rw [cell_of hv]; rfl
  have f5 : W.cell? ⟨w.heap.size, 5, none⟩ = some (.slice ao an ac) := by rw [cell_of hv]; rfl
  have f6 : W.cell? ⟨w.heap.size, 6, none⟩ = some (.slice po pn pc) := by rw [cell_of hv]; rfl
  clear hv
  go_enter Try.func20, Try.ntmps20
  go_wp2_with (first | rw [← HWd.out])
  refine Calls.mono incRules_any ?_
  rintro e w1 ⟨vb, fb, rfl, hvb, hfb, hk1⟩
  have hr2 := hk1.heap HRr.out id
  have HK2 : Hid (Kept No w w1) := HKW.out.trans hk1
  have y0 : w1.cell? ⟨w.heap.size + 1, 0, none⟩ = some .nilFunc := by rw [cell_of hr2]; rfl
  have y1 : w1.cell? ⟨w.heap.size + 1, 1, none⟩ = some .nilFunc := by rw [cell_of hr2]; rfl
  have y2 : w1.cell? ⟨w.heap.size + 1, 2, none⟩ = some .nilFunc := by rw [cell_of hr2]; rfl
  have q0 : w1.frozen? ⟨w.heap.size + 1, 0, none⟩ = false := frozen_of hr2 _
  have q1 : w1.frozen? ⟨w.heap.size + 1, 1, none⟩ = false := frozen_of hr2 _
  have q2 : w1.frozen? ⟨w.heap.size + 1, 2, none⟩ = false := frozen_of hr2 _
  have hne1 : vb ≠ w.heap.size + 1 := by rintro rfl; rw [hr2] at hvb; cases hvb
  have hne2 : fb ≠ w.heap.size + 1 := by rintro rfl; rw [hr2] at hfb; cases hfb
  have HF : Hid (w1.heap[vb]? = some (BV 0 0 wh (.slice so sn sc) (.slice go gn gc) (.slice ao an ac) (.slice po pn pc)) ∧ w1.heap[fb]? = some (.cells #[Fc 37 #[PT vb]] 44) ∧ vb ≠ w.heap.size + 1 ∧ fb ≠ w.heap.size + 1) :=
    ⟨hvb, hfb, hne1, hne2⟩
  clear hr2 hvb hfb hk1 hne1 hne2 HWd HKW HRr f0 f1 f2 f3 f4 f5 f6
  go_wp2
  refine bodyPost_ret (v := .agg #[Fc 28 #[PT fb], Fc 35 #[], Fc 36 #[]]) (by simp [results, Try.results20, go_sem, y0, y1, y2]) rfl ?_
  have hkk := keep3 w1 (w.heap.size + 1) (Fc 28 #[PT fb]) (Fc 35 #[]) (Fc 36 #[])
  obtain ⟨g1, g2, l1, l2⟩ := HF.out
  exact ⟨vb, fb, rfl, hkk.heap g1 l1, hkk.heap g2 l2, HK2.out.trans' hkk (fun i hi => .inr (by omega))⟩

def sn0 : Sn := ⟨0, 0, 0, 0, [], 0, 0, 0⟩
def snAt (S : List Sn) (j : Nat) : Sn := S.getD j sn0
theorem snAt_eq {S : List Sn} {j : Nat} (hj : j < S.length) : snAt S j = S[j] := by simp [snAt, List.getD, hj]
/-- Does a slot of one with this value break a rule? -/
def slotB (S : List Sn) (mn : Sn → Sn → Bool) (s : Sn) (v : V) : Bool := oT v.1 && ((fst1 S v.1 v.2).isNone || mn s (snAt S ((fst1 S v.1 v.2).getD 0)))
def slotsTo (S : List Sn) (mn : Sn → Sn → Bool) (s : Sn) : Nat → List V
  | 0 => []
  | k + 1 => slotsTo S mn s k ++ (if slotB S mn s (s.sl.getD k (0, 0)) = true then [(s.h, (k : Int))] else [])
/-- What is told of the first ones. -/
def audTo (S : List Sn) (br : Sn → Bool) (mn : Sn → Sn → Bool) : Nat → List V
  | 0 => []
  | j + 1 => audTo S br mn j ++ (if br (snAt S j) = true then [((snAt S j).h, -1)] else []) ++ slotsTo S mn (snAt S j) (snAt S j).sl.length
theorem slotsTo_len (S : List Sn) (mn : Sn → Sn → Bool) (s : Sn) : ∀ k, (slotsTo S mn s k).length ≤ k
  | 0 => by simp [slotsTo]
  | k + 1 => by
    have := slotsTo_len S mn s k
    simp only [slotsTo, List.length_append]
    split <;> simp <;> omega
theorem audTo_len (S : List Sn) (br : Sn → Bool) (mn : Sn → Sn → Bool) (h : ∀ s ∈ S, s.sl.length ≤ 600) : ∀ j, (audTo S br mn j).length ≤ j * 601
  | 0 => by simp [audTo]
  | j + 1 => by
    have h1 := audTo_len S br mn h j
    have h2 := slotsTo_len S mn (snAt S j) (snAt S j).sl.length
    have h3 : (snAt S j).sl.length ≤ 600 := by
      by_cases hj : j < S.length
      · rw [snAt_eq hj]; exact h _ (List.getElem_mem hj)
      · have : snAt S j = sn0 := by simp [snAt, List.getD, List.getElem?_eq_none (Nat.le_of_not_lt hj)]
        rw [this]; simp [sn0]
    simp only [audTo, List.length_append]
    split <;> simp <;> omega
end Go.Proofs.Ytnihfakhijjjkaa
