/- The printer: choices as statements; texts joined, however many. -/
import Derived.Test.YtmoiikpjegbokaaGreatDoorUT
set_option linter.unusedSimpArgs false
set_option linter.unusedVariables false
set_option maxRecDepth 20000
set_option maxHeartbeats 4000000
namespace Go.Proofs.YtmoiikpjegbokaaGreatDoor
open Go.RowKit
variable {nt : Int → Int → ByteArray} {qt : ByteArray → ByteArray} {P : Int → Int → Prop}
theorem stmt_24 {m : List Tr} (hm : ∀ x ∈ m, TreeIs nt qt P x) (h0 : m ≠ []) (t : ByteArray) (vt vn n xa : Int) : PartIs 41 nt qt P (.mk 24 t vt vn n m xa) := by
  intro w c B v l cs h hN hX ht;have e1 : prT nt qt (.mk 24 t vt vn n m xa) = chP ⟨#[105, 102]⟩ (m.map (prT nt qt)) := by simp [prT, prTs_map, prN]
  rw [e1] at ht ⊢;obtain ⟨sv, rfl, hl⟩ := NodeIs.cs.1 hX;obtain ⟨b, o, cp, rfl, hcp⟩ := slice_some hl h0;have hS := Stt.mk0 h hN hX;obtain ⟨W0, HW0⟩ := nm (w.alloc (nb (ncs 24 t vt vn n (.slice (some ⟨b, o, none⟩) m.length cp) xa)));rw [HW0.out] at hS;have s0 : W0.heap.size = w.heap.size + 1 := by rw [← HW0.out]; simp
  have HS0 : Hid _ := hS;have HC : Hid _ := choice_pr hm hS.pr hS.num (node_list hS.node) hcp ht;obtain ⟨us, HUs⟩ := nm (chP ⟨#[105, 102]⟩ (m.map (prT nt qt)));rw [HUs.out] at HC ⊢;obtain ⟨ml, HMl⟩ := nm (m.length);obtain ⟨r0, r1, r2, r3, r4, r5, r6⟩ := nb_cells hS.box;rw [HMl.out] at HC HW0 r5 ⊢;clear hm h hN hX hl hS ht e1 HUs hcp HMl;unfold nb ncs at HW0;unfold ncs;go_enter Tryz.func41, Tryz.ntmps41
  go_wp2_with (first | rw [HW0.out])
  refine Calls.mono HC.out ?_;rintro r W2 ⟨rfl, v2, hp2, hs2⟩;have HF : Hid (Pr W2 c B v2 (l ++ us) ∧ Pass c v w v2 W2) := ⟨hp2, HS0.out.pass.trans hs2⟩;clear hp2 hs2 HS0 HC r0 r1 r2 r3 r4 r5 r6 HW0;go_wp2_with fail
  exact bodyPost_end (results_none Tryz.results41 _ _ _) rfl ⟨rfl, v2, HF.out⟩
theorem Join_none (ao : Option Addr) (cap : Nat) (w : World) : Calls Tryz.prog 25 #[.slice ao 0 cap, .string ⟨#[32]⟩] w fun r w' => r = .returned (.string ⟨#[]⟩) ∧ Kept No w w' := by
  go_enter Tryz.func25, Tryz.ntmps25
  go_wp2
  go_ret
  exact ⟨rfl, Kept.refl _ _⟩
theorem Join_one {w : World} {g cap : Nat} {t : ByteArray} (h : TRw w g [t]) : Calls Tryz.prog 25 #[.slice (some ⟨g, 0, none⟩) 1 cap, .string ⟨#[32]⟩] w fun r w' => r = .returned (.string t) ∧ Kept No w w' := by
  have h0 := h 0 (by simp);simp only [List.getElem_cons_zero] at h0;go_enter Tryz.func25, Tryz.ntmps25
  go_wp2
  go_ret
  exact ⟨rfl, Kept.refl _ _⟩
theorem join_lot {w : World} {B : Nat} {v : Value} {l : List ByteArray} (h : SRw w B v l) (hn : l.length ≤ 1000000) (hz : sumZ l ≤ 100000000000) :
    ∃ ao n cap, v = .slice ao n cap ∧ Calls Tryz.prog 25 #[.slice ao n cap, .string ⟨#[32]⟩] w fun r w' => r = .returned (.string (joinB l)) ∧ Kept No w w' := by
  rcases l with _ | ⟨t, _ | ⟨u, r⟩⟩
  · obtain ⟨o1, ⟨o2, o3⟩ | ⟨g, cap, cur, o3, _⟩⟩ := h
    · exact ⟨none, 0, 0, o2, Join_none _ _ _⟩
    · exact ⟨some ⟨g, 0, none⟩, 0, cap, o3, Join_none _ _ _⟩
  · obtain ⟨g, cap, e, _, _, hT⟩ := h.form (by simp);refine ⟨some ⟨g, 0, none⟩, 1, cap, e, Calls.mono (Join_one hT) ?_⟩;rintro r0 w' ⟨rfl, hk⟩;exact ⟨by simp [joinB, joinL], hk⟩
  · obtain ⟨g, cap, e, hc, hg, hT⟩ := h.form (by simp);exact ⟨some ⟨g, 0, none⟩, _, cap, e, Join_many hT hg (by simp) hn hc hz⟩
theorem Print_lot {x : Tr} (hx : TreeIs nt qt P x) {S : Nat → Prop} {w : World} {cs : List Value} (hX : NodeIs S w x cs) (hN : ∀ W c, Kept No w W → w.heap.size ≤ c → NumOK nt P c W) (hl : (prT nt qt x).length ≤ 1000000) (hz : sumZ (prT nt qt x) ≤ 100000000000) :
    Calls Tryz.prog 11 #[.agg cs.toArray] w fun r w' => r = .returned (.string (joinB (prT nt qt x))) ∧ Kept No w w' := by
  obtain ⟨k, t, vt, vn, n, xl, xa⟩ := x;obtain ⟨sv, rfl, hll⟩ := NodeIs.cs.1 hX;obtain ⟨ao, ln, cp, rfl⟩ := slice_of hll;obtain ⟨W0, HW0⟩ := nm (w.alloc (nb (ncs k t vt vn n (.slice ao ln cp) xa)));have hk0 : Kept No w W0 := by rw [← HW0.out]; exact (Kept.refl No w).alloc _
  have s0 : W0.heap.size = w.heap.size + 1 := by rw [← HW0.out]; simp
  have hb0 : W0.heap[w.heap.size]? = some (nb (ncs k t vt vn n (.slice ao ln cp) xa)) := by rw [← HW0.out]; exact World.alloc_heap_new w _
  obtain ⟨W1, HW1⟩ := nm (W0.alloc (.cells #[.slice none 0 0] 55));have hk1 : Kept No W0 W1 := by rw [← HW1.out]; exact (Kept.refl No W0).alloc _
  have s1 : W1.heap.size = w.heap.size + 2 := by rw [← HW1.out]; simp [s0]
  have hp1 : Pr W1 (w.heap.size + 1) (w.heap.size + 2) (.slice none 0 0) [] := by
    refine ⟨?_, World.ownsRow_nil _ _ _ _, by omega, by omega⟩;rw [← HW1.out, ← s0]; exact World.alloc_heap_new W0 _
  have hn1 : NodeIs (Out2 (w.heap.size + 1) (.slice none 0 0)) W1 (.mk k t vt vn n xl xa) (ncs k t vt vn n (.slice ao ln cp) xa) := by
    refine NodeIs.mono (fun b hb => ?_) _ _ (NodeIs.kept ((hk0.trans hk1).no) _ _ (NodeIs.more _ _ hX));rcases hb with hb | hb
    · exact .inr (by omega)
    · simp [Value.ownBlock] at hb
  have HT : Hid _ := hx W1 (w.heap.size + 1) (w.heap.size + 2) (.slice none 0 0) [] _ hp1 (hN W1 _ (hk0.trans hk1) (by omega)) hn1 (by simpa using hl);obtain ⟨ts, HTs⟩ := nm (prT nt qt (.mk k t vt vn n xl xa));rw [HTs.out] at HT hl hz ⊢;have HK1 : Hid (Kept No w W1 ∧ W1.heap.size = w.heap.size + 2) := ⟨hk0.trans hk1, s1⟩;obtain ⟨r0, r1, r2, r3, r4, r5, r6⟩ := nb_cells (hk1.heap hb0 id);have HZ : Hid _ := hz;unfold nb ncs at HW0;clear hX hll hk0 hk1 hb0 hp1 hn1 hx hN HTs s1 hz;unfold ncs;go_enter Tryz.func11, Tryz.ntmps11
  go_wp2_with (first | rw [HW0.out] | rw [HW1.out])
  refine Calls.mono HT.out ?_;rintro r W2 ⟨rfl, v2, hp2, hs2⟩;rw [List.nil_append] at hp2;obtain ⟨ao2, ln2, cp2, rfl, hJ⟩ := join_lot hp2.row hl HZ.out;have b0 := cell_of hp2.box 0;have HJ : Hid _ := hJ
  have HK2 : Hid (Kept No w W2) := HK1.out.1.trans' hs2.kept (fun i hi => by
    rcases hi with hi | hi
    · exact .inr (by omega)
    · simp [Value.ownBlock] at hi)
  clear hp2 hs2 hJ HT HW0 HW1 s0 r0 r1 r2 r3 r4 r5 r6 HZ HK1;go_wp2_with fail
  refine Calls.mono HJ.out ?_;rintro r W3 ⟨rfl, hk3⟩;have HK3 : Hid _ := HK2.out.trans hk3;clear hk3 HJ HK2;go_wp2_with fail
  go_ret
  exact ⟨rfl, HK3.out⟩
end Go.Proofs.YtmoiikpjegbokaaGreatDoor
