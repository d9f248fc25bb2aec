/- Scope: the chapter's examples, as the law asks for them. -/
import Derived.Test.YtgkgpjbbmnfnmaaGreatDoorS20
namespace Go.Proofs.YtgkgpjbbmnfnmaaGreatDoor
open Go.RowKit
set_option linter.unusedSimpArgs false
set_option linter.unusedVariables false

theorem key_uniq : ∀ {M : List Us}, M.Pairwise (fun x y => x.a < y.a) → ∀ x ∈ M, ∀ y ∈ M, x.a = y.a → x = y
  | [], _, x, hx, _, _, _ => by simp at hx
  | z :: r, h, x, hx, y, hy, e => by
    rw [List.pairwise_cons] at h
    rcases List.mem_cons.1 hx with hx | hx <;> rcases List.mem_cons.1 hy with hy | hy
    · rw [hx, hy]
    · have := h.1 y hy; rw [← hx] at this; omega
    · have := h.1 x hx; rw [← hy] at this; omega
    · exact key_uniq h.2 x hx y hy e
/-- There is one sorted list. -/
theorem sort_uniq {L M : List Us} (hp : L.Perm M) (hs : L.Pairwise (fun x y => x.a ≤ y.a)) (hm : M.Pairwise (fun x y => x.a < y.a)) : L = M := by
  refine List.Perm.eq_of_pairwise (le := fun (x y : Us) => x.a ≤ y.a) (fun x y hx hy h1 h2 => ?_) hs (hm.imp (fun h => by omega)) hp
  exact key_uniq hm x (hp.mem_iff.1 hx) y hy (by omega)
theorem FoundIs.cells {w0 w : World} {s : St} {u : Value} (h : FoundIs w0 w s u) {M : List Us} (hM : (s.us.map (heldU s.far)).Perm M) (hm : M.Pairwise (fun x y => x.a < y.a)) (h0 : M ≠ []) : ∃ g cap, u = .slice (some ⟨g, 0, none⟩) M.length cap ∧ ∀ j, j < M.length * 6 → w.cell? ⟨g, j, none⟩ = (flU M)[j]? := by
  obtain ⟨L, ao, cap, B, rfl, e2, e3, e4, e5⟩ := h
  obtain rfl := sort_uniq (e3.trans hM) e4 hm
  have e6 := e5
  obtain ⟨o1, ⟨o2, o3⟩ | ⟨g, cap', cur, o3, _⟩⟩ := e5
  · exact absurd (List.length_eq_zero_iff.1 o3) h0
  · injection o3 with o4 o5 o6
    subst o4 o6
    exact ⟨g, cap, rfl, fun j hj => World.ownsRow.cellAt e6 j hj⟩
theorem f1_ps : PsR f1 (.ok f1_T) := .inr ⟨f1_le, none, f1_L, f1_lx, f1_w.symm⟩
theorem f2_ps : PsR f2 (.ok f2_T) := .inr ⟨f2_le, none, f2_L, f2_lx, f2_w.symm⟩
theorem f1_rs : resM (.ok f1_T) = .ok (wk f1_T s0) := by
  unfold resM
  exact if_pos f1_u.1
theorem f2_rs : resM (.ok f2_T) = .ok (wk f2_T s0) := by
  unfold resM
  exact if_pos f2_u.1
set_option maxRecDepth 20000 in
set_option maxHeartbeats 4000000 in
theorem alive_any {w : World} (he : ErrIs w) (hg : SgIs w) : Calls Tryz.prog 9 #[] w fun r w' => r = .returned (.bool true) ∧ Kept No w w' := by
  have HA : Hid _ := Resolve_any f1 w he hg f1_ps
  have HB : Hid (∀ W, Kept No w W → Calls Tryz.prog 7 #[.string f2] W (RvRes W (.ok f2_T))) := fun W hk => Resolve_any f2 W (he.no hk) (hg.no hk) f2_ps
  clear he hg
  go_enter Tryz.func9, Tryz.ntmps9
  go_wp2_with fail
  refine Calls.mono HA.out ?_
  rintro e W1 ⟨hk1, h1⟩
  rw [f1_rs] at h1
  obtain ⟨u1, rfl, hF1⟩ := h1
  obtain ⟨g1, cap1, rfl, hc1⟩ := hF1.cells (M := f1_U) (by rw [f1_u.2]; exact List.reverse_perm _) (by decide) (by decide)
  have HK1 : Hid (Kept No w W1) := hk1
  have HC1 : Hid (∀ j, j < f1_U.length * 6 → W1.cell? ⟨g1, j, none⟩ = (flU f1_U)[j]?) := hc1
  clear hk1 hc1 hF1 HA
  go_wp2_with fail
  refine Calls.mono (HB.out _ HK1.out) ?_
  rintro e W2 ⟨hk2, h2⟩
  rw [f2_rs] at h2
  obtain ⟨u2, rfl, hF2⟩ := h2
  obtain ⟨g2, cap2, rfl, hc2⟩ := hF2.cells (M := f2_U) (by rw [f2_u.2]) (by decide) (by decide)
  have HK2 : Hid (Kept No w W2) := HK1.out.trans hk2
  have a3 := kept_cell hk2 id (HC1.out 3 (by decide))
  have a4 := kept_cell hk2 id (HC1.out 4 (by decide))
  have a10 := kept_cell hk2 id (HC1.out 10 (by decide))
  have b5 := hc2 5 (by decide)
  have b19 := hc2 19 (by decide)
  have b20 := hc2 20 (by decide)
  have b21 := hc2 21 (by decide)
  have b27 := hc2 27 (by decide)
  have b29 := hc2 29 (by decide)
  clear hk2 hc2 hF2 HB HC1 HK1
  have x3 : ((⟨#[120]⟩ : ByteArray).toList == (⟨#[120]⟩ : ByteArray).toList) = true := by simp
  simp only [f1_U, f2_U, flU, usC, List.map_cons, List.map_nil, List.flatten_cons, List.flatten_nil, List.cons_append, List.nil_append, List.getElem?_cons_succ, List.getElem?_cons_zero, List.length_cons, List.length_nil] at a3 a4 a10 b5 b19 b20 b21 b27 b29 ⊢
  go_wp2_with (first | (go_at_call 8; refine Calls.mono (no_any _ _) ?_; rintro e w1 ⟨rfl, rfl⟩))
  go_ret
  exact ⟨rfl, HK2.out⟩
end Go.Proofs.YtgkgpjbbmnfnmaaGreatDoor
