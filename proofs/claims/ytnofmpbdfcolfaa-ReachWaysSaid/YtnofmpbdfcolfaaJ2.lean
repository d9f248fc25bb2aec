/- A mark in memory. -/
import Derived.Test.YtnofmpbdfcolfaaJ1
namespace Go.Proofs.Ytnofmpbdfcolfaa
open Go.RowKit Go.Shelf
set_option linter.unusedSimpArgs false
set_option linter.unusedVariables false

theorem ic_get (l : List Int) (i : Nat) (h : i < l.length) : (ic l).toArray[i]? = some (.int .i64 (l.getD i 0)) := by simp [ic, List.getD, h]
theorem ic_set (l : List Int) (i : Nat) (x : Int) : (ic l).toArray.setIfInBounds i (.int .i64 x) = (ic (l.set i x)).toArray := by simp [ic, List.map_set]

set_option maxRecDepth 20000 in
set_option maxHeartbeats 2000000 in
theorem mark_any {w : World} {tv rv : Value} {T : List Th} {nb : Nat} {F : List Int} (hT : RdT w tv T) (hn : T.length ≤ 1000) (hF : w.heap[nb]? = some (.cells (ic F).toArray 3 (0, 0))) (hl : F.length = T.length) (v : V) (d : Int) :
    Calls Try.prog 20 #[.agg #[tv, rv], AV v, SLN nb T.length, .int .i64 d] w fun e w' => (∃ v, e = .returned v) ∧ w'.heap[nb]? = some (.cells (ic (mkF T d F v)).toArray 3 (0, 0)) ∧ Kept (fun k => k = nb) w w' := by
  obtain ⟨t, n⟩ := v
  have HF : Hid (w.heap[nb]? = some (.cells (ic F).toArray 3 (0, 0))) := hF
  obtain ⟨W, HW⟩ : ∃ W, Hid (W = (w.alloc (.cells #[tv, rv] 25)).alloc (.cells #[.int .i64 t, .int .i64 n] 40)) := ⟨_, rfl⟩
  have HK : Hid (Kept No w W) := by show Kept _ _ _; rw [HW.out]; exact ((Kept.refl _ _).alloc _).alloc _
  have HB0 : W.heap[w.heap.size]? = some (.cells #[tv, rv] 25 (0, 0)) := by rw [HW.out]; exact (Below.heap_alloc _ _ _ (by simp)).trans (World.alloc_heap_new w _)
  have HB1 : W.heap[w.heap.size + 1]? = some (.cells #[.int .i64 t, .int .i64 n] 40 (0, 0)) := by rw [HW.out]; have := World.alloc_heap_new (w.alloc (.cells #[tv, rv] 25)) (.cells #[.int .i64 t, .int .i64 n] 40); rwa [World.size_alloc] at this
  have g0 : W.cell? ⟨w.heap.size, 0, none⟩ = some tv := by rw [cell_of HB0]; rfl
  have c0 : W.cell? ⟨w.heap.size + 1, 0, none⟩ = some (.int .i64 t) := by rw [cell_of HB1]; rfl
  have c1 : W.cell? ⟨w.heap.size + 1, 1, none⟩ = some (.int .i64 n) := by rw [cell_of HB1]; rfl
  have HFW : Hid (W.heap[nb]? = some (.cells (ic F).toArray 3 (0, 0))) := HK.out.heap hF id
  have HSame : Hid (mkF T d F (t, n) = F → True ∧ W.heap[nb]? = some (.cells (ic (mkF T d F (t, n))).toArray 3 (0, 0)) ∧ Kept (fun k => k = nb) w W) := fun e => ⟨trivial, by rw [e]; exact HFW.out, HK.out.mono (fun _ h => h.elim)⟩
  obtain ⟨ao, cap, rfl, hC⟩ := hT.no HK.out
  clear hT HB0 HB1 hF
  have HNo : Hid (obj T (t, n) = false → mkF T d F (t, n) = F) := fun e => by unfold mkF; rw [if_neg (fun q => by rw [e] at q; cases q.1)]
  by_cases h1 : (4 : Int) ≤ t
  case neg =>
    have HR : Hid (mkF T d F _ = F) := HNo.out (by unfold obj oT; simp [h1])
    have hdec : decide (4 ≤ t) = false := by simpa using h1
    go_enter Try.func20, Try.ntmps20
    go_wp2_with (first | rw [← HW.out])
    go_quiet (fail)
    go_wp2
    go_end0
    exact ⟨⟨_, rfl⟩, (HSame.out HR.out).2.1, (HSame.out HR.out).2.2.drewN nq⟩
  by_cases h2 : t ≤ 9
  case neg =>
    have HR : Hid (mkF T d F _ = F) := HNo.out (by unfold obj oT; simp [h2])
    have hdec : decide (t ≤ 9) = false := by simpa using h2
    go_enter Try.func20, Try.ntmps20
    go_wp2_with (first | rw [← HW.out])
    go_quiet (fail)
    go_wp2
    go_end0
    exact ⟨⟨_, rfl⟩, (HSame.out HR.out).2.1, (HSame.out HR.out).2.2.drewN nq⟩
  by_cases h3 : (1 : Int) ≤ n
  case neg =>
    have HR : Hid (mkF T d F _ = F) := HNo.out (by unfold obj; simp [h3])
    have hdec : decide (1 ≤ n) = false := by simpa using h3
    go_enter Try.func20, Try.ntmps20
    go_wp2_with (first | rw [← HW.out])
    go_quiet (fail)
    go_wp2
    go_end0
    exact ⟨⟨_, rfl⟩, (HSame.out HR.out).2.1, (HSame.out HR.out).2.2.drewN nq⟩
  by_cases h4 : n ≤ (T.length : Int)
  case neg =>
    have HR : Hid (mkF T d F _ = F) := HNo.out (by unfold obj; simp [h4])
    have hdec : decide (n ≤ (T.length : Int)) = false := by simpa using h4
    go_enter Try.func20, Try.ntmps20
    go_wp2_with (first | rw [← HW.out])
    go_quiet (fail)
    go_wp2
    go_end0
    exact ⟨⟨_, rfl⟩, (HSame.out HR.out).2.1, (HSame.out HR.out).2.2.drewN nq⟩
  obtain ⟨m, rfl⟩ : ∃ m : Nat, n = (m : Int) + 1 := ⟨(n - 1).toNat, by omega⟩
  obtain ⟨b, off, sv, rfl, k0, _⟩ := hC m (by omega)
  have ek : kindAt T (((m : Int) + 1).toNat - 1) = T[m].kind := by
    unfold kindAt
    rw [show ((m : Int) + 1).toNat - 1 = m by omega, List.getElem?_eq_getElem (by omega)]; rfl
  have HOb : Hid (obj T (t, (m : Int) + 1) = decide (T[m].kind = t)) := by
    show _ = _
    unfold obj oT
    simp only [h1, h2, h3, h4, ek, decide_true, Bool.true_and]
  have e1 : (m : Int) + 1 - 1 = (m : Int) := by omega
  have hm : (m : Int) < (T.length : Int) := by omega
  have HIx : Hid (ix (t, (m : Int) + 1) = m) := by show _ = _; unfold ix; show ((m : Int) + 1).toNat - 1 = m; omega
  have cf : W.cell? ⟨nb, m, none⟩ = some (.int .i64 (F.getD m 0)) := by rw [cell_of HFW.out]; exact ic_get _ _ (by omega)
  have fz : ∀ o, W.frozen? ⟨nb, o, none⟩ = false := frozen_of HFW.out
  clear hC ek
  generalize T[m].kind = kd at k0 HOb
  by_cases h5 : kd = t
  case neg =>
    have HR : Hid (mkF T d F _ = F) := HNo.out (by rw [HOb.out]; simp [h5])
    have hdec : (kd == t) = false := by simpa using h5
    go_enter Try.func20, Try.ntmps20
    go_wp2_with (first | rw [← HW.out])
    go_quiet (fail)
    go_wp2
    go_end0
    exact ⟨⟨_, rfl⟩, (HSame.out HR.out).2.1, (HSame.out HR.out).2.2.drewN nq⟩
  subst h5
  have HO : Hid (obj T (kd, (m : Int) + 1) = true) := by show _ = _; rw [HOb.out]; simp
  obtain ⟨fm, HFm⟩ : ∃ fm, Hid (F.getD m 0 = fm) := ⟨_, rfl⟩
  rw [HFm.out] at cf
  by_cases h6 : fm = 0
  case neg =>
    have HR : Hid (mkF T d F (kd, (m : Int) + 1) = F) := by show _ = _; unfold mkF; rw [if_neg (fun q => h6 (by rw [← HFm.out, ← HIx.out]; exact q.2))]
    go_enter Try.func20, Try.ntmps20
    go_wp2_with (first | rw [← HW.out])
    go_quiet (fail)
    go_wp2
    go_end0
    exact ⟨⟨_, rfl⟩, (HSame.out HR.out).2.1, (HSame.out HR.out).2.2.drewN nq⟩
  subst h6
  have HR : Hid (mkF T d F (kd, (m : Int) + 1) = F.set m d) := by show _ = _; unfold mkF; rw [if_pos ⟨HO.out, by rw [HIx.out]; exact HFm.out⟩, HIx.out]
  have HFin : Hid (∀ q, ((W.drewN q).setCell ⟨nb, m, none⟩ (.int .i64 d)).heap[nb]? = some (.cells (ic (mkF T d F (kd, (m : Int) + 1))).toArray 3 (0, 0)) ∧ Kept (fun k => k = nb) w ((W.drewN q).setCell ⟨nb, m, none⟩ (.int .i64 d))) := fun q => by
    rw [HR.out, ← ic_set]
    exact ⟨hp_set_same (w := W.drewN q) HFW.out m _, ((HK.out.drewN q).mono (fun _ h => h.elim)).set nb m _ (.inl rfl)⟩
  go_enter Try.func20, Try.ntmps20
  go_wp2_with (first | rw [← HW.out])
  go_quiet (fail)
  go_wp2
  go_end0
  exact ⟨⟨_, rfl⟩, HFin.out _⟩
end Go.Proofs.Ytnofmpbdfcolfaa
