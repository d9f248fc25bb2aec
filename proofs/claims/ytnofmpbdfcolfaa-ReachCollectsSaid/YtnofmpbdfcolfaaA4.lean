/- The walk in memory; needHandle. -/
import Derived.Test.YtnofmpbdfcolfaaA3
namespace Go.Proofs.Ytnofmpbdfcolfaa
open Go.RowKit
set_option linter.unusedSimpArgs false
set_option linter.unusedVariables false

theorem ne_ty {w : World} {a b : Nat} {c c' : Array Value} {e e' : TypeId} {f f' : Nat × Nat} (h1 : w.heap[a]? = some (.cells c e f)) (h2 : w.heap[b]? = some (.cells c' e' f')) (he : e ≠ e') : a ≠ b := by
  rintro rfl
  rw [h1] at h2
  injection h2 with h2
  injection h2 with _ h2
  exact he h2

/-- Where a walk stands: what is needed, what waits for each, the stack. -/
structure St where
  nd : List Bool
  wt : List (List V)
  sk : List Int
/-- A graph's things as they lie in memory: below B in w. -/
structure Ev where
  w : World
  B : Nat
  tv : Value
  T : List Th
structure Ev.Ok (E : Ev) : Prop where
  rd : ∀ W, Below E.B E.w W → RdT W E.tv E.T
  le : E.B ≤ E.w.heap.size
  sm : E.T.length ≤ 100
  sl : ∀ t ∈ E.T, t.sl.length ≤ 1000
  th : ∀ j (hj : j < E.T.length), ∃ b off sv, (∃ cap, E.tv = .slice (some ⟨b, off, none⟩) E.T.length cap) ∧ ∀ W, Below E.B E.w W → W.cell? ⟨b, off + j * 5, none⟩ = some (.int .i64 E.T[j].kind) ∧ W.cell? ⟨b, off + j * 5 + 1, none⟩ = some (.int .i64 E.T[j].weak) ∧
    W.cell? ⟨b, off + j * 5 + 2, none⟩ = some (.int .i64 E.T[j].arr) ∧ W.cell? ⟨b, off + j * 5 + 3, none⟩ = some sv ∧ W.cell? ⟨b, off + j * 5 + 4, none⟩ = some (.int .i64 E.T[j].fin) ∧ RdV W sv E.T[j].sl

def bc (l : List Bool) : List Value := l.map Value.bool
theorem bc_get (l : List Bool) (i : Nat) (h : i < l.length) : (bc l).toArray[i]? = some (.bool (l.getD i true)) := by
  simp [bc, List.getD, h]
theorem bc_set (l : List Bool) (i : Nat) (b : Bool) : (bc l).toArray.setIfInBounds i (.bool b) = (bc (l.set i b)).toArray := by
  simp [bc]

abbrev PUSH (kb : Nat) : Value := .func (.func 54) #[] #[PT kb]
abbrev POP (kb : Nat) : Value := .func (.func 55) #[] #[PT kb]
abbrev SLN (b n : Nat) : Value := .slice (some ⟨b, 0, none⟩) n n

/-- The rows that wait. -/
structure Wts (W : World) (B wb n : Nat) (wt : List (List V)) (vs : List Value) : Prop where
  hp : W.heap[wb]? = some (.cells vs.toArray 23 (0, 0))
  vl : vs.length = n
  wl : wt.length = n
  row : ∀ i, i < n → VRow W B (vs.getD i undef) (wt.getD i [])
  ap : ∀ i j, i < n → j < n → i ≠ j → ∀ k, (vs.getD i undef).ownBlock = some k → (vs.getD j undef).ownBlock ≠ some k

/-- A walk in memory. -/
structure Wk (E : Ev) (c nb wb kb : Nat) (W : World) (s : St) : Prop where
  bl : Below E.B E.w W
  cc : W.heap[c]? = some (.cells #[E.tv, SLN nb E.T.length, SLN wb E.T.length, PUSH kb, POP kb] 60 (0, 0))
  nn : W.heap[nb]? = some (.cells (bc s.nd).toArray 4 (0, 0))
  nl : s.nd.length = E.T.length
  ww : ∃ vs, Wts W E.B wb E.T.length s.wt vs
  st : Stk W E.B kb s.sk
  bc : E.B ≤ c
  bn : E.B ≤ nb
  bw : E.B ≤ wb
  fit : s.sk.length + s.nd.count false ≤ E.T.length
  inr : ∀ h ∈ s.sk, 1 ≤ h ∧ h ≤ (E.T.length : Int)

theorem Wts.tn {ts : List Nat} {B B' wb n : Nat} {w w' : World} {wt : List (List V)} {vs : List Value} (h : Wts w B wb n wt vs) (hk : Tn ts B' w w') (h40 : 40 ∉ ts) (h23 : 23 ∉ ts) : Wts w' B wb n wt vs :=
  ⟨hk.cells h.hp h23, h.vl, h.wl, fun i hi => (h.row i hi).tn hk h40, h.ap⟩
theorem Tn.cases {ts : List Nat} {B : Nat} {w w' : World} (h : Tn ts B w w') : Kept (Typed ts B w) w w' := h
theorem Wk.tn {ts : List Nat} {E : Ev} {c nb wb kb : Nat} {w w' : World} {s : St} (h : Wk E c nb wb kb w s) (hE : E.Ok) (hk : Tn ts E.B w w') (ht : ∀ e ∈ [3, 4, 23, 26, 40, 60], e ∉ ts) : Wk E c nb wb kb w' s := by
  obtain ⟨vs, hv⟩ := h.ww
  exact ⟨hk.below h.bl hE.le, hk.cells h.cc (ht _ (by simp)), hk.cells h.nn (ht _ (by simp)), h.nl, ⟨vs, hv.tn hk (ht _ (by simp)) (ht _ (by simp))⟩, h.st.tn hk (ht _ (by simp)) (ht _ (by simp)), h.bc, h.bn, h.bw, h.fit, h.inr⟩
theorem Wk.no {E : Ev} {c nb wb kb : Nat} {w w' : World} {s : St} (h : Wk E c nb wb kb w s) (hE : E.Ok) (hk : Kept No w w') : Wk E c nb wb kb w' s := h.tn (ts := []) hE (Tn.no hk) (by simp)
theorem Wk.rd {E : Ev} {c nb wb kb : Nat} {w : World} {s : St} (h : Wk E c nb wb kb w s) (hE : E.Ok) : RdT w E.tv E.T := hE.rd w h.bl
theorem Wk.sz {E : Ev} {c nb wb kb : Nat} {w : World} {s : St} (h : Wk E c nb wb kb w s) (hE : E.Ok) : E.B ≤ w.heap.size := Nat.le_trans hE.le h.bl.size

/-- A handle is needed. -/
def needH (n : Nat) (s : St) (h : Int) : St :=
  if 1 ≤ h ∧ h ≤ (n : Int) ∧ s.nd.getD (h.toNat - 1) true = false then { s with nd := s.nd.set (h.toNat - 1) true, sk := s.sk ++ [h] } else s

theorem count_set (l : List Bool) (i : Nat) (h : i < l.length) (hf : l.getD i true = false) : (l.set i true).count false + 1 = l.count false := by
  induction l generalizing i with
  | nil => simp at h
  | cons b l ih =>
    cases i with
    | zero => simp [List.getD] at hf; subst hf; simp
    | succ i =>
      have := ih i (by simpa using h) (by simpa [List.getD] using hf)
      simp only [List.set_cons_succ, List.count_cons]
      omega

set_option maxRecDepth 20000 in
set_option maxHeartbeats 4000000 in
theorem needHandle_any {E : Ev} (hE : E.Ok) {c nb wb kb : Nat} {w : World} {s : St} (h : Wk E c nb wb kb w s) (x : Int) :
    Calls Try.prog 29 #[PT c, .int .i64 x] w fun e w' => (∃ v, e = .returned v) ∧ Wk E c nb wb kb w' (needH E.T.length s x) ∧ Tn [3, 4, 26] E.B w w' := by
  have HE : Hid E.Ok := hE
  have HW : Hid (Wk E c nb wb kb w s) := h
  obtain ⟨ao, cap, htv, hrd⟩ := h.rd hE
  clear hrd
  have c0 : w.cell? ⟨c, 0, none⟩ = some (.slice ao E.T.length cap) := by rw [cell_of h.cc, htv]; rfl
  have c1 : w.cell? ⟨c, 1, none⟩ = some (SLN nb E.T.length) := by rw [cell_of h.cc]; rfl
  have c3 : w.cell? ⟨c, 3, none⟩ = some (PUSH kb) := by rw [cell_of h.cc]; rfl
  have hsm := hE.sm
  have HE2 : Hid (∀ P : St → Prop, (1 ≤ x → x ≤ (E.T.length : Int) → s.nd.getD (x.toNat - 1) true = false → P { s with nd := s.nd.set (x.toNat - 1) true, sk := s.sk ++ [x] }) → (¬ (1 ≤ x ∧ x ≤ (E.T.length : Int) ∧ s.nd.getD (x.toNat - 1) true = false) → P s) → P (needH E.T.length s x)) := by
    intro P h1 h2
    unfold needH
    split
    · rename_i hq; exact h1 hq.1 hq.2.1 hq.2.2
    · rename_i hq; exact h2 hq
  by_cases h1 : (1 : Int) ≤ x
  · by_cases h2 : x ≤ (E.T.length : Int)
    · obtain ⟨m, rfl⟩ : ∃ m : Nat, x = (m : Int) + 1 := ⟨(x - 1).toNat, by omega⟩
      have hm : m < E.T.length := by omega
      have hn : w.cell? ⟨nb, m, none⟩ = some (.bool (s.nd.getD m true)) := by rw [cell_of h.nn]; exact bc_get _ _ (by rw [h.nl]; exact hm)
      have fz : ∀ o, w.frozen? ⟨nb, o, none⟩ = false := frozen_of h.nn
      have e1 : (m : Int) + 1 - 1 = (m : Int) := by omega
      have e2 : ((m : Int) + 1).toNat - 1 = m := by omega
      rw [e2] at HE2
      clear h htv
      by_cases h3 : s.nd.getD m true = true
      · rw [h3] at hn
        have H3 : Hid (s.nd.getD m true = true) := h3
        clear h3
        go_enter Try.func29, Try.ntmps29
        go_wp2
        refine bodyPost_ret (results_none rfl _ _ _) rfl ⟨⟨_, rfl⟩, ?_, Tn.refl _ _ _⟩
        exact HE2.out (fun s => Wk E c nb wb kb w s) (fun _ _ h => by rw [H3.out] at h; cases h) (fun _ => HW.out)
      · have h3' : s.nd.getD m true = false := by simpa using h3
        rw [h3'] at hn
        have H3 : Hid (s.nd.getD m true = false) := h3'
        clear h3 h3'
        have hne : c ≠ nb := ne_ty HW.out.cc HW.out.nn (by decide)
        obtain ⟨W, HWd⟩ : ∃ W, Hid (W = w.setCell ⟨nb, m, none⟩ (.bool true)) := ⟨_, rfl⟩
        have c3' : W.cell? ⟨c, 3, none⟩ = some (PUSH kb) := by rw [HWd.out, cell_of (hp_set_other HW.out.cc m _ hne)]; rfl
        have T1 : Hid (Tn [4] E.B w W) := by
          show Tn _ _ _ _
          rw [HWd.out]; exact Kept.set (Kept.refl _ _) nb m _ (.inl ⟨HW.out.bn, _, 4, _, HW.out.nn, by simp⟩)
        have HN : Hid (W.heap[nb]? = some (.cells (bc (s.nd.set m true)).toArray 4 (0, 0))) := by
          show _ = _
          rw [HWd.out, ← bc_set]; exact hp_set_same HW.out.nn m _
        have hcnt := count_set s.nd m (by rw [HW.out.nl]; exact hm) H3.out
        have hft := HW.out.fit
        go_enter Try.func29, Try.ntmps29
        go_wp2_with (first | rw [← HWd.out])
        go_at_call 54
        refine (push_any (HW.out.st.tn T1.out (by simp) (by simp)) (by omega) (Nat.le_trans (HW.out.sz hE) T1.out.size) _).mono ?_
        rintro e w2 ⟨⟨v, rfl⟩, hst, ht2⟩
        go_wp2
        go_end0
        obtain ⟨vs, hv⟩ := HW.out.ww
        refine ⟨⟨_, rfl⟩, ?_, (T1.out.mono (by simp)).trans (ht2.mono (by simp))⟩
        refine HE2.out (fun s => Wk E c nb wb kb w2 s) (fun _ _ _ => ?_) (fun hq => (hq ⟨by omega, by omega, H3.out⟩).elim)
        refine ⟨ht2.below (T1.out.below HW.out.bl hE.le) hE.le, ht2.cells (T1.out.cells HW.out.cc (by simp)) (by simp), ht2.cells HN.out (by simp), ?_, ⟨vs, (hv.tn T1.out (by simp) (by simp)).tn ht2 (by simp) (by simp)⟩, hst, HW.out.bc, HW.out.bn, HW.out.bw, ?_, ?_⟩
        · simp; exact HW.out.nl
        · simp only [List.length_append, List.length_cons, List.length_nil]; omega
        · intro h hh
          rcases List.mem_append.1 hh with hh | hh
          · exact HW.out.inr h hh
          · simp at hh; subst hh; omega
    · clear h htv
      go_enter Try.func29, Try.ntmps29
      go_wp2
      refine bodyPost_ret (results_none rfl _ _ _) rfl ⟨⟨_, rfl⟩, ?_, Tn.refl _ _ _⟩
      exact HE2.out (fun s => Wk E c nb wb kb w s) (fun _ h _ => by omega) (fun _ => HW.out)
  · clear h htv
    go_enter Try.func29, Try.ntmps29
    go_wp2
    refine bodyPost_ret (results_none rfl _ _ _) rfl ⟨⟨_, rfl⟩, ?_, Tn.refl _ _ _⟩
    exact HE2.out (fun s => Wk E c nb wb kb w s) (fun h _ _ => by omega) (fun _ => HW.out)
end Go.Proofs.Ytnofmpbdfcolfaa
