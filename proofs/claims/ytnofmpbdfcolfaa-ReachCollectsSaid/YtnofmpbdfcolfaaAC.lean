/- goOn: what is on the stack is gone through, till nothing is. -/
import Derived.Test.YtnofmpbdfcolfaaAB
namespace Go.Proofs.Ytnofmpbdfcolfaa
open Go.RowKit Go.Shelf
set_option linter.unusedSimpArgs false
set_option linter.unusedVariables false

/-- One is taken from the stack. -/
def popS (s : St) : St := { s with sk := s.sk.dropLast }
/-- The things, with a last one for what is not there. -/
def thAt (T : List Th) (i : Nat) : Th := T.getD i ⟨0, 0, 0, [], 0⟩
/-- .. and gone through. -/
def stepG (T : List Th) (s : St) : St :=
  thro T ((s.wt.getD ((s.sk.getLastD 0).toNat - 1) []).foldl (need T) (popS s)) (thAt T ((s.sk.getLastD 0).toNat - 1))
def goG (T : List Th) : Nat → St → St
  | 0, s => s
  | f + 1, s => if s.sk = [] then s else goG T f (stepG T s)
/-- How many steps are left at the most. -/
def mu (s : St) : Nat := 2 * s.nd.count false + s.sk.length

theorem needH_mu (n : Nat) (s : St) (x : Int) : mu (needH n s x) ≤ mu s := by
  unfold needH
  split
  · rename_i h
    have hi : x.toNat - 1 < s.nd.length := by
      rcases Nat.lt_or_ge (x.toNat - 1) s.nd.length with hi | hi
      · exact hi
      · have := h.2.2; simp [List.getD, List.getElem?_eq_none hi] at this
    have := count_set s.nd _ hi h.2.2
    simp only [mu, List.length_append, List.length_cons, List.length_nil]; omega
  · exact Nat.le_refl _
theorem need_mu (T : List Th) (s : St) (v : V) : mu (need T s v) ≤ mu s := by unfold need; split; exact needH_mu _ _ _; exact Nat.le_refl _
theorem needT_mu (T : List Th) (s : St) (v : V) : mu (needT T s v) ≤ mu s := by unfold needT; split; exact need_mu _ _ _; exact Nat.le_refl _
theorem needP_mu (T : List Th) (s : St) (k v : V) : mu (needP T s k v) ≤ mu s := by
  unfold needP; split
  · exact Nat.le_refl _
  · exact Nat.le_trans (need_mu _ _ _) (need_mu _ _ _)
theorem modeF_mu (T : List Th) (k : Int) (s : St) (a b : V) : mu (modeF T k s a b) ≤ mu s := by
  unfold modeF
  split
  · exact needP_mu _ _ _ _
  · split
    · exact Nat.le_trans (needT_mu _ _ _) (need_mu _ _ _)
    · exact Nat.le_trans (needT_mu _ _ _) (needT_mu _ _ _)
theorem fold_mu {α : Type} {f : St → α → St} (hf : ∀ s a, mu (f s a) ≤ mu s) (L : List α) : ∀ s, mu (L.foldl f s) ≤ mu s := by
  induction L with
  | nil => exact fun s => Nat.le_refl _
  | cons a L ih => exact fun s => Nat.le_trans (ih _) (hf s a)
theorem thro_mu (T : List Th) (s : St) (t : Th) : mu (thro T s t) ≤ mu s := by
  unfold thro
  split
  · refine Nat.le_trans (fold_mu (fun s p => modeF_mu _ _ _ _ _) _ _) ?_
    unfold need0; split
    · exact need_mu _ _ _
    · exact Nat.le_refl _
  · exact fold_mu (need_mu T) _ _
theorem stepG_mu (T : List Th) (s : St) (h : s.sk ≠ []) : mu (stepG T s) < mu s := by
  refine Nat.lt_of_le_of_lt (thro_mu _ _ _) (Nat.lt_of_le_of_lt (fold_mu (need_mu T) _ _) ?_)
  have : 0 < s.sk.length := List.length_pos_iff.2 h
  simp only [mu, popS, List.length_dropLast]; omega

theorem fold_wt {α : Type} {f : St → α → St} (hf : ∀ s a, (f s a).wt = s.wt) (L : List α) : ∀ s, (L.foldl f s).wt = s.wt := by
  induction L with
  | nil => exact fun s => rfl
  | cons a L ih => exact fun s => (ih _).trans (hf s a)
theorem modeF_wt (T : List Th) (k : Int) (s : St) (a b : V) (q : Nat) (h : wtB s q) : wtB (modeF T k s a b) (q + 1) := by
  unfold modeF
  split
  · exact needP_wt _ _ _ _ _ h
  · split
    · exact needK_wt _ _ _ _ _ h
    · exact needTT_wt _ _ _ _ _ h
theorem thro_wt (T : List Th) (s : St) (t : Th) (ht : t.sl.length ≤ 1000) (q : Nat) (h : wtB s q) : wtB (thro T s t) (q + 1000) := by
  unfold thro
  split
  · have := pairF_wt (modeF_wt T t.weak) t (need0 T s t) q (by unfold wtB; rw [need0_wt]; exact h) (vals t).length
    have hv := vals_len t
    exact fun l hl => Nat.le_trans (this l hl) (by omega)
  · intro l hl
    rw [fold_wt (need_wt T)] at hl
    exact Nat.le_trans (h l hl) (by omega)
theorem stepG_wt (T : List Th) (hT : ∀ t ∈ T, t.sl.length ≤ 1000) (s : St) (q : Nat) (h : wtB s q) : wtB (stepG T s) (q + 1000) := by
  refine thro_wt T _ _ ?_ q ?_
  · unfold thAt
    by_cases hi : (s.sk.getLastD 0).toNat - 1 < T.length
    · simp only [List.getD, List.getElem?_eq_getElem hi, Option.getD_some]; exact hT _ (List.getElem_mem hi)
    · simp only [List.getD, List.getElem?_eq_none (Nat.le_of_not_lt hi), Option.getD_none]; simp
  · intro l hl
    rw [fold_wt (need_wt T)] at hl
    exact h l hl

theorem Wk.pop {E : Ev} (hE : E.Ok) {c nb wb kb : Nat} {w w' : World} {s : St} (h : Wk E c nb wb kb w s) (hs : Stk w' E.B kb s.sk.dropLast) (ht : Tn [26] E.B w w') : Wk E c nb wb kb w' (popS s) := by
  obtain ⟨vs, hv⟩ := h.ww
  exact ⟨ht.below h.bl hE.le, ht.cells h.cc (by simp), ht.cells h.nn (by simp), h.nl, ⟨vs, hv.tn ht (by simp) (by simp)⟩, hs, h.bc, h.bn, h.bw, by
    have := h.fit; simp only [popS, List.length_dropLast]; omega, fun x hx => h.inr x ((List.dropLast_sublist _).subset hx)⟩

/-- What comes of a pop. -/
def PopIs (E : Ev) (c nb wb kb : Nat) (s : St) (h m : Value) (W : World) : Prop :=
  (s.sk = [] ∧ h = .int .i64 0 ∧ m = .bool false ∧ Wk E c nb wb kb W s) ∨ (s.sk ≠ [] ∧ h = .int .i64 (s.sk.getLastD 0) ∧ m = .bool true ∧ Wk E c nb wb kb W (popS s) ∧ 1 ≤ s.sk.getLastD 0 ∧ s.sk.getLastD 0 ≤ (E.T.length : Int))
theorem pop_any {E : Ev} (hE : E.Ok) {c nb wb kb : Nat} {w : World} {s : St} (h : Wk E c nb wb kb w s) :
    Calls Try.prog 55 #[PT kb] w fun e w' => ∃ hv mv, e = .returned (.tuple #[hv, mv]) ∧ PopIs E c nb wb kb s hv mv w' ∧ Tn TS E.B w w' := by
  by_cases h0 : s.sk = []
  · have hst := h.st
    rw [h0] at hst
    refine (pop_nil hst).mono ?_
    rintro e w2 ⟨rfl, rfl⟩
    exact ⟨_, _, rfl, .inl ⟨h0, rfl, rfl, h⟩, Tn.refl _ _ _⟩
  · refine (pop_one h.st (by have := h.fit; have := hE.sm; omega) h0).mono ?_
    rintro e w2 ⟨rfl, h1, h2⟩
    have e : s.sk.getLastD 0 = s.sk.getLast h0 := by rw [List.getLastD_eq_getLast?, List.getLast?_eq_some_getLast h0]; rfl
    have := h.inr _ (List.getLast_mem h0)
    exact ⟨_, _, rfl, .inr ⟨h0, by rw [e], rfl, h.pop hE h1 h2, by rw [e]; exact this⟩, h2.mono (by simp)⟩

def isF : Value → Bool
  | .bool false => true
  | _ => false
/-- How many are not needed, as read in memory. -/
def rdN (W : World) (nb : Nat) : Nat := match W.heap[nb]? with
  | some (.cells cs _ _) => cs.toList.countP isF
  | _ => 0
def lenV : Value → Nat
  | .slice _ n _ => n
  | _ => 0
/-- How long the stack is, as read in memory. -/
def rdK (W : World) (kb : Nat) : Nat := match W.heap[kb]? with
  | some (.cells cs _ _) => lenV (cs[0]?.getD undef)
  | _ => 0
def meas (nb kb : Nat) (m : Value) (W : World) : Nat := 2 * rdN W nb + rdK W kb + (match m with | .bool true => 1 | _ => 0)
theorem bc_count (l : List Bool) : (bc l).countP isF = l.count false := by
  induction l with
  | nil => rfl
  | cons b l ih =>
    have e : bc (b :: l) = .bool b :: bc l := rfl
    rw [e, List.countP_cons, ih, List.count_cons]
    cases b <;> rfl
theorem Wk.reads {E : Ev} {c nb wb kb : Nat} {w : World} {s : St} (h : Wk E c nb wb kb w s) : rdN w nb = s.nd.count false ∧ rdK w kb = s.sk.length := by
  constructor
  · unfold rdN; rw [h.nn]; simp only; exact bc_count _
  · obtain ⟨sv, h1, h2⟩ := h.st.ex
    obtain ⟨ao, cap, rfl⟩ := h2.form
    unfold rdK; rw [h1]; rfl
theorem PopIs.mea {E : Ev} {c nb wb kb : Nat} {s : St} {h m : Value} {W : World} (hp : PopIs E c nb wb kb s h m W) : meas nb kb m W = mu s := by
  rcases hp with ⟨h0, rfl, rfl, hw⟩ | ⟨h0, rfl, rfl, hw, _⟩
  · unfold meas mu; rw [hw.reads.1, hw.reads.2]; rfl
  · have : 0 < s.sk.length := List.length_pos_iff.2 h0
    unfold meas mu; rw [hw.reads.1, hw.reads.2]; simp only [popS, List.length_dropLast]; omega
end Go.Proofs.Ytnofmpbdfcolfaa
