/- Scope: what is found, token by token. -/
import Derived.Test.YtgkgpjbbmnfnmaaGreatDoorS22
namespace Go.Proofs.YtgkgpjbbmnfnmaaGreatDoor
open Go.RowKit
set_option linter.unusedSimpArgs false
set_option linter.unusedVariables false

theorem Lx.rise {s : ByteArray} {hs : s.size ≤ 8192} {k : Nat} {e : Option (Nat × Int)} {L : List Tk} (h : Lx s hs k e L) : (∀ Y ∈ L, (k : Int) ≤ Y.a) ∧ L.Pairwise (fun X Y => X.a < Y.a) := by
  induction h with
  | done k hk => exact ⟨fun Y hY => by simp at hY, .nil⟩
  | bad k x hk hx h0 => exact ⟨fun Y hY => by simp at hY, .nil⟩
  | more k E X e L hk h1 h2 h3 h4 h5 h6 ih =>
    obtain ⟨n, K, vt, vn, sy, q1, q2, q3, q4, q5⟩ := tk_ok s hk hs h1
    rw [h2] at q5
    have hX : X.a = (k : Int) := by rw [q5]
    refine ⟨fun Y hY => ?_, List.pairwise_cons.2 ⟨fun Y hY => ?_, ih.2⟩⟩
    · rcases List.mem_cons.1 hY with rfl | hY
      · rw [hX]; exact Int.le_refl _
      · have := ih.1 Y hY; omega
    · have := ih.1 Y hY; rw [hX]; omega
theorem pair_uniq {α : Type} : ∀ {L M : List (Int × α)}, L.Perm M → L.Pairwise (fun x y => x.1 ≤ y.1) → M.Pairwise (fun x y => x.1 < y.1) → L = M := fun {L M} hp hs hm => by
  have key : ∀ {M : List (Int × α)}, M.Pairwise (fun x y => x.1 < y.1) → ∀ x ∈ M, ∀ y ∈ M, x.1 = y.1 → x = y := by
    intro M
    induction M with
    | nil => intro _ x hx; simp at hx
    | cons z r ih =>
      intro h x hx y hy e
      rw [List.pairwise_cons] at h
      rcases List.mem_cons.1 hx with hx | hx <;> rcases List.mem_cons.1 hy with hy | hy
      · rw [hx, hy]
      · have := h.1 y hy; rw [← hx] at this; omega
      · have := h.1 x hx; rw [← hy] at this; omega
      · exact ih h.2 x hx y hy e
  refine List.Perm.eq_of_pairwise (le := fun (x y : Int × α) => x.1 ≤ y.1) (fun x y hx hy h1 h2 => ?_) hs (hm.imp (fun h => by omega)) hp
  exact key hm x (hp.mem_iff.1 hx) y hy (by omega)
/-- What a source's tree and its tokens are. -/
structure Src (s : ByteArray) (x : Tr) (L : List Tk) : Prop where
  le : s.size ≤ 8192
  lx : Lx s le (skipB false (bl s)) none L
  wh : whole ⟨L, (s.size : Int)⟩ = .ok x
theorem psr_src {s : ByteArray} {x : Tr} (h : PsR s (.ok x)) : ∃ L, Src s x L := by
  rcases h with ⟨hs, e⟩ | ⟨hs, e, L, hL, hR⟩
  · cases e
  · cases e with
    | some e => cases hR
    | none => exact ⟨L, hs, hL, hR.symm⟩
theorem Src.names {s : ByteArray} {x : Tr} {L : List Tk} (h : Src s x L) : ∃ I : List Nat, I.Pairwise (· < ·) ∧ (∀ i ∈ I, i < L.length ∧ (L.getD i ⟨0, ⟨#[]⟩, 0, 0, ⟨#[]⟩, (s.size : Int), 0⟩).k = 1) ∧ nms x = I.map (fun i => ((L.getD i ⟨0, ⟨#[]⟩, 0, 0, ⟨#[]⟩, (s.size : Int), 0⟩).a, (L.getD i ⟨0, ⟨#[]⟩, 0, 0, ⟨#[]⟩, (s.size : Int), 0⟩).t)) := by
  obtain ⟨q, hq, _, I, h1, h2, h3⟩ := whole_r (cloN _) h.wh
  exact ⟨I, h1, fun i hi => (h2 i hi).2.2, h3⟩
theorem getD_eq {L : List Tk} {i : Nat} (hi : i < L.length) (d : Tk) : L.getD i d = L[i] := by
  rw [List.getD_eq_getElem?_getD, List.getElem?_eq_getElem hi]
  rfl
/-- Each use of what is found stands at a name's token. -/
theorem Src.found {s : ByteArray} {x : Tr} {L : List Tk} (h : Src s x L) {U : List Us} (hp : U.Perm ((wk x s0).us.map (heldU (wk x s0).far))) (hs : U.Pairwise (fun x y => x.a ≤ y.a)) :
    ∃ I : List Nat, I.length = U.length ∧ I.Pairwise (· < ·) ∧ ∀ j (hj : j < U.length) (hi : j < I.length), ∃ hk : I[j] < L.length, L[I[j]].k = 1 ∧ U[j].a = L[I[j]].a ∧ U[j].t = L[I[j]].t := by
  obtain ⟨I, h1, h2, h3⟩ := h.names
  have hS := psr_shp (.inr ⟨h.le, none, L, h.lx, h.wh.symm⟩ : PsR s (.ok x)) x rfl
  have hU : (U.map ut).Perm (nms x) := by
    refine (hp.map ut).trans ?_
    have e : ((wk x s0).us.map (heldU (wk x s0).far)).map ut = uts (wk x s0) := by
      rw [List.map_map]
      rfl
    rw [e]
    have := wk_names x hS.1 s0
    simpa [uts, s0] using this
  have hr := h.lx.rise.2
  have hlt : ∀ i j (hi : i < L.length) (hj : j < L.length), i < j → L[i].a < L[j].a := fun i j hi hj hij => List.pairwise_iff_getElem.1 hr i j hi hj hij
  have hm : (nms x).Pairwise (fun p q => p.1 < q.1) := by
    rw [h3, List.pairwise_map]
    refine List.Pairwise.imp_of_mem ?_ h1
    intro i j hi hj hij
    have a1 := (h2 i hi).1
    have a2 := (h2 j hj).1
    dsimp only
    rw [getD_eq a1, getD_eq a2]
    exact hlt i j a1 a2 hij
  have e := pair_uniq hU (by rw [List.pairwise_map]; exact hs) hm
  rw [h3] at e
  have hl : I.length = U.length := by have := congrArg List.length e; simpa using this.symm
  refine ⟨I, hl, h1, fun j hj hi => ?_⟩
  have a1 := h2 I[j] (List.getElem_mem hi)
  have e1 := congrArg (fun l => l[j]?) e
  simp only [List.getElem?_map, List.getElem?_eq_getElem hj, List.getElem?_eq_getElem hi, Option.map_some, Option.some.injEq] at e1
  rw [getD_eq a1.1] at e1
  have h4 := a1.2
  rw [getD_eq a1.1] at h4
  exact ⟨a1.1, h4, congrArg Prod.fst e1, congrArg Prod.snd e1⟩
/-- An error has a number that is not 0, and a place within the source. -/
theorem resM_err {s : ByteArray} {T : Except (Int × Int) Tr} (h : PsR s T) {a c : Int} (hr : resM T = .error (a, c)) : c ≠ 0 ∧ 0 ≤ a ∧ a ≤ (s.size : Int) := by
  cases T with
  | error e =>
    obtain ⟨a', c'⟩ := e
    have : (a', c') = (a, c) := Except.error.inj hr
    simp only [Prod.mk.injEq] at this
    rw [← this.1, ← this.2]
    exact ends_err h a' c' rfl
  | ok x =>
    obtain ⟨L, hS⟩ := psr_src h
    unfold resM at hr
    dsimp only at hr
    split at hr
    · cases hr
    · rename_i h0
      simp only [Except.error.injEq, Prod.mk.injEq] at hr
      refine ⟨by rw [← hr.2]; exact h0, ?_⟩
      have hp := wk_plc x s0 (.inl rfl)
      rw [← hr.1]
      rcases hp with hp | hp
      · rw [hp]; omega
      · obtain ⟨p, hp1, hp2⟩ := List.mem_map.1 hp
        have hSh := psr_shp h x rfl
        have h5 := (wk_names x hSh.1 s0).mem_iff.1 hp1
        simp only [uts, s0, List.map_nil, List.nil_append] at h5
        obtain ⟨I, h1, h2, h3⟩ := hS.names
        rw [h3] at h5
        obtain ⟨i, hi, rfl⟩ := List.mem_map.1 h5
        have a1 := (h2 i hi).1
        have := hS.lx.places _ (List.getElem_mem a1)
        rw [← hp2]
        dsimp only
        rw [getD_eq a1]
        exact this
end Go.Proofs.YtgkgpjbbmnfnmaaGreatDoor
