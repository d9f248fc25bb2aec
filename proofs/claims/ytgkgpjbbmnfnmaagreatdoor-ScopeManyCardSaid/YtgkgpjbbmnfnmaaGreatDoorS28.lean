/- Scope: sources made of words are parsed. -/
import Derived.Test.YtgkgpjbbmnfnmaaGreatDoorS27
namespace Go.Proofs.YtgkgpjbbmnfnmaaGreatDoor
open Go.RowKit
set_option linter.unusedSimpArgs false
set_option linter.unusedVariables false

theorem tk_of {V : Env} {p : Nat} {x : Tk} (h : V.L[p]? = some x) : V.tk p = x := by
  unfold Env.tk
  rw [List.getD_eq_getElem?_getD, h]
  rfl
theorem is_of {V : Env} {p : Nat} {x : Tk} (h : V.L[p]? = some x) (s : List UInt8) : V.is s p = (x.t.data.toList == s) := by
  unfold Env.is
  rw [tk_of h]
theorem is_past {V : Env} {p : Nat} (h : V.L.length ≤ p) (s : List UInt8) : V.is s p = (([] : List UInt8) == s) := by
  unfold Env.is Env.tk
  rw [List.getD_eq_getElem?_getD, List.getElem?_eq_none h]
  rfl
theorem lt_of {V : Env} {p : Nat} {x : Tk} (h : V.L[p]? = some x) : p < V.L.length := (List.getElem?_eq_some_iff.1 h).1
def nmA (b : Nat) : Tr := .mk 6 ⟨wA.toArray⟩ 0 0 0 [] b
def loc (a b : Nat) : Tr := .mk 21 ⟨#[]⟩ 0 0 1 [nmA b] a
theorem local_at {V : Env} {G : Lev} {p a b : Nat} (h0 : V.L[p]? = some (wtok a wLocal)) (h1 : V.L[p + 1]? = some (wtok b wA)) (h2 : V.is [44] (p + 2) = false) (h3 : V.is [61] (p + 2) = false) : statementS V G p = .ok (loc a b, p + 2) := by
  have e1 : V.is sLocal p = true := (is_of h0 _).trans rfl
  have e2 : V.is sFunction (p + 1) = false := (is_of h1 _).trans rfl
  have e3 : V.isName (p + 1) = true := by unfold Env.isName; rw [tk_of h1]; rfl
  have e4 : V.name (p + 1) = .ok (nmA b, p + 2) := by
    unfold Env.name Env.at
    rw [e3, if_pos rfl, tk_of h1]
    rfl
  have e5 : V.names (p + 1) = .ok ([nmA b], p + 2) := by
    unfold Env.names Env.sep
    rw [e4]
    dsimp only
    rw [h2]
    rfl
  have e6 : V.at p = (a : Int) := by unfold Env.at; rw [tk_of h0]; rfl
  unfold statementS
  rw [if_pos e1]
  unfold localS
  rw [if_neg (by rw [e2]; decide), e5]
  dsimp only
  rw [if_neg (by rw [h3]; decide), e6]
  rfl
/-- A word begins a statement: no block ends there. -/
theorem goes {V : Env} {p k : Nat} {u : List UInt8} (h : V.L[p]? = some (wtok k u)) (hu : (u == sEnd) = false ∧ (u == sElse) = false ∧ (u == sElseif) = false ∧ (u == [59]) = false ∧ (u == sReturn) = false) : V.ends p = false ∧ V.is [59] p = false ∧ V.is sReturn p = false := by
  obtain ⟨u1, u2, u3, u4, u5⟩ := hu
  have hl := lt_of h
  refine ⟨?_, (is_of h _).trans u4, (is_of h _).trans u5⟩
  unfold Env.ends Env.ended
  have e1 : V.is sEnd p = false := (is_of h _).trans u1
  have e2 : V.is sElse p = false := (is_of h _).trans u2
  have e3 : V.is sElseif p = false := (is_of h _).trans u3
  rw [e1, e2, e3, decide_eq_false (by omega)]
  rfl
theorem stmts_more {V : Env} {G : Lev} {f p k q r : Nat} {u : List UInt8} {x : Tr} {l : List Tr} (h : V.L[p]? = some (wtok k u)) (hu : (u == sEnd) = false ∧ (u == sElse) = false ∧ (u == sElseif) = false ∧ (u == [59]) = false ∧ (u == sReturn) = false) (h1 : statementS V G p = .ok (x, q)) (h2 : stmts V G f q = .ok (l, r)) : stmts V G (f + 1) p = .ok (x :: l, r) := by
  obtain ⟨g1, g2, g3⟩ := goes h hu
  unfold stmts
  rw [if_neg (by rw [g1]; decide), if_neg (by rw [g2]; decide), if_neg (by rw [g3]; decide), h1]
  dsimp only
  rw [h2]
theorem stmts_end {V : Env} {G : Lev} {f p : Nat} (h : V.ends p = true) : stmts V G f p = .ok ([], p) := by
  cases f with
  | zero => rfl
  | succ f => unfold stmts; rw [if_pos h]
def locs1 : Nat → Nat → List Tr
  | _, 0 => []
  | j, m + 1 => loc (8 * j) (8 * j + 6) :: locs1 (j + 1) m
theorem st1 {V : Env} {n : Nat} (hV : V.L = wtoks 0 (ws1 n)) (G : Lev) : ∀ m j f, j + m = n → m ≤ f → stmts V G f (2 * j) = .ok (locs1 j m, 2 * n)
  | 0, j, f, h, hf => by
    have hl : V.L.length = 2 * n := by rw [hV, wtoks_len, (ws1_len n).1]
    have : V.ends (2 * j) = true := by
      unfold Env.ends Env.ended
      rw [decide_eq_true (by omega)]
      rfl
    rw [stmts_end this, show j = n by omega]
    rfl
  | m + 1, j, 0, h, hf => by omega
  | m + 1, j, f + 1, h, hf => by
    have hl : V.L.length = 2 * n := by rw [hV, wtoks_len, (ws1_len n).1]
    obtain ⟨h0, h1⟩ := wt1_at n 0 j (by omega)
    rw [← hV, Nat.zero_add] at h0 h1
    have nx : ∀ s : List UInt8, (([] : List UInt8) == s) = false → (wLocal == s) = false → V.is s (2 * j + 2) = false := fun s s1 s2 => by
      rcases Nat.lt_or_ge (j + 1) n with q | q
      · obtain ⟨h2, _⟩ := wt1_at n 0 (j + 1) q
        rw [← hV] at h2
        exact (is_of h2 s).trans s2
      · exact (is_past (by omega) s).trans s1
    refine stmts_more h0 (by decide) (local_at h0 h1 (nx _ (by decide) (by decide)) (nx _ (by decide) (by decide))) ?_
    exact st1 hV G m (j + 1) f (by omega) (by omega)
theorem whole1 (n : Nat) (E : Int) : ∃ a, whole ⟨wtoks 0 (ws1 n), E⟩ = .ok (nd 20 (locs1 0 n) a) := by
  have h := st1 (V := ⟨wtoks 0 (ws1 n), E⟩) (n := n) rfl (lev ⟨wtoks 0 (ws1 n), E⟩ 39) n 0 ((wtoks 0 (ws1 n)).length + 1) (by omega) (by rw [wtoks_len, (ws1_len n).1]; omega)
  refine ⟨Env.at ⟨wtoks 0 (ws1 n), E⟩ 0, ?_⟩
  unfold whole
  have hb : (lev ⟨wtoks 0 (ws1 n), E⟩ 40).block 0 = .ok (nd 20 (locs1 0 n) (Env.at ⟨wtoks 0 (ws1 n), E⟩ 0), 2 * n) := by
    show blockE _ _ 0 = _
    unfold blockE
    show (match stmts _ _ ((wtoks 0 (ws1 n)).length + 1) (2 * 0) with | .error e => _ | .ok (l, q) => _) = _
    rw [h]
  rw [hb]
  dsimp only
  rw [if_pos]
  unfold Env.ended
  rw [decide_eq_true]
  show (wtoks 0 (ws1 n)).length ≤ _
  rw [wtoks_len, (ws1_len n).1]
  exact Nat.le_refl _
def blk2 (j : Nat) : Tr := nd 30 [nd 20 [loc (15 * j + 3) (15 * j + 9)] ((15 * j + 3 : Nat) : Int)] ((15 * j : Nat) : Int)
def locs2 : Nat → Nat → List Tr
  | _, 0 => []
  | j, m + 1 => blk2 j :: locs2 (j + 1) m
theorem st2 {V : Env} {n : Nat} (hV : V.L = wtoks 0 (ws2 n)) (K : Nat) : ∀ m j f, j + m = n → m ≤ f → stmts V (lev V (K + 1)) f (4 * j) = .ok (locs2 j m, 4 * n)
  | 0, j, f, h, hf => by
    have hl : V.L.length = 4 * n := by rw [hV, wtoks_len, (ws2_len n).1]
    have : V.ends (4 * j) = true := by
      unfold Env.ends Env.ended
      rw [decide_eq_true (by omega)]
      rfl
    rw [stmts_end this, show j = n by omega]
    rfl
  | m + 1, j, 0, h, hf => by omega
  | m + 1, j, f + 1, h, hf => by
    have hl : V.L.length = 4 * n := by rw [hV, wtoks_len, (ws2_len n).1]
    obtain ⟨h0, h1, h2, h3⟩ := wt2_at n 0 j (by omega)
    rw [← hV, Nat.zero_add] at h0 h1 h2 h3
    have b1 : (lev V (K + 1)).block (4 * j + 1) = .ok (nd 20 [loc (15 * j + 3) (15 * j + 9)] ((15 * j + 3 : Nat) : Int), 4 * j + 3) := by
      show blockE V (lev V K) (4 * j + 1) = _
      unfold blockE
      have hE : V.ends (4 * j + 3) = true := by
        unfold Env.ends
        have : V.is sEnd (4 * j + 3) = true := (is_of h3 _).trans rfl
        rw [this]
        simp
      rw [stmts_more h1 (by decide) (local_at (G := lev V K) h1 h2 ((is_of h3 _).trans rfl) ((is_of h3 _).trans rfl)) (stmts_end hE)]
      dsimp only
      have : V.at (4 * j + 1) = ((15 * j + 3 : Nat) : Int) := by unfold Env.at; rw [tk_of h1]; rfl
      rw [this]
    have d1 : doS V (lev V (K + 1)) (4 * j) = .ok (nd 20 [loc (15 * j + 3) (15 * j + 9)] ((15 * j + 3 : Nat) : Int), 4 * (j + 1)) := by
      unfold doS Env.need
      have e1 : V.is sDo (4 * j) = true := (is_of h0 _).trans rfl
      rw [if_pos e1]
      dsimp only
      rw [b1]
      dsimp only
      have e2 : V.is sEnd (4 * j + 3) = true := (is_of h3 _).trans rfl
      rw [if_pos e2]
      rfl
    have s1 : statementS V (lev V (K + 1)) (4 * j) = .ok (blk2 j, 4 * (j + 1)) := by
      unfold statementS
      have f1 : V.is sLocal (4 * j) = false := (is_of h0 _).trans rfl
      have f2 : V.is sFunction (4 * j) = false := (is_of h0 _).trans rfl
      have f3 : V.is sIf (4 * j) = false := (is_of h0 _).trans rfl
      have f4 : V.is sWhile (4 * j) = false := (is_of h0 _).trans rfl
      have f5 : V.is sFor (4 * j) = false := (is_of h0 _).trans rfl
      have f6 : V.is sDo (4 * j) = true := (is_of h0 _).trans rfl
      rw [if_neg (by rw [f1]; decide), if_neg (by rw [f2]; decide), if_neg (by rw [f3]; decide), if_neg (by rw [f4]; decide), if_neg (by rw [f5]; decide), if_pos f6, d1]
      dsimp only
      have : V.at (4 * j) = ((15 * j : Nat) : Int) := by unfold Env.at; rw [tk_of h0]; rfl
      rw [this]
      rfl
    refine stmts_more h0 (by decide) s1 ?_
    exact st2 hV K m (j + 1) f (by omega) (by omega)
theorem whole2 (n : Nat) (E : Int) : ∃ a, whole ⟨wtoks 0 (ws2 n), E⟩ = .ok (nd 20 (locs2 0 n) a) := by
  have h := st2 (V := ⟨wtoks 0 (ws2 n), E⟩) (n := n) rfl 38 n 0 ((wtoks 0 (ws2 n)).length + 1) (by omega) (by rw [wtoks_len, (ws2_len n).1]; omega)
  refine ⟨Env.at ⟨wtoks 0 (ws2 n), E⟩ 0, ?_⟩
  unfold whole
  have hb : (lev ⟨wtoks 0 (ws2 n), E⟩ 40).block 0 = .ok (nd 20 (locs2 0 n) (Env.at ⟨wtoks 0 (ws2 n), E⟩ 0), 4 * n) := by
    show blockE _ _ 0 = _
    unfold blockE
    show (match stmts _ _ ((wtoks 0 (ws2 n)).length + 1) (4 * 0) with | .error e => _ | .ok (l, q) => _) = _
    rw [h]
  rw [hb]
  dsimp only
  rw [if_pos]
  unfold Env.ended
  rw [decide_eq_true]
  show (wtoks 0 (ws2 n)).length ≤ _
  rw [wtoks_len, (ws2_len n).1]
  exact Nat.le_refl _
end Go.Proofs.YtgkgpjbbmnfnmaaGreatDoor
