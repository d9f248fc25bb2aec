import Derived.Test.YtmoiikpjegbokaaGreatDoorGM
/- An assignment, and the same with its expression in parentheses. -/
namespace Go.Proofs.YtmoiikpjegbokaaGreatDoor
set_option linter.unusedSimpArgs false
set_option linter.unusedVariables false
set_option linter.unusedSectionVars false

theorem is_at {V : Env} {p : Nat} {t : List UInt8} (h : (V.tk p).t.data.toList = t) (s : List UInt8) : V.is s p = (t == s) := by unfold Env.is; rw [h]
theorem sep_one {V : Env} {f : Nat → PR Tr} {n p : Nat} {e : Tr} {t : Nat} (h : V.sep f (n + 1) p = .ok ([e], t)) (gf : Gos V f) (hn : V.L.length ≤ p + n + 1) : f p = .ok (e, t) := by
 unfold Env.sep at h
 rcases e1 : f p with e2 | ⟨x, q⟩
 ·rw [e1] at h; cases h
 ·rw [e1] at h
  dsimp only at h
  cases c : V.is [44] q with
  | false =>
   rw [c, if_neg Bool.false_ne_true] at h
   simp only [Except.ok.injEq, Prod.mk.injEq, List.cons.injEq, and_true] at h
   rw [h.1, h.2]
  | true =>
   rw [c, if_pos rfl] at h
   rcases e3 : V.sep f n (q + 1) with e4 | ⟨l, r⟩
   ·rw [e3] at h; cases h
   ·rw [e3] at h
    simp only [Except.ok.injEq, Prod.mk.injEq, List.cons.injEq] at h
    have : l ≠ [] := by
     intro hl
     cases n with
     | zero =>
      unfold Env.sep at e3
      rcases e5 : f (q + 1) with e6 | ⟨y, k⟩
      ·rw [e5] at e3; cases e3
      ·rw [e5] at e3
       simp only [Except.ok.injEq, Prod.mk.injEq] at e3
       rw [hl] at e3
       cases e3.1
     | succ n =>
      unfold Env.sep at e3
      rcases e5 : f (q + 1) with e6 | ⟨y, k⟩
      ·rw [e5] at e3; cases e3
      ·rw [e5] at e3
       dsimp only at e3
       split at e3
       ·split at e3
        ·cases e3
        ·simp only [Except.ok.injEq, Prod.mk.injEq] at e3
         rw [hl] at e3
         cases e3.1
       ·simp only [Except.ok.injEq, Prod.mk.injEq] at e3
        rw [hl] at e3
        cases e3.1
    exact absurd h.1.2 this
/-- x = .., with one expression, alone. -/
theorem assign_of {V : Env} (h0 : (V.tk 0).t.data.toList = [120]) (k0 : V.isName 0 = true) (h1 : V.is [61] 1 = true) {k : Int} {t : ByteArray} {vt vn c : Int} {u v : Tr} {a : Int}
  (hs : stmts V (lev V 39) (V.L.length + 1) 0 = .ok ([.mk k t vt vn c [u, v] a], V.L.length)) :
  ∃ q, (lev V 39).above 0 2 = .ok (v, q) ∧ k = 22 ∧ t = ⟨#[]⟩ ∧ vt = 0 ∧ vn = 0 ∧ c = 1 ∧ tz u = .mk 6 (V.tk 0).t 0 0 0 [] 0 ∧ stmts V (lev V 39) V.L.length q = .ok ([], V.L.length) := by
 have hlt := is_lt h1 (by decide)
 have hI := is_at h0
 have t1 : (V.tk 1).t.data.toList = [61] := by simpa [Env.is] using h1
 have hJ := is_at t1
 unfold stmts at hs
 have c1 : V.ends 0 = false := by
  unfold Env.ends Env.ended
  rw [hI, hI, hI, show decide (V.L.length ≤ 0) = false from decide_eq_false (by omega)]
  rfl
 rw [c1, if_neg Bool.false_ne_true, hI [59], if_neg (by decide), hI sReturn, if_neg (by decide)] at hs
 have hst : statementS V (lev V 39) 0 = callOrAssignS V (lev V 39) 0 := by
  unfold statementS
  rw [hI sLocal, if_neg (by decide), hI sFunction, if_neg (by decide), hI sIf, if_neg (by decide), hI sWhile, if_neg (by decide), hI sFor, if_neg (by decide), hI sDo, if_neg (by decide), hI sBreak, if_neg (by decide)]
 have hsu : (lev V 39).suff 0 = .ok ((.mk 6 (V.tk 0).t 0 0 0 [] (V.at 0), false), 1) := by
  show suffE V (lev V 38) 0 = _
  unfold suffE stemE
  rw [hI [40], if_neg (by decide)]
  unfold Env.name
  rw [k0, if_pos rfl]
  show sufs V (lev V 38) (V.at 0) (V.L.length + 1) _ _ 1 = _
  unfold sufs
  rw [hJ [46], if_neg (by decide), hJ [91], if_neg (by decide), hJ [40], if_neg (by decide)]
  rfl
 rw [hst] at hs
 unfold callOrAssignS at hs
 rw [k0, hI [40]] at hs
 rw [if_neg (by decide), hsu] at hs
 dsimp only at hs
 rw [show ((Tr.mk 6 (V.tk 0).t 0 0 0 [] (V.at 0)).k == 11 && !false) = false from rfl, if_neg Bool.false_ne_true, show isTarget (Tr.mk 6 (V.tk 0).t 0 0 0 [] (V.at 0)) false = true from rfl, if_pos rfl] at hs
 have htg : targets V (lev V 39) (V.L.length + 1) 1 = .ok ([], 1) := by
  unfold targets
  rw [hJ [44], if_neg (by decide)]
 rw [htg] at hs
 dsimp only at hs
 unfold Env.need at hs
 rw [h1, if_pos rfl] at hs
 dsimp only at hs
 rcases e : listE V (lev V 39) (1 + 1) with e1 | ⟨m, q⟩
 ·rw [e] at hs; cases hs
 rw [e] at hs
 dsimp only at hs
 rcases e2 : stmts V (lev V 39) V.L.length q with e3 | ⟨l, r⟩
 ·rw [e2] at hs; cases hs
 rw [e2] at hs
 simp only [Except.ok.injEq, Prod.mk.injEq, List.cons.injEq, Tr.mk.injEq, List.nil_append] at hs
 obtain ⟨⟨⟨rfl, rfl, rfl, rfl, rfl, ⟨rfl, rfl⟩, rfl⟩, rfl⟩, rfl⟩ := hs
 refine ⟨q, ?_, rfl, rfl, rfl, rfl, rfl, rfl, e2⟩
 unfold listE at e
 exact sep_one e ((lev_go V 39).above 0) (by omega)
theorem groups {T V1 V2 : Env} (hA : Sm T V1 2 true) (hB : Sm T V2 3 false) (a0 : (V1.tk 0).t.data.toList = [120]) (ak : V1.isName 0 = true) (a1 : V1.is [61] 1 = true)
  (b0 : (V2.tk 0).t.data.toList = [120]) (bk : V2.isName 0 = true) (b1 : V2.is [61] 1 = true) (b2 : (V2.tk 2).t.data.toList = [40]) (b2k : (V2.tk 2).k ≠ 3 ∧ (V2.tk 2).k ≠ 4) (b3 : V2.is [41] (T.L.length + 3) = true) (bl : V2.L.length = T.L.length + 4)
  {x y : Tr} {k k' : Int} {t t' : ByteArray} {vt vt' vn vn' c c' : Int} {u v u' v' : Tr} {a a' : Int} {p p' : Int}
  (e1 : whole V1 = .ok (nd 20 [.mk k t vt vn c [u, v] a] p)) (e2 : whole V2 = .ok (nd 20 [.mk k' t' vt' vn' c' [u', v'] a'] p')) : tz (nd 20 [.mk k' t' vt' vn' c' [u', v'] a'] p') = tz (nd 20 [.mk k t vt vn c [u, v] a] p) := by
 obtain ⟨m1, s1, x1⟩ := whole_ok e1
 obtain ⟨m2, s2, x2⟩ := whole_ok e2
 have y1 : [Tr.mk k t vt vn c [u, v] a] = m1 := by simp only [nd, Tr.mk.injEq] at x1; exact x1.2.2.2.2.2.1
 have y2 : [Tr.mk k' t' vt' vn' c' [u', v'] a'] = m2 := by simp only [nd, Tr.mk.injEq] at x2; exact x2.2.2.2.2.2.1
 subst y1 y2
 obtain ⟨q1, f1, rfl, rfl, rfl, rfl, rfl, z1, r1⟩ := assign_of a0 ak a1 s1
 obtain ⟨q2, f2, rfl, rfl, rfl, rfl, rfl, z2, r2⟩ := assign_of b0 bk b1 s2
 have zu : tz u' = tz u := by
  rw [z1, z2]
  have : (V2.tk 0).t = (V1.tk 0).t := ByteArray.ext (Array.toList_inj.1 (by rw [b0, a0]))
  rw [this]
 have hlA := hA.last rfl
 -- the expression by itself
 have hSA := (lev_sm (dp := false) hA (fun _ => rfl) 39 39 (fun _ => rfl) (fun _ => Nat.le_refl _)).above 0 0 (Nat.zero_le _)
 rw [Nat.zero_add, f1] at hSA
 rcases g : (lev T 39).above 0 0 with ⟨a3, c3⟩ | ⟨e0, t0⟩
 ·rw [g] at hSA
  obtain ⟨_, _, _, e4⟩ := hSA rfl
  cases e4
 rw [g] at hSA
 rcases hSA with ⟨v0, e4, zA⟩ | ⟨hd, _⟩
 case' inr => cases hd
 simp only [Except.ok.injEq, Prod.mk.injEq] at e4
 obtain ⟨rfl, rfl⟩ := e4
 have hgT := (lev_go T 39).above 0 _ _ _ g
 -- in parentheses
 have hSB := (lev_sm (dp := true) hB (fun e => by cases e) 39 38 (fun e => by cases e) (fun e => by cases e)).above 0 0 (Nat.zero_le _)
 rw [Nat.zero_add, g] at hSB
 have hI := is_at b2
 have f2' : aboveE V2 (lev V2 38) 0 2 = .ok (v', q2) := f2
 unfold aboveE operandE at f2'
 dsimp only at f2'
 rw [show ((V2.tk 2).k == 3) = false from by simpa using b2k.1, if_neg Bool.false_ne_true, show ((V2.tk 2).k == 4) = false from by simpa using b2k.2, if_neg Bool.false_ne_true, hI sNil, if_neg (by decide), hI sTrue, if_neg (by decide), hI sFalse, if_neg (by decide), hI sFunction, if_neg (by decide), hI [123], if_neg (by decide), hI sNot, hI [35], hI [45], if_neg (by decide)] at f2'
 unfold suffE stemE at f2'
 rw [hI [40], if_pos (by decide)] at f2'
 rcases hSB with ⟨w0, e5, zB⟩ | ⟨_, a5, e5⟩
 case' inr =>
  rw [show 2 + 1 = 3 from rfl, e5] at f2'
  cases f2'
 rw [show 2 + 1 = 3 from rfl, e5] at f2'
 dsimp only at f2'
 unfold Env.need at f2'
 cases c1 : V2.is [41] (t0 + 3) with
 | false => rw [c1, if_neg Bool.false_ne_true] at f2'; cases f2'
 | true =>
 rw [c1, if_pos rfl] at f2'
 dsimp only at f2'
 rcases Nat.lt_or_ge t0 T.L.length with hlt | hge
 ·-- a parenthesis within: the first source goes on with it
  exfalso
  have c2 : V1.is [41] (t0 + 2) = true := by rw [hA.is hlt, ← hB.is hlt]; exact c1
  have t2 : (V1.tk (t0 + 2)).t.data.toList = [41] := by simpa [Env.is] using c2
  have hJ := is_at t2
  have hn : V1.isName (t0 + 2) = V2.isName (t0 + 3) := by rw [hA.isName (Nat.le_of_lt hlt), hB.isName (Nat.le_of_lt hlt)]
  cases hl : V1.L.length with
  | zero => omega
  | succ n =>
  rw [hl] at r1
  unfold stmts at r1
  have c3 : V1.ends (t0 + 2) = false := by
   unfold Env.ends Env.ended
   rw [hJ, hJ, hJ]
   simp
   exact ⟨⟨⟨by omega, by decide⟩, by decide⟩, by decide⟩
  rw [c3, if_neg Bool.false_ne_true, hJ [59], if_neg (by decide), hJ sReturn, if_neg (by decide)] at r1
  split at r1
  ·cases r1
  ·rename_i h5
   split at r1
   ·cases r1
   ·simp only [Except.ok.injEq, Prod.mk.injEq] at r1
    cases r1.1
 ·have e6 : t0 = T.L.length := by omega
  have hend : ∀ s, s ≠ [] → V2.is s (t0 + 3 + 1) = false := by
   intro s hs
   cases c4 : V2.is s (t0 + 3 + 1) with
   | false => rfl
   | true => exact absurd (is_lt c4 hs) (by omega)
  unfold sufs at f2'
  rw [hend [46] (by decide), hend [91] (by decide), hend [40] (by decide), if_neg Bool.false_ne_true, if_neg Bool.false_ne_true, if_neg Bool.false_ne_true] at f2'
  dsimp only at f2'
  unfold bins at f2'
  have ht : (V2.tk (t0 + 3 + 1)).t.data.toList = [] := by
   unfold Env.tk
   rw [List.getD_eq_getElem?_getD, List.getElem?_eq_none (by omega)]
   rfl
  dsimp only at f2'
  rw [ht, if_pos (by decide)] at f2'
  simp only [Except.ok.injEq, Prod.mk.injEq] at f2'
  obtain ⟨rfl, rfl⟩ := f2'
  refine tz_nd ?_
  have : tz (.mk 22 ⟨#[]⟩ 0 0 1 [u', w0] a') = tz (.mk 22 ⟨#[]⟩ 0 0 1 [u, v] a) := tz_mk (by simp only [List.map_cons, List.map_nil, zu, zB, zA])
  simp only [List.map_cons, List.map_nil, this]
end Go.Proofs.YtmoiikpjegbokaaGreatDoor
