/- Joined: M0 M1 M2 M3. -/
import Derived.Test.YtgkgpjbbmnfnmaaGreatDoorGC
/- The parser as a function: trees of tokens. -/
namespace Go.Proofs.YtgkgpjbbmnfnmaaGreatDoor

/-- A tree. -/
inductive Tr where
 | mk (k : Int) (t : ByteArray) (vt vn c : Int) (l : List Tr) (a : Int) : Tr
def Tr.k : Tr → Int | .mk k .. => k
def Tr.a : Tr → Int | .mk _ _ _ _ _ _ a => a
def nd (k : Int) (l : List Tr) (a : Int) : Tr := .mk k ⟨#[]⟩ 0 0 0 l a

/-- What a part of the parser gives: what it made and the next token's number, or the place and the error. -/
abbrev PR (α : Type) := Except (Int × Int) (α × Nat)
/-- The tokens, and the source's end. -/
structure Env where
 L : List Tk
 E : Int
def Env.tk (V : Env) (p : Nat) : Tk := V.L.getD p ⟨0, ⟨#[]⟩, 0, 0, ⟨#[]⟩, V.E, 0⟩
def Env.at (V : Env) (p : Nat) : Int := (V.tk p).a
def Env.is (V : Env) (s : List UInt8) (p : Nat) : Bool := (V.tk p).t.data.toList == s
def Env.wrong {α : Type} (V : Env) (p : Nat) : PR α := .error (V.at p, 6)
def Env.deep {α : Type} (V : Env) (p : Nat) : PR α := .error (V.at p, 14)
def Env.need (V : Env) (s : List UInt8) (p : Nat) : PR Unit := if V.is s p then .ok ((), p + 1) else V.wrong p
def Env.isName (V : Env) (p : Nat) : Bool := (V.tk p).k == 1
def Env.name (V : Env) (p : Nat) : PR Tr := if V.isName p then .ok (.mk 6 (V.tk p).t 0 0 0 [] (V.at p), p + 1) else V.wrong p
def Env.key (V : Env) (p : Nat) : PR Tr := if V.isName p then .ok (.mk 5 (V.tk p).t 0 0 0 [] (V.at p), p + 1) else V.wrong p

/-- One or more, a comma between. -/
def Env.sep (V : Env) (f : Nat → PR Tr) : Nat → Nat → PR (List Tr)
 | 0, p => match f p with
  | .error e => .error e
  | .ok (x, q) => .ok ([x], q)
 | n + 1, p => match f p with
  | .error e => .error e
  | .ok (x, q) => if V.is [44] q then match V.sep f n (q + 1) with
    | .error e => .error e
    | .ok (l, r) => .ok (x :: l, r)
   else .ok ([x], q)
def Env.names (V : Env) (p : Nat) : PR (List Tr) := V.sep V.name (V.L.length + 1) p

def sOr : List UInt8 := [111, 114]
def sAnd : List UInt8 := [97, 110, 100]
def sFunction : List UInt8 := [102, 117, 110, 99, 116, 105, 111, 110]
def sEnd : List UInt8 := [101, 110, 100]
def sElse : List UInt8 := [101, 108, 115, 101]
def sElseif : List UInt8 := [101, 108, 115, 101, 105, 102]
def sThen : List UInt8 := [116, 104, 101, 110]
def sDo : List UInt8 := [100, 111]
def sReturn : List UInt8 := [114, 101, 116, 117, 114, 110]
def sLocal : List UInt8 := [108, 111, 99, 97, 108]
def sIf : List UInt8 := [105, 102]
def sWhile : List UInt8 := [119, 104, 105, 108, 101]
def sFor : List UInt8 := [102, 111, 114]
def sBreak : List UInt8 := [98, 114, 101, 97, 107]
def sNil : List UInt8 := [110, 105, 108]
def sTrue : List UInt8 := [116, 114, 117, 101]
def sFalse : List UInt8 := [102, 97, 108, 115, 101]
def sNot : List UInt8 := [110, 111, 116]

/-- How close a sign of two binds. -/
def bindOf (s : List UInt8) : Nat :=
 if s == sOr then 1 else if s == sAnd then 2
 else if s == [60] || s == [62] || s == [60, 61] || s == [62, 61] || s == [126, 61] || s == [61, 61] then 3
 else if s == [46, 46] then 4
 else if s == [43] || s == [45] then 5
 else if s == [42] || s == [47] || s == [47, 47] || s == [37] then 6
 else 0

/-- What stands on one level: is it allowed, expressions (by what binds them from the left), suffixed ones (and whether it is parentheses alone), functions' bodies, blocks. -/
structure Lev where
 ok : Bool
 above : Nat → Nat → PR Tr
 suff : Nat → PR (Tr × Bool)
 body : Int → Nat → PR Tr
 block : Nat → PR Tr

section
variable (V : Env) (G : Lev)

/-- A list of expressions on the level above. -/
def listE (p : Nat) : PR (List Tr) := V.sep (G.above 0) (V.L.length + 1) p
def argsE (p : Nat) : PR (List Tr) :=
 if V.is [41] p then .ok ([], p + 1) else match listE V G p with
 | .error e => .error e
 | .ok (l, q) => match V.need [41] q with
  | .error e => .error e
  | .ok (_, r) => .ok (l, r)
def stemE (p : Nat) : PR Tr :=
 if V.is [40] p then match G.above 0 (p + 1) with
  | .error e => .error e
  | .ok (n, q) => match V.need [41] q with
   | .error e => .error e
   | .ok (_, r) => .ok (n, r)
 else V.name p
/-- What stands behind a stem. -/
def sufs (a : Int) : Nat → Tr → Bool → Nat → PR (Tr × Bool)
 | 0, n, g, p => .ok ((n, g), p)
 | f + 1, n, g, p =>
  if V.is [46] p then match V.key (p + 1) with
   | .error e => .error e
   | .ok (k, q) => sufs a f (nd 10 [n, k] a) false q
  else if V.is [91] p then match G.above 0 (p + 1) with
   | .error e => .error e
   | .ok (k, q) => match V.need [93] q with
    | .error e => .error e
    | .ok (_, r) => sufs a f (nd 10 [n, k] a) false r
  else if V.is [40] p then match argsE V G (p + 1) with
   | .error e => .error e
   | .ok (l, q) => sufs a f (nd 11 (n :: l) a) false q
  else .ok ((n, g), p)
def suffE (p : Nat) : PR (Tr × Bool) := match stemE V G p with
 | .error e => .error e
 | .ok (n, q) => sufs V G (V.at p) (V.L.length + 1) n (V.is [40] p) q
def paramsE (V : Env) (q : Nat) : PR (List Tr) := if V.is [41] q then .ok ([], q) else V.names q
def bodyE (a : Int) (p : Nat) : PR Tr := match V.need [40] p with
 | .error e => .error e
 | .ok (_, q) => match paramsE V q with
  | .error e => .error e
  | .ok (l, r) => match V.need [41] r with
   | .error e => .error e
   | .ok (_, s) => match G.block s with
    | .error e => .error e
    | .ok (b, t) => match V.need sEnd t with
     | .error e => .error e
     | .ok (_, u) => .ok (nd 7 (l ++ [b]) a, u)
def itemKeyE (p : Nat) : PR Tr :=
 if V.is [91] p then match G.above 0 (p + 1) with
  | .error e => .error e
  | .ok (k, q) => match V.need [93] q with
   | .error e => .error e
   | .ok (_, r) => .ok (k, r)
 else V.key p
def itemE (p : Nat) : PR Tr :=
 if !V.is [91] p && !(V.isName p && V.is [61] (p + 1)) then match G.above 0 p with
  | .error e => .error e
  | .ok (x, q) => .ok (nd 13 [x] (V.at p), q)
 else match itemKeyE V G p with
  | .error e => .error e
  | .ok (k, q) => match V.need [61] q with
   | .error e => .error e
   | .ok (_, r) => match G.above 0 r with
    | .error e => .error e
    | .ok (x, s) => .ok (nd 14 [k, x] (V.at p), s)
/-- A table's items, as far as they go. -/
def itemsE : Nat → Nat → PR (List Tr)
 | 0, p => .ok ([], p)
 | f + 1, p => if V.is [125] p then .ok ([], p) else match itemE V G p with
  | .error e => .error e
  | .ok (x, q) => if V.is [44] q then match itemsE f (q + 1) with
    | .error e => .error e
    | .ok (l, r) => .ok (x :: l, r)
   else .ok ([x], q)
def tableE (p : Nat) : PR Tr := match itemsE V G (V.L.length + 1) (p + 1) with
 | .error e => .error e
 | .ok (l, q) => match V.need [125] q with
  | .error e => .error e
  | .ok (_, r) => .ok (nd 12 l (V.at p), r)
def operandE (p : Nat) : PR Tr :=
 let k := V.tk p
 if k.k == 3 then .ok (.mk 4 ⟨#[]⟩ k.vt k.vn 0 [] k.a, p + 1)
 else if k.k == 4 then .ok (.mk 5 k.sy 0 0 0 [] k.a, p + 1)
 else if V.is sNil p then .ok (nd 1 [] k.a, p + 1)
 else if V.is sTrue p then .ok (nd 2 [] k.a, p + 1)
 else if V.is sFalse p then .ok (nd 3 [] k.a, p + 1)
 else if V.is sFunction p then bodyE V G k.a (p + 1)
 else if V.is [123] p then tableE V G p
 else if V.is sNot p || V.is [35] p || V.is [45] p then match G.above 7 (p + 1) with
  | .error e => .error e
  | .ok (x, q) => .ok (.mk 9 k.t 0 0 0 [x] k.a, q)
 else match suffE V G p with
  | .error e => .error e
  | .ok ((n, _), q) => .ok (n, q)
/-- The signs of two behind a left side. -/
def bins (bind : Nat) : Nat → Tr → Nat → PR Tr
 | 0, n, p => .ok (n, p)
 | f + 1, n, p =>
  let s := (V.tk p).t
  let b := bindOf s.data.toList
  if b ≤ bind then .ok (n, p)
  else match G.above (if s.data.toList == [46, 46] then b - 1 else b) (p + 1) with
   | .error e => .error e
   | .ok (x, q) => bins bind f (.mk 8 s 0 0 0 [n, x] n.a) q
def aboveE (bind p : Nat) : PR Tr := match operandE V G p with
 | .error e => .error e
 | .ok (n, q) => bins V G bind (V.L.length + 1) n q

def Env.ended (V : Env) (p : Nat) : Bool := decide (V.L.length ≤ p)
def Env.ends (V : Env) (p : Nat) : Bool := V.ended p || V.is sEnd p || V.is sElse p || V.is sElseif p

def valuesS (p : Nat) : PR (List Tr) := if !V.is [59] p && !V.ends p then listE V G p else .ok ([], p)
def returnedS (p : Nat) : PR Tr := match valuesS V G (p + 1) with
 | .error e => .error e
 | .ok (l, q) => .ok (nd 27 l (V.at p), if V.is [59] q then q + 1 else q)
/-- A function with its name, on the level above: the name, and it. -/
def namedS (p : Nat) : PR (Tr × Tr) :=
 if G.ok then match V.need sFunction p with
  | .error e => .error e
  | .ok (_, q) => match V.name q with
   | .error e => .error e
   | .ok (n, r) => match G.body (V.at p) r with
    | .error e => .error e
    | .ok (f, s) => .ok ((n, f), s)
 else V.deep p
def localS (p : Nat) : PR Tr :=
 if V.is sFunction (p + 1) then match namedS V G (p + 1) with
  | .error e => .error e
  | .ok ((n, f), q) => .ok (nd 29 [n, f] (V.at p), q)
 else match V.names (p + 1) with
  | .error e => .error e
  | .ok (l, q) => if V.is [61] q then match listE V G (q + 1) with
    | .error e => .error e
    | .ok (m, r) => .ok (.mk 21 ⟨#[]⟩ 0 0 l.length (l ++ m) (V.at p), r)
   else .ok (.mk 21 ⟨#[]⟩ 0 0 l.length l (V.at p), q)
def functionS (p : Nat) : PR Tr := match namedS V G p with
 | .error e => .error e
 | .ok ((n, f), q) => .ok (.mk 22 ⟨#[]⟩ 0 0 1 [n, f] f.a, q)
def doS (p : Nat) : PR Tr := match V.need sDo p with
 | .error e => .error e
 | .ok (_, q) => match G.block q with
  | .error e => .error e
  | .ok (b, r) => match V.need sEnd r with
   | .error e => .error e
   | .ok (_, s) => .ok (b, s)
/-- Conditions and blocks. -/
def choices : Nat → Nat → PR (List Tr)
 | 0, p => .ok ([], p)
 | f + 1, p => match G.above 0 (p + 1) with
  | .error e => .error e
  | .ok (x, q) => match V.need sThen q with
   | .error e => .error e
   | .ok (_, r) => match G.block r with
    | .error e => .error e
    | .ok (b, s) => if V.is sElseif s then match choices f s with
      | .error e => .error e
      | .ok (l, t) => .ok (x :: b :: l, t)
     else .ok ([x, b], s)
def elseS (l : List Tr) (q : Nat) : PR (List Tr) :=
 if V.is sElse q then match G.block (q + 1) with
  | .error e => .error e
  | .ok (b, r) => .ok (l ++ [b], r)
 else .ok (l, q)
def choiceS (p : Nat) : PR Tr := match choices V G (V.L.length + 1) p with
 | .error e => .error e
 | .ok (l, q) => match elseS V G l q with
  | .error e => .error e
  | .ok (m, r) => match V.need sEnd r with
   | .error e => .error e
   | .ok (_, s) => .ok (nd 24 m (V.at p), s)
def whileS (p : Nat) : PR Tr := match G.above 0 (p + 1) with
 | .error e => .error e
 | .ok (x, q) => match doS V G q with
  | .error e => .error e
  | .ok (b, r) => .ok (nd 25 [x, b] (V.at p), r)
def stepS (u : Nat) : PR (List Tr) :=
 if V.is [44] u then match G.above 0 (u + 1) with
  | .error e => .error e
  | .ok (z, v) => .ok ([z], v)
 else .ok ([], u)
def countS (p : Nat) : PR Tr := match V.name (p + 1) with
 | .error e => .error e
 | .ok (n, q) => match V.need [61] q with
  | .error e => .error e
  | .ok (_, r) => match G.above 0 r with
   | .error e => .error e
   | .ok (x, s) => match V.need [44] s with
    | .error e => .error e
    | .ok (_, t) => match G.above 0 t with
     | .error e => .error e
     | .ok (y, u) => match stepS V G u with
      | .error e => .error e
      | .ok (l, v) => match doS V G v with
       | .error e => .error e
       | .ok (b, w) => .ok (nd 26 (n :: x :: y :: (l ++ [b])) (V.at p), w)
def isTarget (n : Tr) (g : Bool) : Bool := !(g || (n.k != 6 && n.k != 10))
/-- Further targets. -/
def targets : Nat → Nat → PR (List Tr)
 | 0, p => .ok ([], p)
 | f + 1, p => if V.is [44] p then match G.suff (p + 1) with
   | .error e => .error e
   | .ok ((n, g), q) => if isTarget n g then match targets f q with
     | .error e => .error e
     | .ok (l, r) => .ok (n :: l, r)
    else V.wrong q
  else .ok ([], p)
def callOrAssignS (p : Nat) : PR Tr :=
 if !V.isName p && !V.is [40] p then V.wrong p
 else match G.suff p with
  | .error e => .error e
  | .ok ((n, g), q) => if n.k == 11 && !g then .ok (nd 23 [n] (V.at p), q)
   else if isTarget n g then match targets V G (V.L.length + 1) q with
    | .error e => .error e
    | .ok (l, r) => match V.need [61] r with
     | .error e => .error e
     | .ok (_, s) => match listE V G s with
      | .error e => .error e
      | .ok (m, t) => .ok (.mk 22 ⟨#[]⟩ 0 0 (l.length + 1) (n :: (l ++ m)) (V.at p), t)
   else V.wrong q
def statementS (p : Nat) : PR Tr :=
 if V.is sLocal p then localS V G p
 else if V.is sFunction p then functionS V G p
 else if V.is sIf p then choiceS V G p
 else if V.is sWhile p then whileS V G p
 else if V.is sFor p then countS V G p
 else if V.is sDo p then match doS V G p with
  | .error e => .error e
  | .ok (b, q) => .ok (nd 30 [b] (V.at p), q)
 else if V.is sBreak p then .ok (nd 28 [] (V.at p), p + 1)
 else callOrAssignS V G p
/-- A block's statements. -/
def stmts : Nat → Nat → PR (List Tr)
 | 0, p => .ok ([], p)
 | f + 1, p => if V.ends p then .ok ([], p)
  else if V.is [59] p then stmts f (p + 1)
  else if V.is sReturn p then match returnedS V G p with
   | .error e => .error e
   | .ok (n, q) => .ok ([n], q)
  else match statementS V G p with
   | .error e => .error e
   | .ok (n, q) => match stmts f q with
    | .error e => .error e
    | .ok (l, r) => .ok (n :: l, r)
def blockE (p : Nat) : PR Tr := match stmts V G (V.L.length + 1) p with
 | .error e => .error e
 | .ok (l, q) => .ok (nd 20 l (V.at p), q)
end

/-- The levels, the last one first. -/
def lev (V : Env) : Nat → Lev
 | 0 => ⟨false, fun _ p => V.deep p, fun p => V.deep p, fun _ p => V.deep p, fun p => V.deep p⟩
 | n + 1 => ⟨true, aboveE V (lev V n), suffE V (lev V n), bodyE V (lev V n), blockE V (lev V n)⟩
/-- The whole source's tree, or the place and the error. -/
def whole (V : Env) : Except (Int × Int) Tr := match (lev V 40).block 0 with
 | .error e => .error e
 | .ok (n, q) => if V.ended q then .ok n else .error (V.at q, 6)
end Go.Proofs.YtgkgpjbbmnfnmaaGreatDoor

/- The parser goes on. -/
namespace Go.Proofs.YtgkgpjbbmnfnmaaGreatDoor
set_option linter.unusedSimpArgs false
set_option linter.unusedVariables false
set_option linter.unusedSectionVars false

theorem is_lt {V : Env} {s : List UInt8} {p : Nat} (h : V.is s p = true) (hs : s ≠ []) : p < V.L.length := by
 rcases Nat.lt_or_ge p V.L.length with h' | h'
 ·exact h'
 ·unfold Env.is Env.tk at h
  rw [List.getD_eq_getElem?_getD, List.getElem?_eq_none h'] at h
  simp at h
  exact absurd h hs
theorem kind_lt {V : Env} {k : Int} {p : Nat} (h : ((V.tk p).k == k) = true) (hk : k ≠ 0) : p < V.L.length := by
 rcases Nat.lt_or_ge p V.L.length with h' | h'
 ·exact h'
 ·unfold Env.tk at h
  rw [List.getD_eq_getElem?_getD, List.getElem?_eq_none h'] at h
  simp at h
  exact absurd h.symm hk
/-- What is made from p on has a token at least, and ends within them. -/
def Gos (V : Env) {α : Type} (f : Nat → PR α) : Prop := ∀ p x q, f p = .ok (x, q) → p < q ∧ q ≤ V.L.length
theorem need_go {V : Env} {s : List UInt8} (hs : s ≠ []) : Gos V (V.need s) := by
 intro p x q h
 unfold Env.need at h
 split at h
 ·rename_i hi
  have := is_lt hi hs
  simp only [Except.ok.injEq, Prod.mk.injEq] at h
  omega
 ·cases h
theorem name_go {V : Env} : Gos V V.name := by
 intro p x q h
 unfold Env.name Env.isName at h
 split at h
 ·rename_i hi
  have := kind_lt hi (by decide)
  simp only [Except.ok.injEq, Prod.mk.injEq] at h
  omega
 ·cases h
theorem key_go {V : Env} : Gos V V.key := by
 intro p x q h
 unfold Env.key Env.isName at h
 split at h
 ·rename_i hi
  have := kind_lt hi (by decide)
  simp only [Except.ok.injEq, Prod.mk.injEq] at h
  omega
 ·cases h
theorem sep_go {V : Env} {f : Nat → PR Tr} (hf : Gos V f) : ∀ n, Gos V (V.sep f n) := by
 intro n
 induction n with
 | zero =>
  intro p x q h
  unfold Env.sep at h
  split at h
  ·cases h
  ·rename_i h1
   have := hf _ _ _ h1
   simp only [Except.ok.injEq, Prod.mk.injEq] at h
   omega
 | succ n ih =>
  intro p x q h
  unfold Env.sep at h
  split at h
  ·cases h
  ·rename_i h1
   have := hf _ _ _ h1
   split at h
   ·split at h
    ·cases h
    ·rename_i h2
     have := ih _ _ _ h2
     simp only [Except.ok.injEq, Prod.mk.injEq] at h
     omega
   ·simp only [Except.ok.injEq, Prod.mk.injEq] at h
    omega
structure LevGo (V : Env) (G : Lev) : Prop where
 above : ∀ b, Gos V (G.above b)
 suff : Gos V G.suff
 body : ∀ a, Gos V (G.body a)
 block : ∀ p x q, p ≤ V.L.length → G.block p = .ok (x, q) → p ≤ q ∧ q ≤ V.L.length

section
variable {V : Env} {G : Lev} (hG : LevGo V G)
include hG
theorem listE_go : Gos V (listE V G) := sep_go (hG.above 0) _
theorem argsE_go : Gos V (argsE V G) := by
 intro p x q h
 unfold argsE at h
 split at h
 ·rename_i hi
  have := is_lt hi (by decide)
  (simp only [Except.ok.injEq, Prod.mk.injEq] at h; omega)
 ·split at h
  ·cases h
  ·rename_i h1
   have := listE_go hG _ _ _ h1
   split at h
   ·cases h
   ·rename_i h2
    have := need_go (by decide) _ _ _ h2
    (simp only [Except.ok.injEq, Prod.mk.injEq] at h; omega)
theorem stemE_go : Gos V (stemE V G) := by
 intro p x q h
 unfold stemE at h
 split at h
 ·rename_i hi
  split at h
  ·cases h
  ·rename_i h1
   have := hG.above 0 _ _ _ h1
   split at h
   ·cases h
   ·rename_i h2
    have := need_go (by decide) _ _ _ h2
    (simp only [Except.ok.injEq, Prod.mk.injEq] at h; omega)
 ·exact name_go _ _ _ h
theorem sufs_go (a : Int) : ∀ f n g p x q, p ≤ V.L.length → sufs V G a f n g p = .ok (x, q) → p ≤ q ∧ q ≤ V.L.length := by
 intro f
 induction f with
 | zero => intro n g p x q hp h; unfold sufs at h; (simp only [Except.ok.injEq, Prod.mk.injEq] at h; omega)
 | succ f ih =>
  intro n g p x q hp h
  unfold sufs at h
  split at h
  ·split at h
   ·cases h
   ·rename_i h1
    have := key_go _ _ _ h1
    have := ih _ _ _ _ _ (by omega) h
    omega
  ·split at h
   ·split at h
    ·cases h
    ·rename_i h1
     have := hG.above 0 _ _ _ h1
     split at h
     ·cases h
     ·rename_i h2
      have := need_go (by decide) _ _ _ h2
      have := ih _ _ _ _ _ (by omega) h
      omega
   ·split at h
    ·split at h
     ·cases h
     ·rename_i h1
      have := argsE_go hG _ _ _ h1
      have := ih _ _ _ _ _ (by omega) h
      omega
    ·(simp only [Except.ok.injEq, Prod.mk.injEq] at h; omega)
theorem suffE_go : Gos V (suffE V G) := by
 intro p x q h
 unfold suffE at h
 split at h
 ·cases h
 ·rename_i h1
  have := stemE_go hG _ _ _ h1
  have := sufs_go hG _ _ _ _ _ _ _ (by omega) h
  omega
theorem paramsE_go (p : Nat) (hp : p ≤ V.L.length) (x : List Tr) (q : Nat) (h : paramsE V p = .ok (x, q)) : p ≤ q ∧ q ≤ V.L.length := by
 unfold paramsE at h
 split at h
 ·(simp only [Except.ok.injEq, Prod.mk.injEq] at h; omega)
 ·have := sep_go name_go _ _ _ _ h
  omega
theorem bodyE_go (a : Int) : Gos V (bodyE V G a) := by
 intro p x q h
 unfold bodyE at h
 split at h
 ·cases h
 ·rename_i h1
  have := need_go (by decide) _ _ _ h1
  split at h
  ·cases h
  ·rename_i h2
   have := paramsE_go hG _ (by omega) _ _ h2
   split at h
   ·cases h
   ·rename_i h3
    have := need_go (by decide) _ _ _ h3
    split at h
    ·cases h
    ·rename_i h4
     have := hG.block _ _ _ (by omega) h4
     split at h
     ·cases h
     ·rename_i h5
      have := need_go (by decide) _ _ _ h5
      (simp only [Except.ok.injEq, Prod.mk.injEq] at h; omega)
theorem itemKeyE_go : Gos V (itemKeyE V G) := by
 intro p x q h
 unfold itemKeyE at h
 split at h
 ·split at h
  ·cases h
  ·rename_i h1
   have := hG.above 0 _ _ _ h1
   split at h
   ·cases h
   ·rename_i h2
    have := need_go (by decide) _ _ _ h2
    (simp only [Except.ok.injEq, Prod.mk.injEq] at h; omega)
 ·exact key_go _ _ _ h
theorem itemE_go : Gos V (itemE V G) := by
 intro p x q h
 unfold itemE at h
 split at h
 ·split at h
  ·cases h
  ·rename_i h1
   have := hG.above 0 _ _ _ h1
   (simp only [Except.ok.injEq, Prod.mk.injEq] at h; omega)
 ·split at h
  ·cases h
  ·rename_i h1
   have := itemKeyE_go hG _ _ _ h1
   split at h
   ·cases h
   ·rename_i h2
    have := need_go (by decide) _ _ _ h2
    split at h
    ·cases h
    ·rename_i h3
     have := hG.above 0 _ _ _ h3
     (simp only [Except.ok.injEq, Prod.mk.injEq] at h; omega)
theorem itemsE_go : ∀ f p x q, p ≤ V.L.length → itemsE V G f p = .ok (x, q) → p ≤ q ∧ q ≤ V.L.length := by
 intro f
 induction f with
 | zero => intro p x q hp h; unfold itemsE at h; (simp only [Except.ok.injEq, Prod.mk.injEq] at h; omega)
 | succ f ih =>
  intro p x q hp h
  unfold itemsE at h
  split at h
  ·(simp only [Except.ok.injEq, Prod.mk.injEq] at h; omega)
  ·split at h
   ·cases h
   ·rename_i h1
    have := itemE_go hG _ _ _ h1
    split at h
    ·rename_i hi
     have := is_lt hi (by decide)
     split at h
     ·cases h
     ·rename_i h2
      have := ih _ _ _ (by omega) h2
      (simp only [Except.ok.injEq, Prod.mk.injEq] at h; omega)
    ·(simp only [Except.ok.injEq, Prod.mk.injEq] at h; omega)
theorem tableE_go (p : Nat) (hp : p < V.L.length) (x : Tr) (q : Nat) (h : tableE V G p = .ok (x, q)) : p < q ∧ q ≤ V.L.length := by
 unfold tableE at h
 split at h
 ·cases h
 ·rename_i h1
  have := itemsE_go hG _ _ _ _ (by omega) h1
  split at h
  ·cases h
  ·rename_i h2
   have := need_go (by decide) _ _ _ h2
   (simp only [Except.ok.injEq, Prod.mk.injEq] at h; omega)
theorem operandE_go : Gos V (operandE V G) := by
 intro p x q h
 unfold operandE at h
 dsimp only at h
 split at h
 ·rename_i hi
  have := kind_lt hi (by decide)
  (simp only [Except.ok.injEq, Prod.mk.injEq] at h; omega)
 ·split at h
  ·rename_i hi
   have := kind_lt hi (by decide)
   (simp only [Except.ok.injEq, Prod.mk.injEq] at h; omega)
  ·split at h
   ·rename_i hi
    have := is_lt hi (by decide)
    (simp only [Except.ok.injEq, Prod.mk.injEq] at h; omega)
   ·split at h
    ·rename_i hi
     have := is_lt hi (by decide)
     (simp only [Except.ok.injEq, Prod.mk.injEq] at h; omega)
    ·split at h
     ·rename_i hi
      have := is_lt hi (by decide)
      (simp only [Except.ok.injEq, Prod.mk.injEq] at h; omega)
     ·split at h
      ·have := bodyE_go hG _ _ _ _ h
       omega
      ·split at h
       ·rename_i hi
        exact tableE_go hG p (is_lt hi (by decide)) x q h
       ·split at h
        ·split at h
         ·cases h
         ·rename_i h1
          have := hG.above 7 _ _ _ h1
          (simp only [Except.ok.injEq, Prod.mk.injEq] at h; omega)
        ·split at h
         ·cases h
         ·rename_i h1
          have := suffE_go hG _ _ _ h1
          (simp only [Except.ok.injEq, Prod.mk.injEq] at h; omega)
theorem bins_go (b : Nat) : ∀ f n p x q, p ≤ V.L.length → bins V G b f n p = .ok (x, q) → p ≤ q ∧ q ≤ V.L.length := by
 intro f
 induction f with
 | zero => intro n p x q hp h; unfold bins at h; (simp only [Except.ok.injEq, Prod.mk.injEq] at h; omega)
 | succ f ih =>
  intro n p x q hp h
  unfold bins at h
  dsimp only at h
  split at h
  ·(simp only [Except.ok.injEq, Prod.mk.injEq] at h; omega)
  ·split at h
   ·cases h
   ·rename_i h1
    have := hG.above _ _ _ _ h1
    have := ih _ _ _ _ (by omega) h
    omega
theorem aboveE_go (b : Nat) : Gos V (aboveE V G b) := by
 intro p x q h
 unfold aboveE at h
 split at h
 ·cases h
 ·rename_i h1
  have := operandE_go hG _ _ _ h1
  have := bins_go hG _ _ _ _ _ _ (by omega) h
  omega
end
end Go.Proofs.YtgkgpjbbmnfnmaaGreatDoor

/- The parser goes on: statements, blocks, levels. -/
namespace Go.Proofs.YtgkgpjbbmnfnmaaGreatDoor
set_option linter.unusedSimpArgs false
set_option linter.unusedVariables false
set_option linter.unusedSectionVars false

section
variable {V : Env} {G : Lev} (hG : LevGo V G)
include hG
theorem valuesS_go (p : Nat) (hp : p ≤ V.L.length) (x : List Tr) (q : Nat) (h : valuesS V G p = .ok (x, q)) : p ≤ q ∧ q ≤ V.L.length := by
 unfold valuesS at h
 split at h
 ·have := listE_go hG _ _ _ h
  omega
 ·(simp only [Except.ok.injEq, Prod.mk.injEq] at h; omega)
theorem returnedS_go (p : Nat) (hp : p < V.L.length) (x : Tr) (q : Nat) (h : returnedS V G p = .ok (x, q)) : p < q ∧ q ≤ V.L.length := by
 unfold returnedS at h
 split at h
 ·cases h
 ·rename_i h1
  have := valuesS_go hG _ (by omega) _ _ h1
  simp only [Except.ok.injEq, Prod.mk.injEq] at h
  obtain ⟨_, h⟩ := h
  split at h
  ·rename_i hi
   have := is_lt hi (by decide)
   omega
  ·omega
theorem namedS_go : Gos V (namedS V G) := by
 intro p x q h
 unfold namedS at h
 split at h
 ·split at h
  ·cases h
  ·rename_i h1
   have := need_go (by decide) _ _ _ h1
   split at h
   ·cases h
   ·rename_i h2
    have := name_go _ _ _ h2
    split at h
    ·cases h
    ·rename_i h3
     have := hG.body _ _ _ _ h3
     (simp only [Except.ok.injEq, Prod.mk.injEq] at h; omega)
 ·cases h
theorem localS_go : Gos V (localS V G) := by
 intro p x q h
 unfold localS at h
 split at h
 ·split at h
  ·cases h
  ·rename_i h1
   have := namedS_go hG _ _ _ h1
   (simp only [Except.ok.injEq, Prod.mk.injEq] at h; omega)
 ·split at h
  ·cases h
  ·rename_i h1
   have := sep_go name_go _ _ _ _ h1
   split at h
   ·split at h
    ·cases h
    ·rename_i h2
     have := listE_go hG _ _ _ h2
     (simp only [Except.ok.injEq, Prod.mk.injEq] at h; omega)
   ·(simp only [Except.ok.injEq, Prod.mk.injEq] at h; omega)
theorem functionS_go : Gos V (functionS V G) := by
 intro p x q h
 unfold functionS at h
 split at h
 ·cases h
 ·rename_i h1
  have := namedS_go hG _ _ _ h1
  (simp only [Except.ok.injEq, Prod.mk.injEq] at h; omega)
theorem doS_go : Gos V (doS V G) := by
 intro p x q h
 unfold doS at h
 split at h
 ·cases h
 ·rename_i h1
  have := need_go (by decide) _ _ _ h1
  split at h
  ·cases h
  ·rename_i h2
   have := hG.block _ _ _ (by omega) h2
   split at h
   ·cases h
   ·rename_i h3
    have := need_go (by decide) _ _ _ h3
    (simp only [Except.ok.injEq, Prod.mk.injEq] at h; omega)
theorem choices_go : ∀ f p x q, p < V.L.length → choices V G f p = .ok (x, q) → p ≤ q ∧ q ≤ V.L.length := by
 intro f
 induction f with
 | zero => intro p x q hp h; unfold choices at h; (simp only [Except.ok.injEq, Prod.mk.injEq] at h; omega)
 | succ f ih =>
  intro p x q hp h
  unfold choices at h
  split at h
  ·cases h
  ·rename_i h1
   have := hG.above 0 _ _ _ h1
   split at h
   ·cases h
   ·rename_i h2
    have := need_go (by decide) _ _ _ h2
    split at h
    ·cases h
    ·rename_i h3
     have := hG.block _ _ _ (by omega) h3
     split at h
     ·rename_i hi
      have := is_lt hi (by decide)
      split at h
      ·cases h
      ·rename_i h4
       have := ih _ _ _ (by omega) h4
       (simp only [Except.ok.injEq, Prod.mk.injEq] at h; omega)
     ·(simp only [Except.ok.injEq, Prod.mk.injEq] at h; omega)
theorem elseS_go (l : List Tr) (p : Nat) (hp : p ≤ V.L.length) (x : List Tr) (q : Nat) (h : elseS V G l p = .ok (x, q)) : p ≤ q ∧ q ≤ V.L.length := by
 unfold elseS at h
 split at h
 ·rename_i hi
  have := is_lt hi (by decide)
  split at h
  ·cases h
  ·rename_i h1
   have := hG.block _ _ _ (by omega) h1
   (simp only [Except.ok.injEq, Prod.mk.injEq] at h; omega)
 ·(simp only [Except.ok.injEq, Prod.mk.injEq] at h; omega)
theorem choiceS_go (p : Nat) (hp : p < V.L.length) (x : Tr) (q : Nat) (h : choiceS V G p = .ok (x, q)) : p < q ∧ q ≤ V.L.length := by
 unfold choiceS at h
 split at h
 ·cases h
 ·rename_i h1
  have := choices_go hG _ _ _ _ hp h1
  split at h
  ·cases h
  ·rename_i h2
   have := elseS_go hG _ _ (by omega) _ _ h2
   split at h
   ·cases h
   ·rename_i h3
    have := need_go (by decide) _ _ _ h3
    (simp only [Except.ok.injEq, Prod.mk.injEq] at h; omega)
theorem whileS_go : Gos V (whileS V G) := by
 intro p x q h
 unfold whileS at h
 split at h
 ·cases h
 ·rename_i h1
  have := hG.above 0 _ _ _ h1
  split at h
  ·cases h
  ·rename_i h2
   have := doS_go hG _ _ _ h2
   (simp only [Except.ok.injEq, Prod.mk.injEq] at h; omega)
theorem stepS_go (p : Nat) (hp : p ≤ V.L.length) (x : List Tr) (q : Nat) (h : stepS V G p = .ok (x, q)) : p ≤ q ∧ q ≤ V.L.length := by
 unfold stepS at h
 split at h
 ·split at h
  ·cases h
  ·rename_i h1
   have := hG.above 0 _ _ _ h1
   (simp only [Except.ok.injEq, Prod.mk.injEq] at h; omega)
 ·(simp only [Except.ok.injEq, Prod.mk.injEq] at h; omega)
theorem countS_go : Gos V (countS V G) := by
 intro p x q h
 unfold countS at h
 split at h
 ·cases h
 ·rename_i h1
  have := name_go _ _ _ h1
  split at h
  ·cases h
  ·rename_i h2
   have := need_go (by decide) _ _ _ h2
   split at h
   ·cases h
   ·rename_i h3
    have := hG.above 0 _ _ _ h3
    split at h
    ·cases h
    ·rename_i h4
     have := need_go (by decide) _ _ _ h4
     split at h
     ·cases h
     ·rename_i h5
      have := hG.above 0 _ _ _ h5
      split at h
      ·cases h
      ·rename_i h6
       have := stepS_go hG _ (by omega) _ _ h6
       split at h
       ·cases h
       ·rename_i h7
        have := doS_go hG _ _ _ h7
        (simp only [Except.ok.injEq, Prod.mk.injEq] at h; omega)
theorem targets_go : ∀ f p x q, p ≤ V.L.length → targets V G f p = .ok (x, q) → p ≤ q ∧ q ≤ V.L.length := by
 intro f
 induction f with
 | zero => intro p x q hp h; unfold targets at h; (simp only [Except.ok.injEq, Prod.mk.injEq] at h; omega)
 | succ f ih =>
  intro p x q hp h
  unfold targets at h
  split at h
  ·split at h
   ·cases h
   ·rename_i h1
    have := hG.suff _ _ _ h1
    split at h
    ·split at h
     ·cases h
     ·rename_i h2
      have := ih _ _ _ (by omega) h2
      (simp only [Except.ok.injEq, Prod.mk.injEq] at h; omega)
    ·cases h
  ·(simp only [Except.ok.injEq, Prod.mk.injEq] at h; omega)
theorem callOrAssignS_go : Gos V (callOrAssignS V G) := by
 intro p x q h
 unfold callOrAssignS at h
 split at h
 ·cases h
 ·split at h
  ·cases h
  ·rename_i h1
   have := hG.suff _ _ _ h1
   split at h
   ·(simp only [Except.ok.injEq, Prod.mk.injEq] at h; omega)
   ·split at h
    ·split at h
     ·cases h
     ·rename_i h2
      have := targets_go hG _ _ _ _ (by omega) h2
      split at h
      ·cases h
      ·rename_i h3
       have := need_go (by decide) _ _ _ h3
       split at h
       ·cases h
       ·rename_i h4
        have := listE_go hG _ _ _ h4
        (simp only [Except.ok.injEq, Prod.mk.injEq] at h; omega)
    ·cases h
theorem statementS_go : Gos V (statementS V G) := by
 intro p x q h
 unfold statementS at h
 split at h
 ·exact localS_go hG _ _ _ h
 ·split at h
  ·exact functionS_go hG _ _ _ h
  ·split at h
   ·rename_i hi
    exact choiceS_go hG _ (is_lt hi (by decide)) _ _ h
   ·split at h
    ·exact whileS_go hG _ _ _ h
    ·split at h
     ·exact countS_go hG _ _ _ h
     ·split at h
      ·split at h
       ·cases h
       ·rename_i h1
        have := doS_go hG _ _ _ h1
        (simp only [Except.ok.injEq, Prod.mk.injEq] at h; omega)
      ·split at h
       ·rename_i hi
        have := is_lt hi (by decide)
        (simp only [Except.ok.injEq, Prod.mk.injEq] at h; omega)
       ·exact callOrAssignS_go hG _ _ _ h
theorem stmts_go : ∀ f p x q, p ≤ V.L.length → stmts V G f p = .ok (x, q) → p ≤ q ∧ q ≤ V.L.length := by
 intro f
 induction f with
 | zero => intro p x q hp h; unfold stmts at h; (simp only [Except.ok.injEq, Prod.mk.injEq] at h; omega)
 | succ f ih =>
  intro p x q hp h
  unfold stmts at h
  split at h
  ·(simp only [Except.ok.injEq, Prod.mk.injEq] at h; omega)
  ·split at h
   ·rename_i hi
    have := is_lt hi (by decide)
    have := ih _ _ _ (by omega) h
    omega
   ·split at h
    ·rename_i hi
     split at h
     ·cases h
     ·rename_i h1
      have := returnedS_go hG _ (is_lt hi (by decide)) _ _ h1
      (simp only [Except.ok.injEq, Prod.mk.injEq] at h; omega)
    ·split at h
     ·cases h
     ·rename_i h1
      have := statementS_go hG _ _ _ h1
      split at h
      ·cases h
      ·rename_i h2
       have := ih _ _ _ (by omega) h2
       (simp only [Except.ok.injEq, Prod.mk.injEq] at h; omega)
theorem blockE_go (p : Nat) (x : Tr) (q : Nat) (hp : p ≤ V.L.length) (h : blockE V G p = .ok (x, q)) : p ≤ q ∧ q ≤ V.L.length := by
 unfold blockE at h
 split at h
 ·cases h
 ·rename_i h1
  have := stmts_go hG _ _ _ _ hp h1
  (simp only [Except.ok.injEq, Prod.mk.injEq] at h; omega)
end
theorem lev_go (V : Env) : ∀ n, LevGo V (lev V n)
 | 0 => ⟨(fun b p x q h => by cases h), (fun p x q h => by cases h), (fun a p x q h => by cases h), (fun p x q hp h => by cases h)⟩
 | n + 1 => ⟨fun b => aboveE_go (lev_go V n) b, suffE_go (lev_go V n), fun a => bodyE_go (lev_go V n) a, fun p x q hp h => blockE_go (lev_go V n) p x q hp h⟩
end Go.Proofs.YtgkgpjbbmnfnmaaGreatDoor

/- Trees in memory. -/
namespace Go.Proofs.YtgkgpjbbmnfnmaaGreatDoor
open Go.RowKit
set_option linter.unusedSimpArgs false
set_option linter.unusedVariables false

/-- A node's cells. -/
def ncs (k : Int) (t : ByteArray) (vt vn n : Int) (sv : Value) (a : Int) : List Value := [.int .i64 k, .string t, .int .i64 vt, .int .i64 vn, .int .i64 n, sv, .int .i64 a]
mutual
/-- A tree with these cells, none of whose blocks is in S. -/
def NodeIs (S : Nat → Prop) (w : World) : Tr → List Value → Prop
 | .mk k t vt vn n l a, cs => ∃ sv, cs = ncs k t vt vn n sv a ∧ ((l = [] ∧ sv = .slice none 0 0) ∨ ∃ b o cap, sv = .slice (some ⟨b, o, none⟩) l.length cap ∧ ¬ S b ∧ (b < w.heap.size ∧ l.length ≤ cap) ∧ RowAt S w b o l 0)
/-- Trees in a block, from the j-th place on. -/
def RowAt (S : Nat → Prop) (w : World) (b o : Nat) : List Tr → Nat → Prop
 | [], _ => True
 | x :: r, j => (∃ cs, NodeIs S w x cs ∧ ∀ i, i < 7 → w.cell? ⟨b, o + j * 7 + i, none⟩ = cs[i]?) ∧ RowAt S w b o r (j + 1)
end
/-- A list of trees, as a slice. -/
def ListIs (S : Nat → Prop) (w : World) (l : List Tr) (sv : Value) : Prop := (l = [] ∧ sv = .slice none 0 0) ∨ ∃ b o cap, sv = .slice (some ⟨b, o, none⟩) l.length cap ∧ ¬ S b ∧ (b < w.heap.size ∧ l.length ≤ cap) ∧ RowAt S w b o l 0
theorem NodeIs.cs {S : Nat → Prop} {w : World} {k : Int} {t : ByteArray} {vt vn n : Int} {l : List Tr} {a : Int} {cs : List Value} : NodeIs S w (.mk k t vt vn n l a) cs ↔ ∃ sv, cs = ncs k t vt vn n sv a ∧ ListIs S w l sv := by
 unfold NodeIs ListIs; exact Iff.rfl
theorem NodeIs.len {S : Nat → Prop} {w : World} {x : Tr} {cs : List Value} (h : NodeIs S w x cs) : cs.length = 7 := by
 obtain ⟨k, t, vt, vn, n, l, a⟩ := x
 obtain ⟨sv, rfl, _⟩ := NodeIs.cs.1 h
 rfl
theorem kept_cell {S : Nat → Prop} {w w' : World} (hk : Kept S w w') {b o : Nat} {v : Value} (hb : ¬ S b) (h : w.cell? ⟨b, o, none⟩ = some v) : w'.cell? ⟨b, o, none⟩ = some v := by
 cases hh : w.heap[b]? with
 | none => simp [World.cell?, hh] at h
 | some ob =>
  have := hk.heap hh hb
  simp only [World.cell?, hh, this] at h ⊢
  exact h
mutual
theorem NodeIs.kept {S : Nat → Prop} {w w' : World} (hk : Kept S w w') : ∀ (x : Tr) (cs : List Value), NodeIs S w x cs → NodeIs S w' x cs
 | .mk k t vt vn n l a, cs, h => by
  unfold NodeIs at h ⊢
  obtain ⟨sv, e, h⟩ := h
  refine ⟨sv, e, ?_⟩
  rcases h with h | ⟨b, o, cap, h1, h2, h3, h4⟩
  ·exact .inl h
  ·exact .inr ⟨b, o, cap, h1, h2, ⟨Nat.lt_of_lt_of_le h3.1 hk.size, h3.2⟩, RowAt.kept hk b o h2 l 0 h4⟩
theorem RowAt.kept {S : Nat → Prop} {w w' : World} (hk : Kept S w w') (b o : Nat) (hb : ¬ S b) : ∀ (l : List Tr) (j : Nat), RowAt S w b o l j → RowAt S w' b o l j
 | [], _, _ => by unfold RowAt; trivial
 | x :: r, j, h => by
  unfold RowAt at h ⊢
  obtain ⟨⟨cs, h1, h2⟩, h3⟩ := h
  refine ⟨⟨cs, NodeIs.kept hk x cs h1, fun i hi => ?_⟩, RowAt.kept hk b o hb r (j + 1) h3⟩
  have := h2 i hi
  rw [List.getElem?_eq_getElem (by rw [h1.len]; exact hi)] at this ⊢
  exact kept_cell hk hb this
end
mutual
theorem NodeIs.mono {S T : Nat → Prop} (hs : ∀ b, T b → S b) {w : World} : ∀ (x : Tr) (cs : List Value), NodeIs S w x cs → NodeIs T w x cs
 | .mk k t vt vn n l a, cs, h => by
  unfold NodeIs at h ⊢
  obtain ⟨sv, e, h⟩ := h
  refine ⟨sv, e, ?_⟩
  rcases h with h | ⟨b, o, cap, h1, h2, h3, h4⟩
  ·exact .inl h
  ·exact .inr ⟨b, o, cap, h1, fun e => h2 (hs _ e), h3, RowAt.mono hs b o l 0 h4⟩
theorem RowAt.mono {S T : Nat → Prop} (hs : ∀ b, T b → S b) {w : World} (b o : Nat) : ∀ (l : List Tr) (j : Nat), RowAt S w b o l j → RowAt T w b o l j
 | [], _, _ => by unfold RowAt; trivial
 | x :: r, j, h => by
  unfold RowAt at h ⊢
  obtain ⟨⟨cs, h1, h2⟩, h3⟩ := h
  exact ⟨⟨cs, NodeIs.mono hs x cs h1, h2⟩, RowAt.mono hs b o r (j + 1) h3⟩
end
theorem ListIs.kept {S : Nat → Prop} {w w' : World} (hk : Kept S w w') {l : List Tr} {sv : Value} (h : ListIs S w l sv) : ListIs S w' l sv := by
 rcases h with h | ⟨b, o, cap, h1, h2, h3, h4⟩
 ·exact .inl h
 ·exact .inr ⟨b, o, cap, h1, h2, ⟨Nat.lt_of_lt_of_le h3.1 hk.size, h3.2⟩, RowAt.kept hk b o h2 l 0 h4⟩
theorem ListIs.mono {S T : Nat → Prop} (hs : ∀ b, T b → S b) {w : World} {l : List Tr} {sv : Value} (h : ListIs S w l sv) : ListIs T w l sv := by
 rcases h with h | ⟨b, o, cap, h1, h2, h3, h4⟩
 ·exact .inl h
 ·exact .inr ⟨b, o, cap, h1, fun e => h2 (hs _ e), h3, RowAt.mono hs b o l 0 h4⟩
end Go.Proofs.YtgkgpjbbmnfnmaaGreatDoor
