/- Texts of scenes, as data: numbers, point lines, lines. -/
import Derived.Test.YtbhmgmbgplkkeaaDoorA1
import Derived.Lib.CutLaws
import Derived.Lib.Strings
namespace Go.Proofs.YtbhmgmbgplkkeaaDoor
open Go.RowKit
set_option linter.unusedSimpArgs false
set_option linter.unusedVariables false

/-- A digit? -/
def isDg (c : UInt8) : Bool := decide (48 ≤ c.toNat) && decide (c.toNat ≤ 57)
/-- The number that digits tell, behind n. -/
def numGo : Nat → List UInt8 → Option Nat
  | n, [] => some n
  | n, c :: r => if isDg c = true then numGo (n * 10 + (c.toNat - 48)) r else none
def numP (l : List UInt8) : Option Nat := if l = [] ∨ 9 < l.length ∨ (1 < l.length ∧ l.head? = some 48) then none else numGo 0 l

theorem numGo_mem : ∀ (l : List UInt8) (n : Nat) (c : UInt8), c ∈ l → isDg c = false → numGo n l = none
  | [], _, _, h, _ => by cases h
  | d :: l, n, c, h, hc => by
    unfold numGo
    split
    · rename_i hd
      rcases List.mem_cons.1 h with rfl | h
      · rw [hc] at hd; cases hd
      · exact numGo_mem l _ c h hc
    · rfl
theorem numP_mem (l : List UInt8) (c : UInt8) (h : c ∈ l) (hc : isDg c = false) : numP l = none := by
  unfold numP
  split
  · rfl
  · exact numGo_mem l 0 c h hc
theorem numGo_lt : ∀ (l : List UInt8) (n m : Nat), numGo n l = some m → m < (n + 1) * 10 ^ l.length
  | [], n, m, h => by simp [numGo] at h; subst h; simp
  | c :: l, n, m, h => by
    unfold numGo at h
    split at h
    · rename_i hd
      simp only [isDg, Bool.and_eq_true, decide_eq_true_eq] at hd
      have := numGo_lt l _ m h
      have h1 : (n * 10 + (c.toNat - 48) + 1) * 10 ^ l.length ≤ ((n + 1) * 10) * 10 ^ l.length := Nat.mul_le_mul_right _ (by omega)
      rw [List.length_cons, Nat.pow_succ, Nat.mul_comm (10 ^ l.length) 10, ← Nat.mul_assoc]
      omega
    · cases h
theorem numP_lt (l : List UInt8) (m : Nat) (h : numP l = some m) : m ≤ 999999999 := by
  unfold numP at h
  split at h
  · cases h
  · rename_i hn
    have := numGo_lt l 0 m h
    have h9 : l.length ≤ 9 := by
      rcases Nat.lt_or_ge 9 l.length with h | h
      · exact absurd (.inr (.inl h)) hn
      · exact h
    have : 10 ^ l.length ≤ 10 ^ 9 := Nat.pow_le_pow_right (by omega) h9
    omega

/-- A text at the first place where sep stands; none: there is none. -/
def cutO (sep : List UInt8) : List UInt8 → Option (List UInt8 × List UInt8)
  | [] => none
  | b :: l => if sep.isPrefixOf (b :: l) = true then some ([], (b :: l).drop sep.length) else (cutO sep l).map fun p => (b :: p.1, p.2)
theorem index_cutO (sep : List UInt8) (hs : sep ≠ []) : ∀ l, (Lib.index l sep = -1 ∧ cutO sep l = none) ∨ ∃ i : Nat, Lib.index l sep = i ∧ cutO sep l = some (l.take i, l.drop (i + sep.length))
  | [] => .inl ⟨by unfold Lib.index; cases sep with | nil => exact absurd rfl hs | cons a b => rfl, rfl⟩
  | b :: l => by
    unfold Lib.index cutO
    by_cases h : sep.isPrefixOf (b :: l) = true
    · rw [if_pos h, if_pos h]
      exact .inr ⟨0, rfl, by simp⟩
    · rw [if_neg h, if_neg h]
      rcases index_cutO sep hs l with ⟨h1, h2⟩ | ⟨i, h1, h2⟩
      · rw [h1, h2]; exact .inl ⟨rfl, rfl⟩
      · rw [h1, h2]
        refine .inr ⟨i + 1, ?_, ?_⟩
        · rw [if_neg (by simp)]; simp
        · simp only [Option.map_some, List.take_succ_cons]
          rw [show i + 1 + sep.length = (i + sep.length) + 1 by omega, List.drop_succ_cons]
theorem cut_is (l sep : List UInt8) (hs : sep ≠ []) : Lib.cut l sep = match cutO sep l with | some p => (p.1, p.2, true) | none => (l, [], false) := by
  unfold Lib.cut
  rcases index_cutO sep hs l with ⟨h1, h2⟩ | ⟨i, h1, h2⟩
  · rw [h1, h2]; rfl
  · rw [h1, h2, if_pos (by omega)]
    show _ = (_, _, _)
    rw [Int.toNat_natCast]

/-- .. at a byte. -/
theorem cut1_hit : ∀ (a b : List UInt8) (c : UInt8), c ∉ a → cutO [c] (a ++ c :: b) = some (a, b)
  | [], b, c, _ => by simp [cutO]
  | d :: a, b, c, h => by
    have hd : (c == d) = false := by rw [beq_eq_false_iff_ne]; exact fun e => h (by rw [e]; exact List.mem_cons_self)
    rw [List.cons_append, cutO]
    simp only [List.isPrefixOf, hd, Bool.false_and]
    rw [cut1_hit a b c (fun e => h (List.mem_cons_of_mem _ e))]; simp
theorem cut1_none : ∀ (l : List UInt8) (c : UInt8), cutO [c] l = none ↔ c ∉ l
  | [], c => by simp [cutO]
  | d :: l, c => by
    rw [cutO]
    by_cases hd : c = d
    · subst hd; simp
    · have hb : (c == d) = false := by rw [beq_eq_false_iff_ne]; exact hd
      simp only [List.isPrefixOf, hb, Bool.false_and]
      simp only [Bool.false_eq_true, if_false, Option.map_eq_none_iff, cut1_none l c, List.mem_cons, not_or]
      exact ⟨fun h => ⟨hd, h⟩, fun h => h.2⟩
theorem cut1_some : ∀ (l a b : List UInt8) (c : UInt8), cutO [c] l = some (a, b) → l = a ++ c :: b ∧ c ∉ a
  | [], a, b, c, h => by simp [cutO] at h
  | d :: l, a, b, c, h => by
    rw [cutO] at h
    by_cases hd : c = d
    · subst hd
      simp at h
      obtain ⟨rfl, rfl⟩ := h
      simp
    · have hb : (c == d) = false := by rw [beq_eq_false_iff_ne]; exact hd
      simp only [List.isPrefixOf, hb, Bool.false_and, Bool.false_eq_true, if_false] at h
      obtain ⟨⟨a', b'⟩, h1, h2⟩ := Option.map_eq_some_iff.1 h
      simp only [Prod.mk.injEq] at h2
      obtain ⟨rfl, rfl⟩ := h2
      obtain ⟨h3, h4⟩ := cut1_some l a' b' c h1
      rw [h3]
      exact ⟨rfl, fun e => (List.mem_cons.1 e).elim hd h4⟩
/-- .. at a blank with an x behind it. -/
abbrev bx : List UInt8 := [32, 120]
theorem cut2_skip : ∀ (a l : List UInt8), (32 : UInt8) ∉ a → cutO bx (a ++ l) = (cutO bx l).map fun p => (a ++ p.1, p.2)
  | [], l, _ => by rw [List.nil_append]; cases cutO bx l <;> rfl
  | d :: a, l, h => by
    have hb : ((32 : UInt8) == d) = false := by rw [beq_eq_false_iff_ne]; exact fun e => h (by rw [e]; exact List.mem_cons_self)
    rw [List.cons_append, cutO]
    simp only [bx, List.isPrefixOf, hb, Bool.false_and, Bool.false_eq_true, if_false]
    rw [show ([32, 120] : List UInt8) = bx from rfl, cut2_skip a l (fun e => h (List.mem_cons_of_mem _ e)), Option.map_map]; rfl
theorem cut2_x (r : List UInt8) : cutO bx (32 :: 120 :: r) = some ([], r) := by simp [cutO, bx]
theorem cut2_no (r : List UInt8) (h : r.head? ≠ some 120) : cutO bx (32 :: r) = (cutO bx r).map fun p => (32 :: p.1, p.2) := by
  rw [cutO]
  cases r with
  | nil => simp [bx, cutO]
  | cons d r =>
    have hb : ((120 : UInt8) == d) = false := by rw [beq_eq_false_iff_ne]; exact fun e => h (by rw [e]; rfl)
    simp only [bx, List.isPrefixOf, hb, Bool.false_and, Bool.and_false, Bool.false_eq_true, if_false]
theorem cut2_none (l : List UInt8) (h : cutO [32] l = none) : cutO bx l = none := by
  have := cut2_skip l [] ((cut1_none l 32).1 h)
  rw [List.append_nil] at this
  rw [this]; rfl
/-- What stands behind an x. -/
def xtail : List UInt8 → Option (List UInt8)
  | [] => none
  | c :: m => if c = 120 then some m else none
theorem xtail_some {r m : List UInt8} (h : xtail r = some m) : r = 120 :: m := by
  cases r with
  | nil => cases h
  | cons c r =>
    have h : (if c = 120 then some r else none) = some m := h
    by_cases hc : c = 120
    · rw [if_pos hc] at h
      injection h with h
      rw [hc, h]
    · rw [if_neg hc] at h; cases h
theorem xtail_none {r : List UInt8} (h : xtail r = none) : r.head? ≠ some 120 := by
  cases r with
  | nil => simp
  | cons c r =>
    have h : (if c = 120 then some r else none) = none := h
    by_cases hc : c = 120
    · rw [if_pos hc] at h; cases h
    · intro e
      injection e with e
      exact hc e
theorem cut2_one {l w r : List UInt8} (h : cutO [32] l = some (w, r)) : cutO bx l = match xtail r with | some m => some (w, m) | none => (cutO bx r).map fun p => (w ++ 32 :: p.1, p.2) := by
  obtain ⟨rfl, hw⟩ := cut1_some l w r 32 h
  rw [cut2_skip w _ hw]
  cases hx : xtail r with
  | some m => rw [xtail_some hx, cut2_x]; simp
  | none => rw [cut2_no r (xtail_none hx), Option.map_map]; rfl

/-- How points of a kind are told. -/
structure Row where
  kind : Int
  word : List UInt8
  num : Bool
  most : Int
def rowsL : List Row := [⟨0, [110, 111, 110, 101], false, 0⟩, ⟨1, [115, 116, 101, 112], true, 999999999⟩, ⟨2, [121, 111, 117, 110, 103], false, 0⟩, ⟨3, [109, 97, 106, 111, 114], false, 0⟩, ⟨4, [109, 111, 100, 101], true, 1⟩, ⟨5, [99, 111, 109, 112, 97, 99, 116], false, 0⟩]
def rowW (l : List UInt8) : Option Row := rowsL.find? fun r => r.word == l
def rowK (k : Int) : Option Row := rowsL.find? fun r => r.kind == k
/-- The point that a line without an x tells. -/
def ptP (told : List UInt8) : Option V := match cutO [32] told with
  | some (w, d) => match rowW w with
    | some r => if r.num = true then (match numP d with | some n => if r.most < (n : Int) then none else some (r.kind, (n : Int)) | none => none) else none
    | none => none
  | none => match rowW told with
    | some r => if r.num = true then none else some (r.kind, 0)
    | none => none
/-- A point line, as the program reads it. -/
def lineF (l : List UInt8) : Option (V × Nat) := match cutO bx l with
  | some (told, t) => match numP t with
    | some n => if n < 2 then none else (ptP told).map fun p => (p, n)
    | none => none
  | none => (ptP l).map fun p => (p, 1)
/-- How many an x tells. -/
def xP (l : List UInt8) : Option Nat := match xtail l with
  | some m => match numP m with
    | some n => if n < 2 then none else some n
    | none => none
  | none => none
def numR (r : Row) (d : List UInt8) : Option V := match numP d with | some n => if r.most < (n : Int) then none else some (r.kind, (n : Int)) | none => none
/-- .. as the document does. -/
def lineD (l : List UInt8) : Option (V × Nat) := match cutO [32] l with
  | none => match rowW l with
    | some r => if r.num = true then none else some ((r.kind, 0), 1)
    | none => none
  | some (w, rest) => match rowW w with
    | none => none
    | some r => if r.num = true then
        match cutO [32] rest with
        | none => (numR r rest).map fun p => (p, 1)
        | some (d, rest2) => match numR r d with
          | some p => (xP rest2).map fun n => (p, n)
          | none => none
      else (xP rest).map fun n => ((r.kind, 0), n)
theorem dg32 : isDg 32 = false := by decide
theorem dg120 : isDg 120 = false := by decide
theorem numR_mem (r : Row) (d : List UInt8) (c : UInt8) (h : c ∈ d) (hc : isDg c = false) : numR r d = none := by unfold numR; rw [numP_mem d c h hc]
theorem ptP_hit (w a : List UInt8) (hw : (32 : UInt8) ∉ w) : ptP (w ++ 32 :: a) = match rowW w with | some r => if r.num = true then numR r a else none | none => none := by
  unfold ptP numR
  rw [cut1_hit w a 32 hw]
theorem ptP_miss (w : List UInt8) (hw : (32 : UInt8) ∉ w) : ptP w = match rowW w with | some r => if r.num = true then none else some (r.kind, 0) | none => none := by
  unfold ptP
  rw [(cut1_none w 32).2 hw]
theorem line_same (l : List UInt8) : lineF l = lineD l := by
  unfold lineF lineD
  cases h1 : cutO [32] l with
  | none =>
    rw [cut2_none l h1]
    simp only [ptP_miss l ((cut1_none l 32).1 h1)]
    cases rowW l with
    | none => rfl
    | some r => by_cases hn : r.num = true <;> simp only [hn, if_true, if_false, Bool.false_eq_true] <;> rfl
  | some p =>
    obtain ⟨w, rest⟩ := p
    obtain ⟨hl, hw⟩ := cut1_some l w rest 32 h1
    simp only []
    rw [cut2_one h1]
    cases hx : xtail rest with
    | some m =>
      obtain rfl := xtail_some hx
      simp only [ptP_miss w hw]
      have hxP : xP (120 :: m) = match numP m with | some n => if n < 2 then none else some n | none => none := by unfold xP; rw [hx]
      cases rowW w with
      | none => cases numP m with | none => rfl | some n => simp
      | some r =>
        by_cases hn : r.num = true
        · simp only [hn, if_true]
          have e0 : (match cutO [32] (120 :: m) with | none => (numR r (120 :: m)).map fun p => (p, 1) | some (d, rest2) => match numR r d with | some p => (xP rest2).map fun n => (p, n) | none => none) = none := by
            cases h2 : cutO [32] (120 :: m) with
            | none => rw [numR_mem r _ 120 List.mem_cons_self dg120]; rfl
            | some q =>
              obtain ⟨d, rest2⟩ := q
              obtain ⟨h3, h4⟩ := cut1_some _ d rest2 32 h2
              have : (120 : UInt8) ∈ d := by
                cases d with
                | nil => simp at h3
                | cons x d => injection h3 with h3; rw [h3]; exact List.mem_cons_self
              simp only [numR_mem r d 120 this dg120]
          rw [e0]
          cases numP m with | none => rfl | some n => simp
        · simp only [hn, if_false, hxP]
          cases numP m with
          | none => rfl
          | some n => simp only []; by_cases h2 : n < 2 <;> simp [h2]
    | none =>
      have hxP : xP rest = none := by unfold xP; rw [hx]
      simp only []
      cases h2 : cutO [32] rest with
      | none =>
        rw [cut2_none rest h2]
        simp only [Option.map_none]
        rw [hl, ptP_hit w rest hw, hxP]
        cases rowW w with
        | none => rfl
        | some r => by_cases hn : r.num = true <;> simp only [hn, if_true, if_false] <;> rfl
      | some q =>
        obtain ⟨d, rest2⟩ := q
        obtain ⟨h3, h4⟩ := cut1_some rest d rest2 32 h2
        rw [cut2_one h2]
        cases hx2 : xtail rest2 with
        | some m =>
          have hxP2 : xP rest2 = match numP m with | some n => if n < 2 then none else some n | none => none := by unfold xP; rw [hx2]
          simp only [Option.map_some, ptP_hit w _ hw, hxP, hxP2]
          cases rowW w with
          | none => cases numP m with | none => rfl | some n => simp
          | some r =>
            by_cases hn : r.num = true
            · simp only [hn, if_true]
              cases numP m with
              | none => cases numR r d <;> rfl
              | some n => cases numR r d <;> by_cases h2 : n < 2 <;> simp [h2]
            · simp only [hn, if_false]
              cases numP m with | none => rfl | some n => simp
        | none =>
          have hxP2 : xP rest2 = none := by unfold xP; rw [hx2]
          have hR : (match rowW w with | none => none | some r => if r.num = true then (match numR r d with | some p => (none : Option Nat).map fun n => (p, n) | none => none) else (none : Option Nat).map fun n => (((r.kind, 0) : V), n)) = (none : Option (V × Nat)) := by
            cases rowW w with
            | none => rfl
            | some r => by_cases hn : r.num = true <;> simp only [hn, if_true, if_false] <;> cases numR r d <;> rfl
          have hPn : ∀ a, ptP (w ++ 32 :: (d ++ 32 :: a)) = none := fun a => by
            rw [ptP_hit w _ hw]
            cases rowW w with
            | none => rfl
            | some r => simp only [numR_mem r (d ++ 32 :: a) 32 (by simp) dg32]; split <;> rfl
          simp only [hxP, hxP2]
          refine Eq.trans ?_ hR.symm
          cases h5 : cutO bx rest2 with
          | none => simp only [Option.map_none]; rw [hl, h3, hPn]; rfl
          | some q =>
            simp only [Option.map_some, hPn]
            cases numP q.2 with
            | none => rfl
            | some n => simp
end Go.Proofs.YtbhmgmbgplkkeaaDoor
