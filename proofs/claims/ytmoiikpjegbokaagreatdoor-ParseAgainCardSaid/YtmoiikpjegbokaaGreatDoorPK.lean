import Derived.Test.YtmoiikpjegbokaaGreatDoorPJ
import Derived.Test.YtmoiikpjegbokaaGreatDoorMR
set_option linter.unusedSimpArgs false
set_option linter.unusedVariables false
/- How many tokens a source's tree is printed with. -/
namespace Go.Proofs.YtmoiikpjegbokaaGreatDoor
open List renaming length_append → lla
open List renaming map_cons → lmc
section
variable (nt : Int → Int → ByteArray) (qt : ByteArray → ByteArray)
def ln (x : Tr) : Nat := (prT nt qt x).length
def NB (p q : Nat) (x : Tr) : Prop := p < q ∧ ln nt qt x = 1
def EB (p q : Nat) (x : Tr) : Prop := p < q ∧ ln nt qt x + 3 + 4 * p ≤ 4 * q
def SB (p q : Nat) (x : Tr) : Prop := p < q ∧ ln nt qt x + 1 + 4 * p ≤ 4 * q
def BB (p q : Nat) (x : Tr) : Prop := p ≤ q ∧ ln nt qt x + 4 * p ≤ 4 * q
end
variable {nt : Int → Int → ByteArray} {qt : ByteArray → ByteArray}
theorem ln_mk (k : Int) (t : ByteArray) (vt vn c a : Int) (l : List Tr) : ln nt qt (.mk k t vt vn c l a) = (prN nt qt k t vt vn c (l.map Tr.k) (l.map (prT nt qt))).length := by
  unfold ln; rw [prT, prTs_map]
def cl (l : List (List ByteArray)) : Nat := (commaP l).length
theorem cl_two (x y : List ByteArray) (r : List (List ByteArray)) : cl (x :: y :: r) = x.length + 1 + cl (y :: r) := by
  unfold cl; simp [commaP]; omega
theorem cl_one (x : List ByteArray) : cl [x] = x.length := by unfold cl; simp [commaP]
theorem cl_nil : cl [] = 0 := rfl
theorem RL.len {p q : Nat} {l : List Tr} (h : RL (EB nt qt) p q l) : p ≤ q ∧ cl (l.map (prT nt qt)) + 4 * p ≤ 4 * q ∧ (l ≠ [] → cl (l.map (prT nt qt)) + 3 + 4 * p ≤ 4 * q) := by
  induction h with
  | nil p q h => exact ⟨h, by rw [List.map_nil, cl_nil]; omega, fun e => absurd rfl e⟩
  | one p q r x h h3 =>
    have := h.2;unfold ln at this;rw [lmc, List.map_nil, cl_one];exact ⟨by have := h.1; omega, by omega, fun _ => by omega⟩
  | more p q r s x y l h h3 h4 ih =>
    have := h.2;have h1 := h.1;unfold ln at this;have := ih.2.2 (by simp);rw [lmc] at this ⊢;rw [lmc, cl_two];exact ⟨by have := ih.1; omega, by omega, fun _ => by omega⟩
theorem RL.names {p q : Nat} {l : List Tr} (h : RL (NB nt qt) p q l) : p ≤ q ∧ cl (l.map (prT nt qt)) + p ≤ q := by
  induction h with
  | nil p q h => exact ⟨h, by rw [List.map_nil, cl_nil]; omega⟩
  | one p q r x h h3 =>
    have := h.2;have h1 := h.1;unfold ln at this;rw [lmc, List.map_nil, cl_one];exact ⟨by omega, by omega⟩
  | more p q r s x y l h h3 h4 ih =>
    have := h.2;have h1 := h.1;unfold ln at this;obtain ⟨i1, i2⟩ := ih;rw [lmc] at i2 ⊢;rw [lmc, cl_two];exact ⟨by omega, by omega⟩
theorem RS.len {p q : Nat} {l : List Tr} (h : RS (SB nt qt) p q l) : p ≤ q ∧ ((l.map (prT nt qt)).map (fun y => y ++ [⟨#[59]⟩])).flatten.length + 4 * p ≤ 4 * q := by
  induction h with
  | nil p q h => exact ⟨h, by simp; omega⟩
  | more p q r s x l h h3 h4 ih =>
    obtain ⟨h1, h2⟩ := h;obtain ⟨i1, i2⟩ := ih;unfold ln at h2;refine ⟨by omega, ?_⟩;rw [lmc, lmc, List.flatten_cons, lla, lla, List.length_singleton];omega
theorem RC.len {p q : Nat} {l : List (Tr × Tr)} (h : RC (EB nt qt) (BB nt qt) p q l) : ∀ (m : List Tr) (wd : ByteArray), p < q ∧ (chP wd ((l.flatMap (fun x => [x.1, x.2]) ++ m).map (prT nt qt))).length + 4 * p ≤ 4 * q + (chP ⟨#[101, 108, 115, 101, 105, 102]⟩ (m.map (prT nt qt))).length := by
  induction h with
  | one p q s x b h1 h2 =>
    intro m wd;obtain ⟨a1, a2⟩ := h1;obtain ⟨b1, b2⟩ := h2;unfold ln at a2 b2;refine ⟨by omega, ?_⟩;simp only [List.flatMap_cons, List.flatMap_nil, List.append_nil, List.cons_append, List.nil_append, lmc, chP, List.length_cons, List.length_nil, lla, List.length_singleton];omega
  | more p q s e x b l h1 h2 h3 ih =>
    intro m wd;obtain ⟨a1, a2⟩ := h1;obtain ⟨b1, b2⟩ := h2;obtain ⟨i1, i2⟩ := ih m ⟨#[101, 108, 115, 101, 105, 102]⟩;unfold ln at a2 b2;refine ⟨by omega, ?_⟩;simp only [List.flatMap_cons, List.cons_append, List.nil_append, lmc, chP, List.length_cons, List.length_nil, lla, List.length_singleton];omega
theorem head_len (k : Int) (p : List ByteArray) : (headP k p).length ≤ p.length + 2 := by
  unfold headP; split <;> simp
theorem body_len (l : List Tr) (b : Tr) : (bodyP ((l ++ [b]).map (prT nt qt))).length = 3 + cl (l.map (prT nt qt)) + ln nt qt b := by
  unfold bodyP cl ln;rw [List.map_append, lmc, List.map_nil, List.dropLast_concat, List.getLastD_concat];simp; omega
theorem func_len (l : List Tr) (b : Tr) (a : Int) : ln nt qt (nd 7 (l ++ [b]) a) = 4 + cl (l.map (prT nt qt)) + ln nt qt b := by
  have e := ln_mk (nt := nt) (qt := qt) 7 ⟨#[]⟩ 0 0 0 a (l ++ [b]);unfold nd;rw [e];have : prN nt qt 7 ⟨#[]⟩ 0 0 0 ((l ++ [b]).map Tr.k) ((l ++ [b]).map (prT nt qt)) = [⟨#[102, 117, 110, 99, 116, 105, 111, 110]⟩] ++ bodyP ((l ++ [b]).map (prT nt qt)) := by simp [prN]
  rw [this, lla, body_len];simp; omega
theorem nt_len {p q : Nat} {x : Tr} (h : NB nt qt p q x) : EB nt qt p q x := ⟨h.1, by have := h.1; have := h.2; omega⟩
theorem ln_clo (V : Env) : CloR V (NB nt qt) (EB nt qt) (EB nt qt) (SB nt qt) (BB nt qt) where
  wid := fun p p' q q' x h h1 h2 => ⟨by have := h.1; omega, by have := h.2; omega⟩
  widS := fun p p' q q' x h h1 h2 => ⟨by have := h.1; omega, by have := h.2; omega⟩
  name := fun p _ _ => ⟨by omega, by rw [ln_mk]; rfl⟩
  ofN := fun p q x h => nt_len h
  key := fun p _ _ => ⟨by omega, by rw [ln_mk]; simp [prN]; omega⟩
  num := fun p _ _ => ⟨by omega, by rw [ln_mk]; simp [prN]; omega⟩
  text := fun p _ _ => ⟨by omega, by rw [ln_mk]; simp [prN]; omega⟩
  word := fun p k a hk => ⟨by omega, by unfold nd; rw [ln_mk]; rcases hk with rfl | rfl | rfl <;> simp [prN] <;> omega⟩
  func := fun p q s l b a h1 h2 => by
    have := h1.names;obtain ⟨b1, b2⟩ := h2;exact ⟨by omega, by rw [func_len]; omega⟩
  un := fun p q t x a ht h => by
    obtain ⟨h1, h2⟩ := h;unfold ln at h2;exact ⟨by omega, by rw [ln_mk]; simp [prN]; omega⟩
  bin := fun p q r t x y a ht h h' => by
    obtain ⟨h1, h2⟩ := h;obtain ⟨h3, h4⟩ := h';unfold ln at h2 h4;exact ⟨by omega, by rw [ln_mk]; simp [prN]; omega⟩
  dot := fun p q x y a h h' => by
    obtain ⟨h1, h2⟩ := h;obtain ⟨h3, h4⟩ := h';have := head_len x.k (prT nt qt x);unfold ln at h2 h4;exact ⟨by omega, by unfold nd; rw [ln_mk]; simp [prN, keyP]; omega⟩
  index := fun p q r x y a h h' => by
    obtain ⟨h1, h2⟩ := h;obtain ⟨h3, h4⟩ := h';have := head_len x.k (prT nt qt x);unfold ln at h2 h4;exact ⟨by omega, by unfold nd; rw [ln_mk]; simp [prN, keyP]; omega⟩
  call := fun p q r x l a h h' => by
    obtain ⟨h1, h2⟩ := h;obtain ⟨h3, h4, _⟩ := h'.len;have := head_len x.k (prT nt qt x);unfold ln at h2;unfold cl at h4;exact ⟨by omega, by unfold nd; rw [ln_mk]; simp [prN]; omega⟩
  table := fun p q l a h => by
    obtain ⟨h3, h4, _⟩ := h.len;unfold cl at h4;exact ⟨by omega, by unfold nd; rw [ln_mk]; simp [prN]; omega⟩
  item := fun p q x a h => by
    obtain ⟨h1, h2⟩ := h;unfold ln at h2;exact ⟨by omega, by unfold nd; rw [ln_mk]; simp [prN]; omega⟩
  keyed := fun p q x y a h h' => by
    obtain ⟨h1, h2⟩ := h;obtain ⟨h3, h4⟩ := h';unfold ln at h2 h4;exact ⟨by omega, by unfold nd; rw [ln_mk]; simp [prN, keyP]; omega⟩
  pair := fun p q r x y a h h' => by
    obtain ⟨h1, h2⟩ := h;obtain ⟨h3, h4⟩ := h';unfold ln at h2 h4;exact ⟨by omega, by unfold nd; rw [ln_mk]; simp [prN, keyP]; omega⟩
  block := fun p q l a h _ => by
    obtain ⟨h1, h2⟩ := h.len;exact ⟨h1, by unfold nd; rw [ln_mk]; exact h2⟩
  ret := fun p q l a h => by
    obtain ⟨h3, h4, _⟩ := h.len;unfold cl at h4;exact ⟨by omega, by unfold nd; rw [ln_mk]; simp [prN]; omega⟩
  locals := fun p q r l m a h0 h1 h2 => by
    have h3 := h1.names
    have e : ln nt qt (.mk 21 ⟨#[]⟩ 0 0 l.length (l ++ m) a) ≤ 2 + cl (l.map (prT nt qt)) + cl (m.map (prT nt qt)) := by
      rw [ln_mk];have : prN nt qt 21 ⟨#[]⟩ 0 0 (l.length : Int) ((l ++ m).map Tr.k) ((l ++ m).map (prT nt qt)) = [⟨#[108, 111, 99, 97, 108]⟩] ++ commaP (((l ++ m).map (prT nt qt)).take l.length) ++ (if l.length < ((l ++ m).map (prT nt qt)).length then [⟨#[61]⟩] ++ commaP (((l ++ m).map (prT nt qt)).drop l.length) else []) := by simp [prN]
      rw [this, List.map_append, List.take_left' (by simp), List.drop_left' (by simp)];unfold cl;split <;> simp <;> omega
    rcases h2 with ⟨rfl, rfl⟩ | h2
    · rw [List.map_nil, cl_nil] at e;exact ⟨by omega, by omega⟩
    · obtain ⟨h4, h5, _⟩ := h2.len;exact ⟨by omega, by omega⟩
  localf := fun p q s l b n a c h1 h2 h3 => by
    have i2 := h2.names;obtain ⟨b1, b2⟩ := h3;obtain ⟨n1, n2⟩ := h1;have e := func_len (nt := nt) (qt := qt) l b c;unfold ln at n2 e;refine ⟨by omega, ?_⟩
    have : ln nt qt (nd 29 [n, nd 7 (l ++ [b]) c] a) = 2 + (prT nt qt n).length + ((prT nt qt (nd 7 (l ++ [b]) c)).length - 1) := by
      unfold nd; rw [ln_mk]; simp [prN]; omega
    rw [this, n2, e];unfold ln at b2;omega
  func2 := fun p q s l b n a c h1 h2 h3 => by
    have i2 := h2.names;obtain ⟨b1, b2⟩ := h3;obtain ⟨n1, n2⟩ := h1;have e := func_len (nt := nt) (qt := qt) l b c;unfold ln at n2 e;refine ⟨by omega, ?_⟩
    have : ln nt qt (.mk 22 ⟨#[]⟩ 0 0 1 [n, nd 7 (l ++ [b]) c] a) = (prT nt qt n).length + 1 + (prT nt qt (nd 7 (l ++ [b]) c)).length := by
      rw [ln_mk]; simp [prN, commaP]; omega
    rw [this, n2, e];unfold ln at b2;omega
  assign := fun p q r n l m a h1 h2 h0 h3 => by
    obtain ⟨a1, a2, a3⟩ := h1.len;obtain ⟨c1, c2, c3⟩ := h3.len;have a3 := a3 (by simp);have c3 := c3 h0
    have e : ln nt qt (.mk 22 ⟨#[]⟩ 0 0 ((l.length : Int) + 1) (n :: (l ++ m)) a) = 1 + cl ((n :: l).map (prT nt qt)) + cl (m.map (prT nt qt)) := by
      rw [ln_mk];have e2 : ((l.length : Int) + 1).toNat = (n :: l).length := by rw [List.length_cons]; omega
      have : prN nt qt 22 ⟨#[]⟩ 0 0 ((l.length : Int) + 1) ((n :: (l ++ m)).map Tr.k) ((n :: (l ++ m)).map (prT nt qt)) = commaP (((n :: l ++ m).map (prT nt qt)).take (n :: l).length) ++ [⟨#[61]⟩] ++ commaP (((n :: l ++ m).map (prT nt qt)).drop (n :: l).length) := by
        rw [← e2]; rfl
      rw [this, List.map_append, List.take_left' (by simp), List.drop_left' (by simp)];unfold cl;simp; omega
    exact ⟨by omega, by rw [e]; omega⟩
  callS := fun p q x a h _ => by
    obtain ⟨h1, h2⟩ := h;unfold ln at h2;exact ⟨by omega, by unfold nd; rw [ln_mk]; simp [prN]; omega⟩
  choice := fun p q r l m a h1 h2 => by
    obtain ⟨a1, a2⟩ := h1.len m ⟨#[105, 102]⟩
    have e : ln nt qt (nd 24 (l.flatMap (fun x => [x.1, x.2]) ++ m) a) = (chP ⟨#[105, 102]⟩ ((l.flatMap (fun x => [x.1, x.2]) ++ m).map (prT nt qt))).length := by
      unfold nd; rw [ln_mk]; rfl
    rcases h2 with ⟨rfl, rfl⟩ | ⟨b, ⟨b1, b2⟩, rfl⟩
    · refine ⟨by omega, ?_⟩;rw [e];simp only [List.map_nil, chP, List.length_singleton] at a2;omega
    · refine ⟨by omega, ?_⟩;rw [e];unfold ln at b2;simp only [lmc, List.map_nil, chP, lla, List.length_singleton] at a2;omega
  loop := fun p q s x b a h h' => by
    obtain ⟨h1, h2⟩ := h;obtain ⟨h3, h4⟩ := h';unfold ln at h2 h4;exact ⟨by omega, by unfold nd; rw [ln_mk]; simp [prN, doP]; omega⟩
  count := fun p q r s e n x y l b a hn hx hy hl hb => by
    obtain ⟨n1, n2⟩ := hn;obtain ⟨x1, x2⟩ := hx;obtain ⟨y1, y2⟩ := hy;obtain ⟨b1, b2⟩ := hb;unfold ln at n2 x2 y2 b2;rcases hl with ⟨rfl, rfl⟩ | ⟨z, ⟨z1, z2⟩, rfl⟩
    · exact ⟨by omega, by unfold nd; rw [ln_mk]; simp [prN, doP, commaP]; omega⟩
    · unfold ln at z2;exact ⟨by omega, by unfold nd; rw [ln_mk]; simp [prN, doP, commaP]; omega⟩
  brk := fun p a => ⟨by omega, by unfold nd; rw [ln_mk]; simp [prN]; omega⟩
  group := fun p q b a h => by
    obtain ⟨h1, h2⟩ := h;unfold ln at h2;exact ⟨by omega, by unfold nd; rw [ln_mk]; simp [prN, doP]; omega⟩
theorem whole_len {V : Env} {x : Tr} (h : whole V = .ok x) : (prT nt qt x).length ≤ 4 * V.L.length := by
  obtain ⟨q, h1, h2, h3⟩ := whole_r (ln_clo (nt := nt) (qt := qt) V) h;unfold ln at h3;omega
end Go.Proofs.YtmoiikpjegbokaaGreatDoor
