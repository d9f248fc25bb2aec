/- A scene's text is read as the scene; cut off it is refused; a text that is read has a text. -/
import Derived.Test.YtbhmgmbgplkkeaaDoorM4
namespace Go.Proofs.YtbhmgmbgplkkeaaDoor
open Go.RowKit
set_option linter.unusedSimpArgs false
set_option linter.unusedVariables false

theorem ali_split : ∀ (l : List V) (p : V), l.head? = some p → l = List.replicate (aliF l) p ++ l.drop (aliF l)
  | [], _, h => by cases h
  | q :: r, p, h => by
    injection h with h; subst h
    by_cases hr : r.head? = some q
    · have e : aliF (q :: r) = aliF r + 1 := by rw [aliF, if_pos hr]
      rw [e, List.replicate_succ, List.drop_succ_cons, List.cons_append, ← ali_split r q hr]
    · have e : aliF (q :: r) = 1 := by rw [aliF, if_neg hr]
      rw [e]; rfl
theorem ali_rep (p : V) : ∀ k, aliF (List.replicate k p) = k
  | 0 => rfl
  | 1 => rfl
  | k + 2 => by
    have : (List.replicate (k + 1) p).head? = some p := rfl
    rw [List.replicate_succ, aliF, if_pos this, ali_rep p (k + 1)]

theorem out_line (st : St) (a : Nat) (line rest : List UInt8) (st' : St) (l' : List UInt8) (hs : ∀ x, st ≠ .done x) (h10 : (10 : UInt8) ∉ line) (h : lineS st line rest = .inr (st', l')) : outS st a (line ++ 10 :: rest) = outS st' (a + 1) l' :=
  outS_go st a _ st' l' hs (by unfold stepS; rw [cut1_hit _ _ _ h10]; exact h)
theorem out_cut (st : St) (a : Nat) (line : List UInt8) (c : Nat) (hs : ∀ x, st ≠ .done x) (h10 : (10 : UInt8) ∉ line) : outS st a (line.take c) = .err a 6 :=
  outS_err st a _ 6 hs (by unfold stepS; rw [(cut1_none _ _).2 (fun h => h10 (List.mem_of_mem_take h))])

theorem after_is (w : List UInt8) (m : Nat) (h1 : m ≤ 999999999) : afterF w (w ++ (32 :: Lib.itoa (m : Int))) = some m := by
  unfold afterF Lib.hasPrefix
  rw [if_pos, itoa_nat]
  · rw [show w ++ 32 :: Lib.decDigits m = (w ++ [32]) ++ Lib.decDigits m by simp, show w.length + 1 = (w ++ [32]).length by simp, List.drop_left]
    exact numP_dec m h1
  · rw [List.isPrefixOf_iff_prefix]
    exact ⟨Lib.itoa (m : Int), by simp⟩
theorem word_10 {w : List UInt8} {n : Int} (hw : (10 : UInt8) ∉ w) (h0 : 0 ≤ n) : (10 : UInt8) ∉ w ++ (32 :: Lib.itoa n) := by
  intro h
  rcases List.mem_append.1 h with h | h
  · exact hw h
  · rcases List.mem_cons.1 h with e | h
    · cases e
    · exact not_dec h0 no10 h

/-- A scene that may be. -/
structure GoodS (x : Sc) : Prop where
  z0 : 1 ≤ x.size
  z1 : x.size ≤ 65536
  n0 : 0 ≤ x.steps
  n1 : x.steps ≤ 20000
  len : x.pts.length ≤ 4000
  fit : x.pts.all fitsP = true
  src : x.src.length ≤ 8192
def textF (x : Sc) : List UInt8 := headT x.size x.steps ++ bodyR 0 x.pts ++ (srW ++ (10 :: x.src))
theorem print_good {x : Sc} (h : GoodS x) : printF x = .inr (textF x) := by
  unfold printF
  rw [if_neg (by have := h.z0; have := h.z1; have := h.n0; have := h.n1; omega), if_neg (by have := h.len; omega), if_neg (by rw [h.fit]; simp), if_neg (by have := h.src; omega)]
  rfl
theorem good_print {x : Sc} {t : List UInt8} (h : printF x = .inr t) : GoodS x ∧ t = textF x := by
  unfold printF at h
  split at h
  · cases h
  · split at h
    · cases h
    · split at h
      · cases h
      · split at h
        · cases h
        · rename_i h1 h2 h3 h4
          injection h with h
          refine ⟨⟨by omega, by omega, by omega, by omega, by omega, by simpa using h3, by omega⟩, h.symm⟩
theorem head_eq (z n : Int) (R : List UInt8) : headT z n ++ R = (szW ++ (32 :: Lib.itoa z)) ++ 10 :: ((stW ++ (32 :: Lib.itoa n)) ++ 10 :: R) := by
  unfold headT
  simp only [List.append_assoc, List.cons_append, List.nil_append]
theorem line_s0 {z : Int} (h0 : 1 ≤ z) (h1 : z ≤ 65536) (rest : List UInt8) : lineS .s0 (szW ++ (32 :: Lib.itoa z)) rest = .inr (.s1 z, rest) := by
  obtain ⟨m, rfl⟩ : ∃ m : Nat, z = m := ⟨z.toNat, by omega⟩
  unfold lineS
  simp only [after_is szW m (by omega)]
  rw [if_neg (by omega)]
theorem line_s1 {z n : Int} (h0 : 0 ≤ n) (h1 : n ≤ 20000) (rest : List UInt8) : lineS (.s1 z) (stW ++ (32 :: Lib.itoa n)) rest = .inr (.s2 z n [], rest) := by
  obtain ⟨m, rfl⟩ : ∃ m : Nat, n = m := ⟨n.toNat, by omega⟩
  unfold lineS
  simp only [after_is stW m (by omega)]
  rw [if_neg (by omega)]
theorem line_pt {z n : Int} {pts : List V} {p : V} (h : fitsP p = true) {k : Nat} (h1 : 1 ≤ k) (hk : pts.length + k ≤ 4000) (rest : List UInt8) : lineS (.s2 z n pts) (lineT p k) rest = .inr (.s2 z n (pts ++ List.replicate k p), rest) := by
  unfold lineS
  dsimp only
  rw [if_neg (line_src h k)]
  simp only [line_told h k h1 (by omega)]
  rw [if_neg (by omega)]
theorem line_end {z n : Int} {pts : List V} {src : List UInt8} (h : src.length ≤ 8192) : lineS (.s2 z n pts) srW src = .inr (.done ⟨z, n, pts, src⟩, []) := by
  unfold lineS
  dsimp only
  rw [if_pos rfl, if_neg (by omega)]
theorem out_head {z n : Int} (h0 : 1 ≤ z) (h1 : z ≤ 65536) (g0 : 0 ≤ n) (g1 : n ≤ 20000) (R : List UInt8) : outS .s0 0 (headT z n ++ R) = outS (.s2 z n []) 2 R := by
  rw [head_eq, out_line .s0 0 _ _ _ _ (fun _ => by simp) (word_10 (by decide) (by omega)) (line_s0 h0 h1 _), out_line (.s1 z) 1 _ _ _ _ (fun _ => by simp) (word_10 (by decide) g0) (line_s1 g0 g1 _)]
/-- Points are read. -/
theorem out_body (z n : Int) (R : List UInt8) : ∀ (m : Nat) (l pts : List V) (a : Nat), l.length ≤ m → l.all fitsP = true → pts.length + l.length ≤ 4000 → ∃ a', outS (.s2 z n pts) a (bodyR 0 l ++ R) = outS (.s2 z n (pts ++ l)) a' R
  | _, [], pts, a, _, _, _ => ⟨a, by rw [List.append_nil]; rfl⟩
  | 0, p :: r, pts, a, h, _, _ => by simp at h
  | m + 1, p :: r, pts, a, h, hf, hl => by
    have hp : fitsP p = true := by rw [List.all_cons, Bool.and_eq_true] at hf; exact hf.1
    have h1 := aliF_pos p r
    have h2 := aliF_le (p :: r)
    have hs := ali_split (p :: r) p rfl
    have hb := bodyR_ali (p :: r) p 0 rfl
    rw [Nat.zero_add] at hb
    generalize aliF (p :: r) = A at h1 h2 hs hb
    have hlen : ((p :: r).drop A).length = (p :: r).length - A := List.length_drop
    have hfd : ((p :: r).drop A).all fitsP = true := by
      rw [List.all_eq_true] at hf ⊢
      exact fun q hq => hf q (List.mem_of_mem_drop hq)
    obtain ⟨a', ha⟩ := out_body z n R m ((p :: r).drop A) (pts ++ List.replicate A p) (a + 1) (by omega) hfd (by rw [List.length_append, List.length_replicate]; omega)
    refine ⟨a', ?_⟩
    rw [hb, List.append_assoc, List.cons_append, out_line (.s2 z n pts) a _ _ _ _ (fun _ => by simp) (line_10 hp A) (line_pt hp h1 (by omega) _), ha, List.append_assoc, ← hs]
theorem out_text {x : Sc} (h : GoodS x) : outS .s0 0 (textF x) = .ok x := by
  obtain ⟨z, n, pts, src⟩ := x
  unfold textF
  obtain ⟨a', ha⟩ := out_body z n (srW ++ (10 :: src)) _ pts [] 2 (Nat.le_refl _) h.fit (by have := h.len; simpa using this)
  rw [List.append_assoc, out_head h.z0 h.z1 h.n0 h.n1, ha, List.nil_append, out_line _ _ _ _ _ _ (fun _ => by simp) (by decide) (line_end h.src), outS_done]

/- How long. -/
theorem lt_pow_self (k : Nat) : k < 10 ^ k := Nat.lt_pow_self (by omega)
theorem itoa_len (m : Nat) : (Lib.itoa (m : Int)).length = Lib.nDigits m := by rw [itoa_nat, Lib.decDigits_length]
/-- What a line has besides its number of points. -/
theorem line_len {p : V} (h : fitsP p = true) : ∃ base, 4 ≤ base ∧ base ≤ 14 ∧ ∀ k : Nat, (lineT p k).length = base + (if 1 < k then 2 + Lib.nDigits k else 0) := by
  obtain ⟨r, hr, hmem, hkind, h0, hm, hT⟩ := fits_row h
  obtain ⟨_, _, _, _, h4, h7, _, _, hmost, hn4⟩ := rows_all r hmem
  refine ⟨r.word.length + (if r.num = true then 32 :: Lib.itoa p.2 else []).length, by omega, ?_, fun k => ?_⟩
  · split
    · rename_i hn
      have := hn4 hn
      obtain ⟨m, e, e2⟩ := itoa_pos h0
      have hm9 := nDigits_le 8 m (by omega)
      rw [e2, List.length_cons, Lib.decDigits_length]
      omega
    · simp; omega
  · rw [hT, List.length_append, List.length_append]
    by_cases hk : 1 < k
    · rw [if_pos hk, if_pos hk]; simp only [List.length_cons, itoa_len]; omega
    · rw [if_neg hk, if_neg hk]; simp
theorem body_le : ∀ (m : Nat) (l : List V), l.length ≤ m → l.all fitsP = true → (bodyR 0 l).length ≤ 15 * l.length
  | _, [], _, _ => by simp [bodyR]
  | 0, p :: r, h, _ => by simp at h
  | m + 1, p :: r, h, hf => by
    have hp : fitsP p = true := by rw [List.all_cons, Bool.and_eq_true] at hf; exact hf.1
    have h1 := aliF_pos p r
    have h2 := aliF_le (p :: r)
    have hb := bodyR_ali (p :: r) p 0 rfl
    rw [Nat.zero_add] at hb
    generalize aliF (p :: r) = A at h1 h2 hb
    have hlen : ((p :: r).drop A).length = (p :: r).length - A := List.length_drop
    have hfd : ((p :: r).drop A).all fitsP = true := by
      rw [List.all_eq_true] at hf ⊢
      exact fun q hq => hf q (List.mem_of_mem_drop hq)
    have ih := body_le m ((p :: r).drop A) (by omega) hfd
    obtain ⟨base, _, hb14, hlT⟩ := line_len hp
    rw [hb, List.length_append, List.length_cons, hlT A]
    have hd := nDigits_le (A - 1) A (by rw [show A - 1 + 1 = A by omega]; exact lt_pow_self A)
    split <;> omega
theorem head_len (z n : Int) (h0 : 0 ≤ z) (h1 : z ≤ 99999) (g0 : 0 ≤ n) (g1 : n ≤ 99999) : (headT z n).length ≤ 23 := by
  obtain ⟨a, rfl, e⟩ := itoa_pos h0
  obtain ⟨b, rfl, e2⟩ := itoa_pos g0
  unfold headT
  rw [e, e2]
  simp only [List.length_append, List.length_cons, List.length_nil, Lib.decDigits_length]
  have := nDigits_le 4 a (by omega)
  have := nDigits_le 4 b (by omega)
  omega
theorem text_len (x : Sc) : (textF x).length = (headT x.size x.steps).length + (bodyR 0 x.pts).length + 7 + x.src.length := by
  unfold textF
  simp only [List.length_append, List.length_cons, List.length_nil]
  omega
theorem text_le {x : Sc} (h : GoodS x) : (textF x).length ≤ 68222 := by
  rw [text_len]
  have := body_le _ x.pts (Nat.le_refl _) h.fit
  have := head_len x.size x.steps (by have := h.z0; omega) (by have := h.z1; omega) h.n0 (by have := h.n1; omega)
  have := h.len
  have := h.src
  omega
/-- P16.4: what is told is read. -/
theorem parse_text {x : Sc} (h : GoodS x) : parseF (textF x) = .ok x := by
  unfold parseF
  rw [if_neg (by have := text_le h; omega), out_text h]

/- Cut off. -/
theorem take_line (line rest : List UInt8) (c : Nat) : ((line ++ 10 :: rest).take c = line.take c ∧ c ≤ line.length) ∨ (line.length < c ∧ (line ++ 10 :: rest).take c = line ++ 10 :: rest.take (c - line.length - 1)) := by
  by_cases h : c ≤ line.length
  · exact .inl ⟨List.take_append_of_le_length h, h⟩
  · refine .inr ⟨by omega, ?_⟩
    rw [List.take_append, List.take_of_length_le (by omega)]
    congr 1
    obtain ⟨d, hd⟩ : ∃ d, c - line.length = d + 1 := ⟨c - line.length - 1, by omega⟩
    rw [hd, List.take_succ_cons]; rfl
theorem cut_body (z n : Int) (src : List UInt8) : ∀ (m : Nat) (l pts : List V) (a c : Nat), l.length ≤ m → l.all fitsP = true → pts.length + l.length ≤ 4000 → c < (bodyR 0 l).length + 7 → ∃ a', outS (.s2 z n pts) a ((bodyR 0 l ++ (srW ++ 10 :: src)).take c) = .err a' 6
  | _, [], pts, a, c, _, _, _, hc => by
    have hc' : c < 7 := by simpa [bodyR] using hc
    refine ⟨a, ?_⟩
    rw [show bodyR 0 [] = [] from rfl, List.nil_append]
    rcases take_line srW src c with ⟨e, _⟩ | ⟨h, _⟩
    · rw [e]; exact out_cut _ _ _ _ (fun _ => by simp) (by decide)
    · simp at h; omega
  | 0, p :: r, pts, a, c, h, _, _, _ => by simp at h
  | m + 1, p :: r, pts, a, c, h, hf, hl, hc => by
    have hp : fitsP p = true := by rw [List.all_cons, Bool.and_eq_true] at hf; exact hf.1
    have h1 := aliF_pos p r
    have h2 := aliF_le (p :: r)
    have hs := ali_split (p :: r) p rfl
    have hb := bodyR_ali (p :: r) p 0 rfl
    rw [Nat.zero_add] at hb
    generalize aliF (p :: r) = A at h1 h2 hs hb
    have hlen : ((p :: r).drop A).length = (p :: r).length - A := List.length_drop
    have hfd : ((p :: r).drop A).all fitsP = true := by
      rw [List.all_eq_true] at hf ⊢
      exact fun q hq => hf q (List.mem_of_mem_drop hq)
    rw [hb, List.append_assoc, List.cons_append]
    rw [hb, List.length_append, List.length_cons] at hc
    rcases take_line (lineT p A) (bodyR 0 ((p :: r).drop A) ++ (srW ++ 10 :: src)) c with ⟨e, _⟩ | ⟨hlt, e⟩
    · exact ⟨a, by rw [e]; exact out_cut _ _ _ _ (fun _ => by simp) (line_10 hp A)⟩
    · obtain ⟨a', ha⟩ := cut_body z n src m ((p :: r).drop A) (pts ++ List.replicate A p) (a + 1) (c - (lineT p A).length - 1) (by omega) hfd (by rw [List.length_append, List.length_replicate]; omega) (by omega)
      exact ⟨a', by rw [e, out_line (.s2 z n pts) a _ _ _ _ (fun _ => by simp) (line_10 hp A) (line_pt hp h1 (by omega) _), ha]⟩
/-- P16.5: cut off ahead of the source it is refused. -/
theorem parse_cut {x : Sc} (h : GoodS x) (c : Nat) (hc : c < (textF x).length - x.src.length) : ∃ a, parseF ((textF x).take c) = .err a 6 := by
  unfold parseF
  rw [if_neg (by have := text_le h; rw [List.length_take]; omega)]
  rw [text_len] at hc
  obtain ⟨z, n, pts, src⟩ := x
  dsimp only at hc
  unfold textF
  rw [List.append_assoc, head_eq]
  have hhl : (headT z n).length = (szW ++ (32 :: Lib.itoa z)).length + 1 + (stW ++ (32 :: Lib.itoa n)).length + 1 := by
    have := congrArg List.length (head_eq z n [])
    simp only [List.append_nil, List.length_append, List.length_cons, List.length_nil] at this ⊢
    omega
  have k0 := word_10 (w := szW) (by decide) (show 0 ≤ z by have := h.z0; dsimp only at this; omega)
  have k1 := word_10 (w := stW) (by decide) h.n0
  dsimp only
  rcases take_line (szW ++ (32 :: Lib.itoa z)) ((stW ++ (32 :: Lib.itoa n)) ++ 10 :: (bodyR 0 pts ++ (srW ++ 10 :: src))) c with ⟨e, _⟩ | ⟨h1, e⟩
  · exact ⟨0, by rw [e]; exact out_cut _ _ _ _ (fun _ => by simp) k0⟩
  · rw [e, out_line .s0 0 _ _ _ _ (fun _ => by simp) k0 (line_s0 h.z0 h.z1 _)]
    generalize hd : c - (szW ++ (32 :: Lib.itoa z)).length - 1 = d
    rcases take_line (stW ++ (32 :: Lib.itoa n)) (bodyR 0 pts ++ (srW ++ 10 :: src)) d with ⟨e, _⟩ | ⟨h2, e⟩
    · exact ⟨1, by rw [e]; exact out_cut _ _ _ _ (fun _ => by simp) k1⟩
    · rw [e, out_line (.s1 z) _ _ _ _ _ (fun _ => by simp) k1 (line_s1 h.n0 h.n1 _)]
      exact cut_body z n src _ pts [] _ _ (Nat.le_refl _) h.fit (by have := h.len; simpa using this) (by omega)
theorem text_src (x : Sc) (k : Nat) : (textF x).take ((textF x).length - x.src.length + k) = textF { x with src := x.src.take k } := by
  have e : textF x = (headT x.size x.steps ++ bodyR 0 x.pts ++ (srW ++ [10])) ++ x.src := by unfold textF; simp
  have hl : (textF x).length - x.src.length = (headT x.size x.steps ++ bodyR 0 x.pts ++ (srW ++ [10])).length := by rw [e, List.length_append]; omega
  rw [hl]
  conv => lhs; rw [e]
  rw [List.take_length_add_append]
  unfold textF
  simp
/-- The text of a point so many times. -/
theorem text_rep (p : V) (k : Nat) (h : 1 < k) : textF ⟨1, 0, List.replicate k p, []⟩ = headT 1 0 ++ lineT p 1 ++ (32 :: 120 :: Lib.itoa (k : Int)) ++ (10 :: (srW ++ [10])) := by
  unfold textF
  have hb := bodyR_ali (List.replicate k p) p 0 (by rw [List.head?_replicate, if_neg (by omega)])
  rw [Nat.zero_add, ali_rep, List.drop_of_length_le (by simp)] at hb
  dsimp only
  rw [hb]
  unfold lineT
  rw [if_pos h, if_neg (show ¬ (1 : Nat) < 1 by decide)]
  simp [bodyR]
end Go.Proofs.YtbhmgmbgplkkeaaDoor
