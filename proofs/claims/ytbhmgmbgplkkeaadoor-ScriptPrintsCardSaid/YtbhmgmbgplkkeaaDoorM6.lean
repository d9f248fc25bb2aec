/- A text that is read is a scene that may be, and its own text is no longer. -/
import Derived.Test.YtbhmgmbgplkkeaaDoorM5
namespace Go.Proofs.YtbhmgmbgplkkeaaDoor
open Go.RowKit
set_option linter.unusedSimpArgs false
set_option linter.unusedVariables false

theorem nd_add (a b : Nat) : Lib.nDigits (a + b) ≤ Lib.nDigits a + Lib.nDigits b := by
  have h1 := Lib.lt_pow_nDigits a
  have h2 := Lib.lt_pow_nDigits b
  have p1 := Lib.nDigits_pos a
  have p2 := Lib.nDigits_pos b
  have q1 : 10 ^ 1 ≤ 10 ^ Lib.nDigits a := Nat.pow_le_pow_right (by omega) p1
  have q2 : 10 ^ 1 ≤ 10 ^ Lib.nDigits b := Nat.pow_le_pow_right (by omega) p2
  have := nDigits_le (Lib.nDigits a + Lib.nDigits b - 1) (a + b) (by
    rw [show Lib.nDigits a + Lib.nDigits b - 1 + 1 = Lib.nDigits a + Lib.nDigits b by omega, Nat.pow_add]
    generalize 10 ^ Lib.nDigits a = x at h1 q1 ⊢
    generalize 10 ^ Lib.nDigits b = y at h2 q2 ⊢
    have m1 : x * 10 ≤ x * y := Nat.mul_le_mul_left x (by omega)
    have m2 : 10 * y ≤ x * y := Nat.mul_le_mul_right y (by omega)
    omega)
  omega
theorem line_sub {p : V} (h : fitsP p = true) (a b : Nat) (ha : 1 ≤ a) (hb : 1 ≤ b) : (lineT p (a + b)).length ≤ (lineT p a).length + 1 + (lineT p b).length := by
  obtain ⟨base, h4, _, hT⟩ := line_len h
  rw [hT, hT, hT, if_pos (show 1 < a + b by omega)]
  have := nd_add a b
  by_cases h1 : 1 < a <;> by_cases h2 : 1 < b
  · rw [if_pos h1, if_pos h2]; omega
  · rw [if_pos h1, if_neg h2]
    obtain rfl : b = 1 := by omega
    have : Lib.nDigits 1 = 1 := Lib.nDigits_small (by omega)
    omega
  · rw [if_neg h1, if_pos h2]
    obtain rfl : a = 1 := by omega
    have : Lib.nDigits 1 = 1 := Lib.nDigits_small (by omega)
    omega
  · rw [if_neg h1, if_neg h2]
    obtain rfl : a = 1 := by omega
    obtain rfl : b = 1 := by omega
    have : Lib.nDigits 1 = 1 := Lib.nDigits_small (by omega)
    omega
theorem body_app : ∀ (a b : List V) (n : Nat), a ≠ [] → (∀ p ∈ a, fitsP p = true) → (bodyR n (a ++ b)).length ≤ (bodyR n a).length + (bodyR 0 b).length
  | [], _, _, h, _ => absurd rfl h
  | [p], b, n, _, hf => by
    have hp := hf p List.mem_cons_self
    have e1 : (bodyR n [p]).length = (lineT p (n + 1)).length + 1 := by
      rw [bodyR, if_neg (by simp)]; simp [bodyR]
    rw [e1, List.singleton_append]
    by_cases hb : b.head? = some p
    · have e2 := bodyR_ali b p 0 hb
      have e3 := bodyR_ali b p (n + 1) hb
      have hap : 1 ≤ aliF b := by
        cases b with
        | nil => cases hb
        | cons q r => exact aliF_pos q r
      rw [bodyR, if_pos hb, e3, e2]
      rw [Nat.zero_add]
      simp only [List.length_append, List.length_cons]
      have := line_sub hp (n + 1) (aliF b) (by omega) hap
      omega
    · rw [bodyR, if_neg hb]
      simp only [List.length_append, List.length_cons]
      omega
  | p :: q :: r, b, n, _, hf => by
    have ih1 := body_app (q :: r) b (n + 1) (by simp) (fun x hx => hf x (List.mem_cons_of_mem _ hx))
    have ih2 := body_app (q :: r) b 0 (by simp) (fun x hx => hf x (List.mem_cons_of_mem _ hx))
    rw [List.cons_append, List.cons_append] at *
    rw [bodyR, bodyR.eq_2 n p (q :: r)]
    by_cases hq : q = p
    · rw [if_pos (by rw [hq]; rfl), if_pos (by rw [hq]; rfl)]
      exact ih1
    · have h1 : ¬ (q :: (r ++ b)).head? = some p := fun e => hq (by injection e)
      have h2 : ¬ (q :: r).head? = some p := fun e => hq (by injection e)
      rw [if_neg h1, if_neg h2]
      simp only [List.length_append, List.length_cons] at ih2 ⊢
      omega
theorem body_rep (p : V) (k : Nat) (h : 1 ≤ k) : (bodyR 0 (List.replicate k p)).length = (lineT p k).length + 1 := by
  have hb := bodyR_ali (List.replicate k p) p 0 (by rw [List.head?_replicate, if_neg (by omega)])
  rw [Nat.zero_add, ali_rep, List.drop_of_length_le (by simp)] at hb
  rw [hb, List.length_append, List.length_cons]; rfl
theorem fits_of {r : Row} {n : Int} (hm : r ∈ rowsL) (h0 : 0 ≤ n) (h1 : n ≤ r.most) : fitsP (r.kind, n) = true := by
  unfold fitsP
  rw [(rows_all r hm).2.1]
  simp [h0, h1]
theorem lineT_of {r : Row} (hm : r ∈ rowsL) (n : Int) (k : Nat) : lineT (r.kind, n) k = r.word ++ ((if r.num = true then 32 :: Lib.itoa n else []) ++ (if 1 < k then 32 :: 120 :: Lib.itoa (k : Int) else [])) := by
  unfold lineT
  rw [(rows_all r hm).2.1]; rfl
/-- A point read. -/
theorem pt_good {l : List UInt8} {p : V} (h : ptP l = some p) : fitsP p = true ∧ (lineT p 1).length ≤ l.length := by
  unfold ptP at h
  split at h
  · rename_i w d hc
    have hl := congrArg List.length (cutO_some _ _ _ _ hc)
    simp only [List.length_append, List.length_cons, List.length_nil] at hl
    split at h
    · rename_i r hr
      obtain ⟨hm, hw⟩ := rowW_mem hr
      split at h
      · rename_i hn
        split at h
        · rename_i m hd
          split at h
          · cases h
          · injection h with h
            subst h
            refine ⟨fits_of hm (by omega) (by omega), ?_⟩
            rw [lineT_of hm, if_pos hn, if_neg (by omega), itoa_nat]
            have := dec_le hd
            simp only [List.length_append, List.length_cons, List.length_nil, hw]
            omega
        · cases h
      · cases h
    · cases h
  · split at h
    · rename_i r hr
      obtain ⟨hm, hw⟩ := rowW_mem hr
      split at h
      · cases h
      · rename_i hn
        injection h with h
        subst h
        have h0 := (rows_all r hm).2.2.2.2.2.2.2.1 (by simpa using hn)
        refine ⟨fits_of hm (by omega) (by omega), ?_⟩
        rw [lineT_of hm, if_neg hn, if_neg (by omega)]
        simp [hw]
    · cases h
theorem line_good {l : List UInt8} {p : V} {k : Nat} (h : lineF l = some (p, k)) : fitsP p = true ∧ 1 ≤ k ∧ (lineT p k).length ≤ l.length := by
  unfold lineF at h
  split at h
  · rename_i told t hc
    have hl := congrArg List.length (cutO_some _ _ _ _ hc)
    simp only [List.length_append, List.length_cons, List.length_nil] at hl
    split at h
    · rename_i m hm
      split at h
      · cases h
      · obtain ⟨q, hq, e⟩ := Option.map_eq_some_iff.1 h
        injection e with e1 e2
        subst e1 e2
        obtain ⟨hf, hle⟩ := pt_good hq
        refine ⟨hf, by omega, ?_⟩
        obtain ⟨base, _, _, hT⟩ := line_len hf
        rw [hT, if_neg (by omega)] at hle
        rw [hT, if_pos (by omega)]
        have := dec_le hm
        rw [Lib.decDigits_length] at this
        have : bx.length = 2 := rfl
        omega
    · cases h
  · obtain ⟨q, hq, e⟩ := Option.map_eq_some_iff.1 h
    injection e with e1 e2
    subst e1 e2
    obtain ⟨hf, hle⟩ := pt_good hq
    exact ⟨hf, by omega, hle⟩
theorem after_len {w l : List UInt8} {m : Nat} (h : afterF w l = some m) : w.length + 1 + Lib.nDigits m ≤ l.length := by
  unfold afterF at h
  split at h
  · have := dec_le h
    rw [Lib.decDigits_length, List.length_drop] at this
    have := Lib.nDigits_pos m
    omega
  · cases h

def tS : St → Nat
  | .s0 => 0
  | .s1 z => 6 + (Lib.itoa z).length
  | .s2 z n pts => (headT z n).length + (bodyR 0 pts).length
  | .done x => (textF x).length
def goodSt : St → Prop
  | .s0 => True
  | .s1 z => 1 ≤ z ∧ z ≤ 65536
  | .s2 z n pts => (1 ≤ z ∧ z ≤ 65536) ∧ (0 ≤ n ∧ n ≤ 20000) ∧ pts.length ≤ 4000 ∧ pts.all fitsP = true
  | .done x => GoodS x
theorem head_is (z n : Int) : (headT z n).length = 13 + (Lib.itoa z).length + (Lib.itoa n).length := by
  unfold headT
  simp only [List.length_append, List.length_cons, List.length_nil]
  omega
theorem line_step {st : St} {line rest : List UInt8} {st' : St} {l' : List UInt8} (h : lineS st line rest = .inr (st', l')) (hg : goodSt st) : goodSt st' ∧ tS st' + l'.length ≤ tS st + line.length + 1 + rest.length := by
  unfold lineS at h
  split at h
  · split at h
    · cases h
    · rename_i m hm
      split at h
      · cases h
      · injection h with h
        obtain ⟨rfl, rfl⟩ := Prod.mk.inj h
        have := after_len hm
        refine ⟨⟨by omega, by omega⟩, ?_⟩
        simp only [tS, itoa_len]
        simp only [List.length_cons, List.length_nil] at this
        omega
  · rename_i z
    split at h
    · cases h
    · rename_i m hm
      split at h
      · cases h
      · injection h with h
        obtain ⟨rfl, rfl⟩ := Prod.mk.inj h
        have := after_len hm
        refine ⟨⟨hg, ⟨by omega, by omega⟩, by simp, rfl⟩, ?_⟩
        simp only [tS, head_is, itoa_len, bodyR]
        simp only [List.length_cons, List.length_nil] at this ⊢
        omega
  · rename_i z n pts
    obtain ⟨hz, hn, hl, hf⟩ := hg
    split at h
    · rename_i he
      split at h
      · cases h
      · injection h with h
        obtain ⟨rfl, rfl⟩ := Prod.mk.inj h
        refine ⟨⟨hz.1, hz.2, hn.1, hn.2, hl, hf, by dsimp only; omega⟩, ?_⟩
        simp only [tS, text_len, he, List.length_cons, List.length_nil]
        omega
    · split at h
      · cases h
      · rename_i p k hk
        split at h
        · cases h
        · injection h with h
          obtain ⟨rfl, rfl⟩ := Prod.mk.inj h
          obtain ⟨hp, h1, hlen⟩ := line_good hk
          refine ⟨⟨hz, hn, by rw [List.length_append, List.length_replicate]; omega, ?_⟩, ?_⟩
          · rw [List.all_append, hf, Bool.true_and, List.all_eq_true]
            intro q hq
            rw [List.eq_of_mem_replicate hq]; exact hp
          · simp only [tS]
            have hb := body_rep p k h1
            by_cases hpt : pts = []
            · subst hpt
              rw [List.nil_append, hb]; omega
            · have := body_app pts (List.replicate k p) 0 hpt (fun q hq => List.all_eq_true.1 hf q hq)
              omega
  · cases h
theorem step_good {st : St} {l : List UInt8} {st' : St} {l' : List UInt8} (h : stepS st l = .inr (st', l')) (hg : goodSt st) : goodSt st' ∧ tS st' + l'.length ≤ tS st + l.length := by
  unfold stepS at h
  split at h
  · cases h
  · rename_i line rest hc
    have hl := congrArg List.length (cutO_some _ _ _ _ hc)
    simp only [List.length_append, List.length_cons, List.length_nil] at hl
    obtain ⟨h1, h2⟩ := line_step h hg
    exact ⟨h1, by omega⟩
theorem out_good : ∀ (m : Nat) (st : St) (a : Nat) (l : List UInt8) (x : Sc), l.length ≤ m → outS st a l = .ok x → goodSt st → GoodS x ∧ (textF x).length ≤ tS st + l.length := by
  intro m
  induction m with
  | zero =>
    intro st a l x hl h hg
    by_cases hd : ∃ y, st = .done y
    · obtain ⟨y, rfl⟩ := hd
      rw [outS_done] at h
      injection h with h
      subst h
      exact ⟨hg, by simp only [tS]; omega⟩
    · have hd' : ∀ y, st ≠ .done y := fun y e => hd ⟨y, e⟩
      have : l = [] := List.length_eq_zero_iff.1 (by omega)
      subst this
      rw [outS_err st a [] 6 hd' (by rfl)] at h
      cases h
  | succ m ih =>
    intro st a l x hl h hg
    by_cases hd : ∃ y, st = .done y
    · obtain ⟨y, rfl⟩ := hd
      rw [outS_done] at h
      injection h with h
      subst h
      exact ⟨hg, by simp only [tS]; omega⟩
    · have hd' : ∀ y, st ≠ .done y := fun y e => hd ⟨y, e⟩
      cases hs : stepS st l with
      | inl e => rw [outS_err st a l e hd' hs] at h; cases h
      | inr q =>
        obtain ⟨st', l'⟩ := q
        have hlt := stepS_lt st l st' l' hs
        obtain ⟨g1, g2⟩ := step_good hs hg
        rw [outS_go st a l st' l' hd' hs] at h
        obtain ⟨r1, r2⟩ := ih st' (a + 1) l' x (by omega) h g1
        exact ⟨r1, by omega⟩
/-- What is read may be; its text is no longer. -/
theorem parse_good {l : List UInt8} {x : Sc} (h : parseF l = .ok x) : GoodS x ∧ (textF x).length ≤ l.length := by
  unfold parseF at h
  split at h
  · cases h
  · obtain ⟨h1, h2⟩ := out_good _ .s0 0 l x (Nat.le_refl _) h trivial
    exact ⟨h1, by simpa [tS] using h2⟩
end Go.Proofs.YtbhmgmbgplkkeaaDoor
