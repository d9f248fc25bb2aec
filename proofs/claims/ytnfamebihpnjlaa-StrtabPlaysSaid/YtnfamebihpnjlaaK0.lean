/- What it is for a row to be sorted: facts of functions alone. -/
import Derived.Test.YtnfamebihpnjlaaU1
namespace Go.Proofs.Ytnfamebihpnjlaa
open Go.RowKit
set_option linter.unusedSimpArgs false
set_option linter.unusedVariables false

/-- Two places of a function exchanged. -/
def sw (f : Nat → Int) (i j : Nat) : Nat → Int := fun k => if k = j then f i else if k = i then f j else f k
/-- In order between a and b. -/
def Srt (a b : Nat) (f : Nat → Int) : Prop := ∀ i j, a ≤ i → i < j → j < b → f i < f j
/-- Turned only between a and b, to values that stood there. -/
def Win (a b : Nat) (f0 f : Nat → Int) : Prop := (∀ k, k < a ∨ b ≤ k → f k = f0 k) ∧ ∀ k, a ≤ k → k < b → ∃ k', a ≤ k' ∧ k' < b ∧ f k = f0 k'
/-- The one ahead of a is below all up to b. -/
def Low (a b : Nat) (f : Nat → Int) : Prop := ∀ k, 0 < a → a ≤ k → k < b → f (a - 1) < f k

theorem Win.refl (a b : Nat) (f : Nat → Int) : Win a b f f := ⟨fun _ _ => rfl, fun k h1 h2 => ⟨k, h1, h2, rfl⟩⟩
theorem Win.trans {a b : Nat} {f g h : Nat → Int} (h1 : Win a b f g) (h2 : Win a b g h) : Win a b f h := by
  refine ⟨fun k hk => (h2.1 k hk).trans (h1.1 k hk), fun k ha hb => ?_⟩
  obtain ⟨k', x, y, e⟩ := h2.2 k ha hb
  obtain ⟨k'', x', y', e'⟩ := h1.2 k' x y
  exact ⟨k'', x', y', e.trans e'⟩
theorem Win.wide {a b a' b' : Nat} {f g : Nat → Int} (h : Win a b f g) (ha : a' ≤ a) (hb : b ≤ b') : Win a' b' f g := by
  refine ⟨fun k hk => h.1 k (by omega), fun k h1 h2 => ?_⟩
  by_cases hk : a ≤ k ∧ k < b
  · obtain ⟨k', x, y, e⟩ := h.2 k hk.1 hk.2
    exact ⟨k', by omega, by omega, e⟩
  · exact ⟨k, h1, h2, h.1 k (by omega)⟩
theorem Win.sw {a b i j : Nat} {f0 f : Nat → Int} (h : Win a b f0 f) (hi : a ≤ i) (hi' : i < b) (hj : a ≤ j) (hj' : j < b) : Win a b f0 (sw f i j) := by
  refine h.trans ⟨fun k hk => ?_, fun k h1 h2 => ?_⟩
  · unfold Go.Proofs.Ytnfamebihpnjlaa.sw; grind
  · unfold Go.Proofs.Ytnfamebihpnjlaa.sw
    by_cases e1 : k = j
    · exact ⟨i, hi, hi', by simp [e1]⟩
    · by_cases e2 : k = i
      · exact ⟨j, hj, hj', by rw [if_neg e1, if_pos e2]⟩
      · exact ⟨k, h1, h2, by simp [e1, e2]⟩
theorem Low.win {a b : Nat} {f g : Nat → Int} (h : Low a b f) (hw : Win a b f g) : Low a b g := by
  intro k h0 h1 h2
  obtain ⟨k', x, y, e⟩ := hw.2 k h1 h2
  rw [hw.1 (a - 1) (by omega), e]
  exact h k' h0 x y
theorem Low.sub {a b c : Nat} {f : Nat → Int} (h : Low a b f) (hc : c ≤ b) : Low a c f := fun k h0 h1 h2 => h k h0 h1 (by omega)

/-- An insertion under way: j has to go down. -/
def InsJ (a i j : Nat) (f : Nat → Int) : Prop := (∀ p q, a ≤ p → p < q → q ≤ i → p ≠ j → q ≠ j → f p < f q) ∧ (∀ q, j < q → q ≤ i → f j < f q)
theorem insJ_step {a i j : Nat} {f : Nat → Int} (h : InsJ a i (j+1) f) (hj : a ≤ j) (hji : j + 1 ≤ i) (hc : f (j+1) < f j) : InsJ a i j (sw f (j+1) j) := by
  obtain ⟨h1, h2⟩ := h
  constructor
  · intro p q; have := h1 p q; have := h1 j q; have := h1 p j; unfold sw; grind
  · intro q; have := h2 q; unfold sw; grind
theorem insJ_stop {a i j : Nat} {f : Nat → Int} (h : InsJ a i j f) (hj : a ≤ j) (hji : j ≤ i) (hc : j = a ∨ f (j-1) < f j) : Srt a (i+1) f := by
  obtain ⟨h1, h2⟩ := h
  intro p q; have := h1 p q; have := h1 p (j-1); have := h2 q; grind
theorem insJ_start {a i : Nat} {f : Nat → Int} (h : Srt a i f) : InsJ a i i f := by
  constructor
  · intro p q; have := h p q; grind
  · intro q; grind
theorem srt_small {a b : Nat} {f : Nat → Int} (h : b ≤ a + 1) : Srt a b f := by intro i j; omega
theorem Srt.sub {a b c : Nat} {f : Nat → Int} (h : Srt a b f) (hc : c ≤ b) : Srt a c f := fun i j h1 h2 h3 => h i j h1 h2 (by omega)
theorem srt_snoc {a i : Nat} {f : Nat → Int} (h : Srt a (i + 1) f) (hc : f i < f (i + 1)) : Srt a (i + 1 + 1) f := by
  intro p q h1 h2 h3
  by_cases e : q = i + 1
  · subst e
    by_cases e2 : p = i
    · rw [e2]; exact hc
    · exact Int.lt_trans (h p i h1 (by omega) (by omega)) hc
  · exact h p q h1 h2 (by omega)
theorem srt_off {a i j b : Nat} {f : Nat → Int} (h : Srt a b f) (hi : b ≤ i) (hj : b ≤ j) : Srt a b (sw f i j) := by
  intro p q h1 h2 h3
  have := h p q h1 h2 h3
  unfold sw
  rw [if_neg (by omega), if_neg (by omega), if_neg (by omega), if_neg (by omega)]; exact this

/-- A heap from lo up to hi, at a. -/
def Hp (a lo hi : Nat) (f : Nat → Int) : Prop := ∀ p, lo ≤ p → ∀ k, k = 2 * p + 1 ∨ k = 2 * p + 1 + 1 → k < hi → f (a + k) < f (a + p)
/-- A heap but for r, which has to go down. -/
def HpX (a lo hi r : Nat) (f : Nat → Int) : Prop :=
  (∀ p, lo ≤ p → p ≠ r → ∀ k, k = 2 * p + 1 ∨ k = 2 * p + 1 + 1 → k < hi → f (a + k) < f (a + p)) ∧
  (∀ p, lo ≤ p → (r = 2 * p + 1 ∨ r = 2 * p + 1 + 1) → ∀ k, k = 2 * r + 1 ∨ k = 2 * r + 1 + 1 → k < hi → f (a + k) < f (a + p))
theorem HpX.start {a lo hi : Nat} {f : Nat → Int} (h : Hp a (lo + 1) hi f) : HpX a lo hi lo f :=
  ⟨fun p h1 h2 k hk hh => h p (by omega) k hk hh, fun p h1 h2 => by omega⟩
theorem HpX.stop {a lo hi r : Nat} {f : Nat → Int} (h : HpX a lo hi r f) (hc : ∀ k, k = 2 * r + 1 ∨ k = 2 * r + 1 + 1 → k < hi → f (a + k) < f (a + r)) : Hp a lo hi f := by
  intro p hp k hk hh
  by_cases e : p = r
  · subst e; exact hc k hk hh
  · exact h.1 p hp e k hk hh
theorem HpX.step {a lo hi r c : Nat} {f : Nat → Int} (h : HpX a lo hi r f) (hr : lo ≤ r) (hcr : c = 2 * r + 1 ∨ c = 2 * r + 1 + 1) (hch : c < hi) (h1 : f (a + r) < f (a + c)) (h2 : ∀ k, k = 2 * r + 1 ∨ k = 2 * r + 1 + 1 → k < hi → k ≠ c → f (a + k) < f (a + c)) :
    HpX a lo hi c (sw f (a + r) (a + c)) := by
  have g1 : sw f (a + r) (a + c) (a + r) = f (a + c) := by unfold sw; rw [if_neg (by omega), if_pos rfl]
  have g2 : sw f (a + r) (a + c) (a + c) = f (a + r) := by unfold sw; rw [if_pos rfl]
  have g3 : ∀ k, k ≠ r → k ≠ c → sw f (a + r) (a + c) (a + k) = f (a + k) := fun k e1 e2 => by unfold sw; rw [if_neg (by omega), if_neg (by omega)]
  refine ⟨fun p hp hpc k hk hh => ?_, fun p hp hcp k hk hh => ?_⟩
  · by_cases e : p = r
    · subst e
      rw [g1]
      by_cases e2 : k = c
      · subst e2; rw [g2]; exact h1
      · rw [g3 k (by omega) e2]; exact h2 k hk hh e2
    · rw [g3 p e hpc]
      have hkc : k ≠ c := by omega
      by_cases e3 : k = r
      · subst e3
        rw [g1]
        exact h.2 p hp hk c hcr hch
      · rw [g3 k e3 hkc]
        exact h.1 p hp e k hk hh
  · obtain rfl : p = r := by omega
    rw [g1, g3 k (by omega) (by omega)]
    exact h.1 c (by omega) (by omega) k hk hh
theorem Hp.none {a hi lo : Nat} {f : Nat → Int} (h : hi ≤ 2 * lo + 1) : Hp a lo hi f := fun p hp k hk hh => by omega
theorem Hp.top {a hi : Nat} {f : Nat → Int} (h : Hp a 0 hi f) : ∀ k, 0 < k → k < hi → f (a + k) < f a := by
  intro k
  induction k using Nat.strongRecOn with
  | _ k ih =>
    intro h0 hh
    have hc := h ((k - 1) / 2) (by omega) k (by omega) hh
    by_cases e : (k - 1) / 2 = 0
    · rw [e] at hc; exact hc
    · exact Int.lt_trans hc (ih _ (by omega) (by omega) (by omega))
/-- The second half of a heap's sort: a heap of k, and what is behind it in order and above it. -/
def HS2 (a m k : Nat) (f : Nat → Int) : Prop := Hp a 0 k f ∧ Srt (a + k) (a + m) f ∧ ∀ p q, p < k → k ≤ q → q < m → f (a + p) < f (a + q)
/-- After the exchange. -/
def HS3 (a m k : Nat) (f : Nat → Int) : Prop := HpX a 0 k 0 f ∧ Srt (a + k) (a + m) f ∧ ∀ p q, p < k → k ≤ q → q < m → f (a + p) < f (a + q)
theorem HS2.swap {a m i : Nat} {f : Nat → Int} (h : HS2 a m (i + 1) f) (hi : i < m) : HS3 a m i (sw f a (a + i)) := by
  obtain ⟨h1, h2, h3⟩ := h
  have ht := h1.top
  have g1 : sw f a (a + i) a = f (a + i) := by unfold sw; by_cases e : i = 0 <;> simp [e]
  have g2 : sw f a (a + i) (a + i) = f a := by unfold sw; simp
  have g3 : ∀ k, 0 < k → k ≠ i → sw f a (a + i) (a + k) = f (a + k) := fun k e1 e2 => by unfold sw; rw [if_neg (by omega), if_neg (by omega)]
  have h30 := fun q => h3 0 q (by omega)
  refine ⟨⟨fun p _ hp k hk hh => ?_, fun p _ hp => by omega⟩, fun p q hp hpq hq => ?_, fun p q hp hq hq' => ?_⟩
  · rw [g3 p (by omega) (by omega), g3 k (by omega) (by omega)]
    exact h1 p (by omega) k hk (by omega)
  · obtain ⟨q', rfl⟩ : ∃ q', q = a + q' := ⟨q - a, by omega⟩
    obtain ⟨p', rfl⟩ : ∃ p', p = a + p' := ⟨p - a, by omega⟩
    rw [g3 q' (by omega) (by omega)]
    by_cases e : p' = i
    · subst e; rw [g2]; exact h30 q' (by omega) (by omega)
    · rw [g3 p' (by omega) (by omega)]; exact h2 _ _ (by omega) (by omega) (by omega)
  · have e0 : sw f a (a + i) (a + p) < f a ∨ (p = 0 ∧ i = 0) := by
      by_cases e : p = 0
      · subst e
        by_cases e2 : i = 0
        · exact Or.inr ⟨rfl, e2⟩
        · left; show sw f a (a + i) a < _; rw [g1]; exact ht i (by omega) (by omega)
      · left; rw [g3 p (by omega) (by omega)]; exact ht p (by omega) (by omega)
    have e1 : f a ≤ sw f a (a + i) (a + q) := by
      by_cases e : q = i
      · subst e; rw [g2]; omega
      · rw [g3 q (by omega) e]; exact Int.le_of_lt (h30 q (by omega) (by omega))
    omega
theorem HS3.sift {a m i : Nat} {f g : Nat → Int} (h : HS3 a m i f) (hi : i ≤ m) (hw : Win a (a + i) f g) (hg : Hp a 0 i g) : HS2 a m i g := by
  obtain ⟨h1, h2, h3⟩ := h
  refine ⟨hg, fun p q hp hpq hq => ?_, fun p q hp hq hq' => ?_⟩
  · rw [hw.1 p (by omega), hw.1 q (by omega)]; exact h2 p q hp hpq hq
  · rw [hw.1 (a + q) (by omega)]
    obtain ⟨k', x, y, e⟩ := hw.2 (a + p) (by omega) (by omega)
    obtain ⟨k, rfl⟩ : ∃ k, k' = a + k := ⟨k' - a, by omega⟩
    rw [e]; exact h3 k q (by omega) hq hq'

/-- A partition under way: what is ahead of i is below the first, what is behind j is above it. -/
def Par (a b i j : Nat) (f : Nat → Int) : Prop := (∀ k, a < k → k < i → f k < f a) ∧ ∀ k, j < k → k < b → f a < f k
theorem Par.start (a b : Nat) (f : Nat → Int) : Par a b (a + 1) (b - 1) f := ⟨fun k => by omega, fun k => by omega⟩
theorem Par.up {a b i j : Nat} {f : Nat → Int} (h : Par a b i j f) (hc : f i < f a) : Par a b (i + 1) j f :=
  ⟨fun k h1 h2 => if e : k = i then e ▸ hc else h.1 k h1 (by omega), h.2⟩
theorem Par.down {a b i j : Nat} {f : Nat → Int} (h : Par a b i (j + 1) f) (hc : f a < f (j + 1)) : Par a b i j f :=
  ⟨h.1, fun k h1 h2 => if e : k = j + 1 then e ▸ hc else h.2 k (by omega) h2⟩
theorem Par.turn {a b i j : Nat} {f : Nat → Int} (h : Par a b i (j + 1) f) (hi : a < i) (hij : i ≤ j + 1) (hc : f (j + 1) < f a) (hd : f a < f i) : Par a b (i + 1) j (sw f i (j + 1)) := by
  have hne : i ≠ j + 1 := fun e => by rw [e] at hd; omega
  have g0 : sw f i (j + 1) a = f a := by unfold sw; rw [if_neg (by omega), if_neg (by omega)]
  have g1 : sw f i (j + 1) i = f (j + 1) := by unfold sw; rw [if_neg (by omega), if_pos rfl]
  have g2 : sw f i (j + 1) (j + 1) = f i := by unfold sw; rw [if_pos rfl]
  have g3 : ∀ k, k ≠ i → k ≠ j + 1 → sw f i (j + 1) k = f k := fun k e1 e2 => by unfold sw; rw [if_neg (by omega), if_neg (by omega)]
  refine ⟨fun k h1 h2 => ?_, fun k h1 h2 => ?_⟩
  · rw [g0]
    by_cases e : k = i
    · rw [e, g1]; exact hc
    · rw [g3 k e (by omega)]; exact h.1 k h1 (by omega)
  · rw [g0]
    by_cases e : k = j + 1
    · rw [e, g2]; exact hd
    · rw [g3 k (by omega) e]; exact h.2 k (by omega) h2
/-- Parted at m. -/
def Mid (a b m : Nat) (f : Nat → Int) : Prop := (∀ k, a ≤ k → k < m → f k < f m) ∧ ∀ k, m < k → k < b → f m < f k
theorem Par.stop {a b i j : Nat} {f : Nat → Int} (h : Par a b i j f) (ha : a ≤ j) (hij : j < i) : Mid a b j (sw f j a) := by
  have g1 : sw f j a j = f a := by unfold sw; by_cases e : j = a <;> simp [e]
  have g2 : sw f j a a = f j := by unfold sw; simp
  have g3 : ∀ k, k ≠ j → k ≠ a → sw f j a k = f k := fun k e1 e2 => by unfold sw; rw [if_neg (by omega), if_neg (by omega)]
  refine ⟨fun k h1 h2 => ?_, fun k h1 h2 => ?_⟩
  · rw [g1]
    by_cases e : k = a
    · rw [e, g2]; exact h.1 j (by omega) (by omega)
    · rw [g3 k (by omega) e]; exact h.1 k (by omega) (by omega)
  · rw [g1, g3 k (by omega) (by omega)]; exact h.2 k h1 h2
/-- Whatever sorts between a' and b' from f sorts the whole from f0. -/
def Leads (a b a' b' : Nat) (f0 f : Nat → Int) : Prop := Low a' b' f ∧ ∀ f', Win a' b' f f' → Srt a' b' f' → Win a b f0 f' ∧ Srt a b f'
theorem Leads.start {a b : Nat} {f0 : Nat → Int} (h : Low a b f0) : Leads a b a b f0 f0 := ⟨h, fun _ h1 h2 => ⟨h1, h2⟩⟩
theorem Leads.win {a b a' b' : Nat} {f0 f g : Nat → Int} (h : Leads a b a' b' f0 f) (hw : Win a' b' f g) : Leads a b a' b' f0 g :=
  ⟨h.1.win hw, fun f' h1 h2 => h.2 f' (hw.trans h1) h2⟩
/-- The left half has been sorted. -/
theorem Leads.left {a b a' b' m : Nat} {f0 f g : Nat → Int} (h : Leads a b a' b' f0 f) (ha : a' ≤ m) (hb : m < b') (hm : Mid a' b' m f) (hw : Win a' m f g) (hs : Srt a' m g) : Leads a b (m + 1) b' f0 g := by
  have e1 : ∀ k, m ≤ k → g k = f k := fun k hk => hw.1 k (Or.inr hk)
  refine ⟨fun k h0 h1 h2 => ?_, fun f' h1 h2 => ?_⟩
  · rw [Nat.add_sub_cancel, e1 m (by omega), e1 k (by omega)]; exact hm.2 k (by omega) h2
  · have e2 : ∀ k, k ≤ m → f' k = g k := fun k hk => h1.1 k (Or.inl (by omega))
    refine h.2 f' ((hw.wide (by omega) (by omega)).trans (h1.wide (by omega) (by omega))) fun p q hp hpq hq => ?_
    have below : ∀ k, a' ≤ k → k < m → f' k < f m := fun k x y => by
      rw [e2 k (by omega)]
      obtain ⟨k', x', y', e⟩ := hw.2 k x y
      rw [e]; exact hm.1 k' x' y'
    have above : ∀ k, m < k → k < b' → f m < f' k := fun k x y => by
      obtain ⟨k', x', y', e⟩ := h1.2 k (by omega) y
      rw [e, e1 k' (by omega)]; exact hm.2 k' (by omega) y'
    have mid : f' m = f m := (e2 m (by omega)).trans (e1 m (by omega))
    by_cases c1 : q < m
    · rw [e2 p (by omega), e2 q (by omega)]; exact hs p q hp hpq c1
    · by_cases c2 : q = m
      · rw [c2, mid]; exact below p hp (by omega)
      · have hq2 := above q (by omega) hq
        by_cases c3 : p < m
        · exact Int.lt_trans (below p hp c3) hq2
        · by_cases c4 : p = m
          · rw [c4, mid]; exact hq2
          · exact h2 p q (by omega) hpq hq
/-- The right half has been sorted. -/
theorem Leads.right {a b a' b' m : Nat} {f0 f g : Nat → Int} (h : Leads a b a' b' f0 f) (ha : a' ≤ m) (hb : m < b') (hm : Mid a' b' m f) (hw : Win (m + 1) b' f g) (hs : Srt (m + 1) b' g) : Leads a b a' m f0 g := by
  have e1 : ∀ k, k ≤ m → g k = f k := fun k hk => hw.1 k (Or.inl (by omega))
  refine ⟨fun k h0 h1 h2 => ?_, fun f' h1 h2 => ?_⟩
  · rw [e1 _ (by omega), e1 k (by omega)]; exact h.1 k h0 h1 (by omega)
  · have e2 : ∀ k, m ≤ k → f' k = g k := fun k hk => h1.1 k (Or.inr hk)
    refine h.2 f' ((hw.wide (by omega) (by omega)).trans (h1.wide (by omega) (by omega))) fun p q hp hpq hq => ?_
    have below : ∀ k, a' ≤ k → k < m → f' k < f m := fun k x y => by
      obtain ⟨k', x', y', e⟩ := h1.2 k x y
      rw [e, e1 k' (by omega)]; exact hm.1 k' x' y'
    have above : ∀ k, m < k → k < b' → f m < f' k := fun k x y => by
      rw [e2 k (by omega)]
      obtain ⟨k', x', y', e⟩ := hw.2 k (by omega) y
      rw [e]; exact hm.2 k' (by omega) y'
    have mid : f' m = f m := (e2 m (by omega)).trans (e1 m (by omega))
    by_cases c1 : q < m
    · exact h2 p q hp hpq c1
    · by_cases c2 : q = m
      · rw [c2, mid]; exact below p hp (by omega)
      · have hq2 := above q (by omega) hq
        by_cases c3 : p < m
        · exact Int.lt_trans (below p hp c3) hq2
        · by_cases c4 : p = m
          · rw [c4, mid]; exact hq2
          · rw [e2 p (by omega), e2 q (by omega)]; exact hs p q (by omega) hpq hq

/-- A row's keys. -/
def fk (K : Int → Int) (l : List Int) : Nat → Int := fun k => K (at' l k)
theorem fk_swp (K : Int → Int) (l : List Int) {i j : Nat} (hi : i < l.length) (hj : j < l.length) : fk K (swp l i j) = sw (fk K l) i j := by
  funext k
  unfold fk sw swp at'
  simp only [List.getD_eq_getElem?_getD, List.getElem?_set, List.length_set]
  grind
theorem fk_ne {K : Int → Int} {l : List Int} (h : (l.map K).Nodup) {i j : Nat} (hi : i < l.length) (hj : j < l.length) (hne : i ≠ j) : fk K l i ≠ fk K l j := by
  unfold fk at'
  rw [List.getD_eq_getElem?_getD, List.getD_eq_getElem?_getD, List.getElem?_eq_getElem hi, List.getElem?_eq_getElem hj]
  intro e
  apply hne
  exact (List.getElem_inj (h₀ := by simpa using hi) (h₁ := by simpa using hj) h).1 (by simpa using e)

theorem hid {p : Prop} (h : p) : Hid p := h
/-- A world of the sort's whose row's keys have P. -/
def SRP (w0 : World) (g cap : Nat) (l0 : List Int) (K : Int → Int) (w : World) (P : (Nat → Int) → Prop) : Prop := ∃ l, SR w0 g cap l0 l w ∧ P (fk K l)
/-- What the sort asks: the comparison is by keys, and these are apart. -/
structure CtxK (w0 : World) (g A : Nat) (l0 : List Int) (cf : Int → Int → Int) (K : Int → Int) : Prop extends Ctx w0 g A l0 cf where
  key : ∀ x y, cf x y < 0 ↔ K x < K y
  nodup : (l0.map K).Nodup
section
variable {w0 w : World} {g cap A : Nat} {l0 : List Int} {cf : Int → Int → Int} {K : Int → Int} {P : (Nat → Int) → Prop}
theorem SRP.mono (h : SRP w0 g cap l0 K w P) {Q : (Nat → Int) → Prop} (hq : ∀ f, P f → Q f) : SRP w0 g cap l0 K w Q := by
  obtain ⟨l, h1, h2⟩ := h
  exact ⟨l, h1, hq _ h2⟩
theorem SRP.no (h : SRP w0 g cap l0 K w P) (hq : ∀ f, P f → False) : False := by
  obtain ⟨l, h1, h2⟩ := h
  exact hq _ h2
theorem SRP.drew (h : SRP w0 g cap l0 K w P) : SRP w0 g cap l0 K w.drew P := by
  obtain ⟨l, h1, h2⟩ := h
  exact ⟨l, h1.drew, h2⟩
theorem SRP.drewN (h : SRP w0 g cap l0 K w P) (n : Nat) : SRP w0 g cap l0 K (w.drewN n) P := by
  obtain ⟨l, h1, h2⟩ := h
  exact ⟨l, h1.drewN n, h2⟩
/-- The keys as they stand. -/
theorem SRP.at (h : SRP w0 g cap l0 K w P) : ∃ f, Hid (P f) ∧ Hid (SRP w0 g cap l0 K w (fun f' => f' = f)) := by
  obtain ⟨l, h1, h2⟩ := h
  exact ⟨_, h2, l, h1, rfl⟩
theorem SRP.swaps (h : SRP w0 g cap l0 K w P) {i j : Nat} (hi : i < l0.length) (hj : j < l0.length) : ∃ x y u, w.cell? ⟨g, i, none⟩ = some (.int .i64 x) ∧ w.cell? ⟨g, j, none⟩ = some (.int .i64 y) ∧ w.frozen? ⟨g, i, none⟩ = false ∧ w.frozen? ⟨g, j, none⟩ = false ∧
    (w.setCell ⟨g, i, none⟩ (.int .i64 y)).cell? ⟨g, j, none⟩ = some u ∧ Hid (SRP w0 g cap l0 K ((w.setCell ⟨g, i, none⟩ (.int .i64 y)).setCell ⟨g, j, none⟩ (.int .i64 x)).drew (fun f => ∃ f', P f' ∧ f = sw f' i j)) := by
  obtain ⟨l, h1, h2⟩ := h
  have hr := (h1.row.set i (at' l j)).cell (i := j) (by rw [List.length_set, h1.len]; exact hj)
  exact ⟨_, _, _, h1.cell hi, h1.cell hj, h1.frozen i, h1.frozen j, hr, ⟨_, (h1.swap hi hj).drew, _, h2, fk_swp K l (by rw [h1.len]; exact hi) (by rw [h1.len]; exact hj)⟩⟩
theorem SRP.test (h : SRP w0 g cap l0 K w P) (X : CtxK w0 g A l0 cf K) {i j : Nat} (hi : i < l0.length) (hj : j < l0.length) (hne : i ≠ j) : ∃ x y, w.cell? ⟨g, i, none⟩ = some (.int .i64 x) ∧ w.cell? ⟨g, j, none⟩ = some (.int .i64 y) ∧
    Hid (∀ n, Calls Try.prog 48 #[.pointer (some ⟨A, 0, none⟩), .int .i64 x, .int .i64 y] (w.drewN n) fun e w' => e = .returned (.int .i64 (cf x y)) ∧ ∃ m, w' = w.drewN m) ∧
    Hid ((cf x y < 0 → ∀ n, SRP w0 g cap l0 K (w.drewN n) (fun f => P f ∧ f i < f j)) ∧ (¬ cf x y < 0 → ∀ n, SRP w0 g cap l0 K (w.drewN n) (fun f => P f ∧ f j < f i))) := by
  obtain ⟨l, h1, h2⟩ := h
  refine ⟨_, _, h1.cell hi, h1.cell hj, h1.cmp X.toCtx hi hj, fun hc n => ⟨l, h1.drewN n, h2, (X.key _ _).1 hc⟩, fun hc n => ⟨l, h1.drewN n, h2, ?_⟩⟩
  have hn : ((l.map K)).Nodup := (h1.perm.map K).nodup_iff.2 X.nodup
  have := fk_ne hn (by rw [h1.len]; exact hi) (by rw [h1.len]; exact hj) hne
  have h3 : ¬ fk K l i < fk K l j := fun e => hc ((X.key _ _).2 e)
  omega
end
end Go.Proofs.Ytnfamebihpnjlaa
