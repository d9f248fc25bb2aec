/- TextPlain, walked. -/
import Derived.Test.YtinhfgpcgbnhdaaT6
namespace Go.Proofs.Ytinhfgpcgbnhdaa
open Go.RowKit

theorem dg_bd (n : Nat) (h : n < 16) : 48 ≤ dg n ∧ dg n ≤ 102 ∧ dg n ≠ 92 := by unfold dg; split <;> omega

/-- A byte of a quote's inside may stand there: it is printable, no mark, and a backslash has an x behind it. -/
def okAt (l : List Nat) (i : Nat) : Prop := 32 ≤ l.getD i 0 ∧ l.getD i 0 ≤ 126 ∧ l.getD i 0 ≠ 34 ∧ (l.getD i 0 = 92 → l.getD (i + 1) 0 = 120)

theorem qin_ok (l : List Nat) (hl : ∀ a ∈ l, a < 256) (r : List Nat) : ∀ i, i < (qin l).length → okAt (qin l ++ r) i := by
  induction l with
  | nil => intro i hi; simp [qin] at hi
  | cons a l ih =>
    intro i hi
    have ha := hl a (by simp)
    have ih' := ih (fun b hb => hl b (by simp [hb]))
    have e : qin (a :: l) = qb a ++ qin l := by simp [qin]
    rw [e] at hi ⊢
    rw [List.append_assoc]
    by_cases h : i < (qb a).length
    · rcases pl_cases a with ⟨h1, hp⟩ | ⟨h1, h1', hp⟩ | ⟨h1, hp⟩ | ⟨h1, hp⟩ | ⟨h1, h2, h3, h4, hp⟩
      case inr.inr.inr.inr =>
        rw [qb_plain hp] at h ⊢
        have : i = 0 := by simpa using h
        subst this
        exact ⟨h1, h2, h3, fun h => absurd h h4⟩
      all_goals
        rw [qb_hex hp] at h ⊢
        have d1 := dg_bd (a / 16) (by omega)
        have d2 := dg_bd (a % 16) (by omega)
        have hi4 : i < 4 := by simpa using h
        rcases (show i = 0 ∨ i = 1 ∨ i = 2 ∨ i = 3 by omega) with rfl | rfl | rfl | rfl
        · show 32 ≤ 92 ∧ 92 ≤ 126 ∧ 92 ≠ 34 ∧ (92 = 92 → 120 = 120); decide
        · simp only [okAt, List.cons_append, List.nil_append, List.getD_cons_succ, List.getD_cons_zero]; omega
        · simp only [okAt, List.cons_append, List.nil_append, List.getD_cons_succ, List.getD_cons_zero]; omega
        · simp only [okAt, List.cons_append, List.nil_append, List.getD_cons_succ, List.getD_cons_zero]; omega
    · rw [List.length_append] at hi
      have hh := ih' (i - (qb a).length) (by omega)
      unfold okAt at hh ⊢
      have g : ∀ j, (qb a).length ≤ j → (qb a ++ (qin l ++ r)).getD j 0 = (qin l ++ r).getD (j - (qb a).length) 0 := by
        intro j hj; simp only [List.getD]; rw [List.getElem?_append_right hj]
      rw [g i (by omega), g (i + 1) (by omega), show i + 1 - (qb a).length = i - (qb a).length + 1 by omega]
      exact hh

/-- Every byte of a quote may stand where it stands. -/
theorem quote_ok (l : List Nat) (hl : ∀ a ∈ l, a < 256) (i : Nat) (hi : i < (quoteL l).length) :
    (i = 0 ∧ (quoteL l).getD i 0 = 34) ∨ (i + 1 = (quoteL l).length ∧ (quoteL l).getD i 0 = 34) ∨ (0 < i ∧ i + 1 < (quoteL l).length ∧ okAt (quoteL l) i) := by
  have e : (quoteL l).length = (qin l).length + 2 := by simp [quoteL]
  rw [e] at hi ⊢
  match i with
  | 0 => exact Or.inl ⟨rfl, rfl⟩
  | i + 1 =>
    by_cases h : i < (qin l).length
    · right; right
      refine ⟨by omega, by omega, ?_⟩
      have := qin_ok l hl [34] i h
      unfold okAt quoteL at *
      simpa only [List.getD_cons_succ] using this
    · right; left
      have : i = (qin l).length := by omega
      subst this
      exact ⟨rfl, by simp [quoteL, List.getD]⟩

theorem str_get (l : List Nat) (hl : ∀ a ∈ l, a < 256) (i : Nat) (h : i < (str l).size) : ((str l)[i]).toNat = l.getD i 0 := by
  have hi : i < l.length := by simpa [str, strOfNums_size] using h
  have : (str l)[i] = UInt8.ofNat (l[i]) := by
    show (str l).data[i] = _
    simp [str, strOfNums]
  rw [this, UInt8.toNat_ofNat', List.getD, List.getElem?_eq_getElem hi]
  have := hl l[i] (List.getElem_mem hi)
  simp; omega

theorem quote_lt (l : List Nat) (hl : ∀ a ∈ l, a < 256) : ∀ a ∈ quoteL l, a < 256 := by
  intro a ha
  simp only [quoteL, List.mem_cons, List.mem_append, List.not_mem_nil, or_false] at ha
  rcases ha with rfl | ha | rfl
  · decide
  · simp only [qin, List.mem_flatMap] at ha
    obtain ⟨b, hb, hab⟩ := ha
    have hb' := hl b hb
    cases hp : pl b
    · rw [qb_hex hp] at hab
      have d1 := dg_bd (b / 16) (by omega)
      have d2 := dg_bd (b % 16) (by omega)
      simp only [List.mem_cons, List.not_mem_nil, or_false] at hab
      omega
    · rw [qb_plain hp] at hab
      simp only [List.mem_cons, List.not_mem_nil, or_false] at hab
      omega
  · decide

/-- What the law asks of a quote, byte by byte, as the walk reads it. -/
def fine (Q : ByteArray) (n : Nat) : Prop := n + 2 ≤ Q.size ∧ Q.size ≤ 4 * n + 2 ∧
  ∀ i (h : i < Q.size), (i = 0 ∧ Q[i].toNat = 34) ∨ (i + 1 = Q.size ∧ Q[i].toNat = 34) ∨ (0 < i ∧ ∃ h' : i + 1 < Q.size, 32 ≤ Q[i].toNat ∧ Q[i].toNat ≤ 126 ∧ Q[i].toNat ≠ 34 ∧ (Q[i].toNat = 92 → Q[i + 1].toNat = 120))

theorem quote_fine (s : ByteArray) : fine (str (quoteL (bl s))) s.size := by
  have hz : (str (quoteL (bl s))).size = (quoteL (bl s)).length := by unfold str; rw [strOfNums_size, List.length_map]
  have hq : (quoteL (bl s)).length = (qin (bl s)).length + 2 := by simp [quoteL]
  have hl := qin_len (bl s)
  rw [bl_len] at hl
  refine ⟨by omega, by omega, ?_⟩
  intro i h
  have hlt := quote_lt (bl s) (bl_lt s)
  rcases quote_ok (bl s) (bl_lt s) i (by omega) with ⟨h1, h2⟩ | ⟨h1, h2⟩ | ⟨h1, h2, h3⟩
  · exact Or.inl ⟨h1, by rw [str_get _ hlt]; exact h2⟩
  · exact Or.inr (Or.inl ⟨by omega, by rw [str_get _ hlt]; exact h2⟩)
  · refine Or.inr (Or.inr ⟨h1, by omega, ?_⟩)
    rw [str_get _ hlt, str_get _ hlt]
    exact h3

set_option maxHeartbeats 1000000 in
theorem TextPlain_any (s : ByteArray) (w : World) (hs : s.size ≤ maxLen) :
    Calls Try.prog 10 #[.string s] w fun e w' => e = .returned (.bool true) ∧ Below w.heap.size w w' := by
  unfold maxLen at hs
  by_cases hb : (3000 : Int) < (s.size : Int)
  · go_enter Try.func10, Try.ntmps10
    go_wp2_with (first | (go_at_call 11; refine (alive_any _).mono ?_; rintro e w1 ⟨rfl, hb1⟩))
    go_ret
    exact ⟨rfl, hb1⟩
  · have h3 : s.size ≤ 3000 := by omega
    obtain ⟨Q, hQ⟩ : ∃ Q, Q = str (quoteL (bl s)) := ⟨_, rfl⟩
    have q1 := Quote_any s
    have hf := quote_fine s
    rw [← hQ] at q1 hf
    clear hQ
    have Q1 : Hid (∀ w, s.size ≤ 3000 → Calls Try.prog 24 #[.string s] w fun e w' => e = .returned (.string Q) ∧ Below w.heap.size w w') := q1
    have HF : Hid (fine Q s.size) := hf
    clear q1 hf
    have f1 := HF.out.1
    have f2 := HF.out.2.1
    have f3 : Q[0].toNat = 34 := by rcases HF.out.2.2 0 (by omega) with ⟨_, h⟩ | ⟨_, h⟩ | ⟨h, _⟩ <;> omega
    have f4 : Q[Q.size - 1].toNat = 34 := by rcases HF.out.2.2 (Q.size - 1) (by omega) with ⟨_, h⟩ | ⟨_, h⟩ | ⟨_, h, _⟩ <;> omega
    go_enter Try.func10, Try.ntmps10
    go_wp2_with (first | (go_at_call 24; refine (Q1.out _ h3).mono ?_; rintro e w1 ⟨rfl, hb1⟩))
    go_loop [4] (fun i => ∃ k : Nat, k ≤ Q.size ∧ i = .int .i64 k) (fun i => Q.size - (intOf i).toNat)
    case atStart => exact ⟨0, Nat.zero_le _, rfl⟩
    case round =>
      obtain ⟨k, hk, rfl⟩ := hrel
      clear f3 f4
      by_cases hlt : k < Q.size
      · rcases HF.out.2.2 k hlt with ⟨h1, h2⟩ | ⟨h1, h2⟩ | ⟨h1, h2, h3, h4, h5, h6⟩
        · subst h1
          have e : (Q[0].toNat : Int) = 34 := by omega
          clear h2
          go_wp2
          go_round
          case rel => exact ⟨1, by omega, by go_num⟩
          case measure => simp [intOf]; omega
        · have e : (Q[k].toNat : Int) = 34 := by omega
          have h1' : (Q.size : Int) - 1 ≤ (k : Int) := by omega
          clear h2 h1
          go_wp2
          go_round
          case rel => exact ⟨k + 1, by omega, by go_num⟩
          case measure => simp [intOf]; omega
        · have e1 : (32 : Int) ≤ (Q[k].toNat : Int) := by omega
          have e2 : (Q[k].toNat : Int) ≤ 126 := by omega
          have e3 : ((Q[k].toNat : Int) == 34) = false := by simp; omega
          by_cases h7 : Q[k].toNat = 92
          · have e4 : (Q[k].toNat : Int) = 92 := by omega
            have e5 : (Q[k + 1].toNat : Int) = 120 := by have := h6 h7; omega
            clear h3 h4 h5 h6 h7 e1 e2 e3
            go_wp2
            go_round
            case rel => exact ⟨k + 1, by omega, by go_num⟩
            case measure => simp [intOf]; omega
          · have e4 : ((Q[k].toNat : Int) == 92) = false := by simp; omega
            clear h3 h4 h5 h6 h7
            go_wp2
            go_round
            case rel => exact ⟨k + 1, by omega, by go_num⟩
            case measure => simp [intOf]; omega
      · have he : k = Q.size := by omega
        subst he
        go_wp2_with (first | (go_at_call 11; refine (alive_any _).mono ?_; rintro e w3 ⟨rfl, hb3⟩))
        go_ret
        exact ⟨rfl, hb1.trans (hb3.mono hb1.size)⟩
end Go.Proofs.Ytinhfgpcgbnhdaa
