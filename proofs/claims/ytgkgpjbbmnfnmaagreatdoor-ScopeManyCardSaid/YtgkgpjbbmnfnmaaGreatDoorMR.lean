import Derived.Test.YtgkgpjbbmnfnmaaGreatDoorGN
/- What the parser makes, and of which tokens: whatever is kept by each form, with the tokens that it is made of, is true of all. -/
namespace Go.Proofs.YtgkgpjbbmnfnmaaGreatDoor
set_option linter.unusedSimpArgs false
set_option linter.unusedVariables false
set_option linter.unusedSectionVars false

/-- Some, one behind the other, something between each two. -/
inductive RL (P : Nat → Nat → Tr → Prop) : Nat → Nat → List Tr → Prop
 | nil (p q : Nat) : p ≤ q → RL P p q []
 | one (p q r : Nat) (x : Tr) : P p q x → q ≤ r → RL P p r [x]
 | more (p q r s : Nat) (x y : Tr) (l : List Tr) : P p q x → q < s → RL P s r (y :: l) → RL P p r (x :: y :: l)
theorem RL.wid {P : Nat → Nat → Tr → Prop} (hP : ∀ p p' q x, P p q x → p' ≤ p → P p' q x) {p q : Nat} {l : List Tr} (h : RL P p q l) {p' q' : Nat} (h1 : p' ≤ p) (h2 : q ≤ q') : RL P p' q' l := by
 induction h generalizing p' with
 | nil p q h => exact .nil _ _ (by omega)
 | one p q r x h h3 => exact .one _ q _ _ (hP _ _ _ _ h h1) (by omega)
 | more p q r s x y l h h3 h4 ih => exact .more _ q _ s _ _ _ (hP _ _ _ _ h h1) h3 (ih (Nat.le_refl _) h2)
theorem RL.cons {P : Nat → Nat → Tr → Prop} {p q r : Nat} {x : Tr} {l : List Tr} (h : P p q x) (hl : RL P (q + 1) r l) : RL P p r (x :: l) := by
 cases l with
 | nil => cases hl with | nil _ _ h2 => exact .one _ q _ _ h (by omega)
 | cons y l => exact .more _ q _ (q + 1) _ _ _ h (by omega) hl
/-- Statements, one behind the other. -/
inductive RS (P : Nat → Nat → Tr → Prop) : Nat → Nat → List Tr → Prop
 | nil (p q : Nat) : p ≤ q → RS P p q []
 | more (p q r s : Nat) (x : Tr) (l : List Tr) : P p q x → q ≤ s → RS P s r l → RS P p r (x :: l)
theorem RS.wid {P : Nat → Nat → Tr → Prop} (hP : ∀ p p' q x, P p q x → p' ≤ p → P p' q x) {p q : Nat} {l : List Tr} (h : RS P p q l) {p' q' : Nat} (h1 : p' ≤ p) (h2 : q ≤ q') : RS P p' q' l := by
 induction h generalizing p' with
 | nil p q h => exact .nil _ _ (by omega)
 | more p q r s x l h h3 h4 ih => exact .more _ q _ s _ _ (hP _ _ _ _ h h1) h3 (ih (Nat.le_refl _) h2)
/-- Conditions and blocks. -/
inductive RC (E B : Nat → Nat → Tr → Prop) : Nat → Nat → List (Tr × Tr) → Prop
 | one (p q s : Nat) (x b : Tr) : E (p + 1) q x → B (q + 1) s b → RC E B p s [(x, b)]
 | more (p q s e : Nat) (x b : Tr) (l : List (Tr × Tr)) : E (p + 1) q x → B (q + 1) s b → RC E B s e l → RC E B p e ((x, b) :: l)
/-- What is true of names N, expressions E, items I, statements S and blocks B, made of the tokens from the first number up to the second one. -/
structure CloR (V : Env) (N E I S B : Nat → Nat → Tr → Prop) : Prop where
 wid : ∀ p p' q q' x, E p q x → p' ≤ p → q ≤ q' → E p' q' x
 widS : ∀ p p' q q' x, S p q x → p' ≤ p → q ≤ q' → S p' q' x
 name : ∀ p, p < V.L.length → (V.tk p).k = 1 → N p (p + 1) (.mk 6 (V.tk p).t 0 0 0 [] (V.at p))
 ofN : ∀ p q x, N p q x → E p q x
 key : ∀ p, p < V.L.length → (V.tk p).k = 1 → E p (p + 1) (.mk 5 (V.tk p).t 0 0 0 [] (V.at p))
 num : ∀ p, p < V.L.length → (V.tk p).k = 3 → E p (p + 1) (.mk 4 ⟨#[]⟩ (V.tk p).vt (V.tk p).vn 0 [] (V.tk p).a)
 text : ∀ p, p < V.L.length → (V.tk p).k = 4 → E p (p + 1) (.mk 5 (V.tk p).sy 0 0 0 [] (V.tk p).a)
 word : ∀ p k a, k = 1 ∨ k = 2 ∨ k = 3 → E p (p + 1) (nd k [] a)
 func : ∀ p q s l b a, RL N (p + 2) q l → B (q + 1) s b → E p (s + 1) (nd 7 (l ++ [b]) a)
 un : ∀ p q (t : ByteArray) x a, t.data.toList ∈ unS → E (p + 1) q x → E p q (.mk 9 t 0 0 0 [x] a)
 bin : ∀ p q r (t : ByteArray) x y a, 0 < bindOf t.data.toList → E p q x → E (q + 1) r y → E p r (.mk 8 t 0 0 0 [x, y] a)
 dot : ∀ p q x y a, E p q x → E (q + 1) (q + 2) y → E p (q + 2) (nd 10 [x, y] a)
 index : ∀ p q r x y a, E p q x → E (q + 1) r y → E p (r + 1) (nd 10 [x, y] a)
 call : ∀ p q r x l a, E p q x → RL E (q + 1) r l → E p (r + 1) (nd 11 (x :: l) a)
 table : ∀ p q l a, RL I (p + 1) q l → E p (q + 1) (nd 12 l a)
 item : ∀ p q x a, E p q x → I p q (nd 13 [x] a)
 keyed : ∀ p q x y a, E p (p + 1) x → E (p + 2) q y → I p q (nd 14 [x, y] a)
 pair : ∀ p q r x y a, E (p + 1) q x → E (q + 2) r y → I p r (nd 14 [x, y] a)
 block : ∀ p q l a, RS S p q l → (∀ x ∈ l.dropLast, x.k ≠ 27) → B p q (nd 20 l a)
 ret : ∀ p q l a, RL E (p + 1) q l → S p q (nd 27 l a)
 locals : ∀ p q r l m a, l ≠ [] → RL N (p + 1) q l → ((m = [] ∧ r = q) ∨ RL E (q + 1) r m) → S p r (.mk 21 ⟨#[]⟩ 0 0 l.length (l ++ m) a)
 localf : ∀ p q s l b n a c, N (p + 2) (p + 3) n → RL N (p + 4) q l → B (q + 1) s b → S p (s + 1) (nd 29 [n, nd 7 (l ++ [b]) c] a)
 func2 : ∀ p q s l b n a c, N (p + 1) (p + 2) n → RL N (p + 3) q l → B (q + 1) s b → S p (s + 1) (.mk 22 ⟨#[]⟩ 0 0 1 [n, nd 7 (l ++ [b]) c] a)
 assign : ∀ p q r n l m a, RL E p q (n :: l) → (∀ x ∈ n :: l, x.k = 6 ∨ x.k = 10) → m ≠ [] → RL E (q + 1) r m → S p r (.mk 22 ⟨#[]⟩ 0 0 (l.length + 1) (n :: (l ++ m)) a)
 callS : ∀ p q x a, E p q x → x.k = 11 → S p q (nd 23 [x] a)
 choice : ∀ p q r l m a, RC E B p q l → ((m = [] ∧ r = q) ∨ ∃ b, B (q + 1) r b ∧ m = [b]) → S p (r + 1) (nd 24 (l.flatMap (fun x => [x.1, x.2]) ++ m) a)
 loop : ∀ p q s x b a, E (p + 1) q x → B (q + 1) s b → S p (s + 1) (nd 25 [x, b] a)
 count : ∀ p q r s e n x y l b a, N (p + 1) (p + 2) n → E (p + 3) q x → E (q + 1) r y → ((l = [] ∧ s = r) ∨ ∃ z, E (r + 1) s z ∧ l = [z]) → B (s + 1) e b → S p (e + 1) (nd 26 (n :: x :: y :: (l ++ [b])) a)
 brk : ∀ p a, S p (p + 1) (nd 28 [] a)
 group : ∀ p q b a, B (p + 1) q b → S p (q + 1) (nd 30 [b] a)

theorem need_eq {V : Env} {s : List UInt8} {p : Nat} {u : Unit} {q : Nat} (h : V.need s p = .ok (u, q)) : q = p + 1 := by
 unfold Env.need at h
 split at h
 ·simp only [Except.ok.injEq, Prod.mk.injEq] at h; exact h.2.symm
 ·cases h
theorem sep_r {V : Env} {f : Nat → PR Tr} {P : Nat → Nat → Tr → Prop} (hf : ∀ p x q, f p = .ok (x, q) → P p q x) : ∀ n p l q, V.sep f n p = .ok (l, q) → RL P p q l ∧ l ≠ [] := by
 intro n
 induction n with
 | zero =>
  intro p l q h
  unfold Env.sep at h
  split at h
  ·cases h
  ·rename_i x r h1
   simp only [Except.ok.injEq, Prod.mk.injEq] at h
   rw [← h.1, ← h.2]
   exact ⟨.one _ r _ _ (hf _ _ _ h1) (Nat.le_refl _), by simp⟩
 | succ n ih =>
  intro p l q h
  unfold Env.sep at h
  split at h
  ·cases h
  ·rename_i x r h1
   split at h
   ·split at h
    ·cases h
    ·rename_i l' s h2
     obtain ⟨h3, h4⟩ := ih _ _ _ h2
     simp only [Except.ok.injEq, Prod.mk.injEq] at h
     rw [← h.1, ← h.2]
     exact ⟨.cons (hf _ _ _ h1) h3, by simp⟩
   ·simp only [Except.ok.injEq, Prod.mk.injEq] at h
    rw [← h.1, ← h.2]
    exact ⟨.one _ r _ _ (hf _ _ _ h1) (Nat.le_refl _), by simp⟩
section
variable {V : Env} {N E I S B : Nat → Nat → Tr → Prop} (C : CloR V N E I S B)
include C
theorem name_r {p : Nat} {x : Tr} {q : Nat} (h : V.name p = .ok (x, q)) : N p q x ∧ q = p + 1 := by
 unfold Env.name at h
 split at h
 ·rename_i hi
  have hl := kind_lt hi (by decide)
  simp only [Except.ok.injEq, Prod.mk.injEq] at h
  rw [← h.1, ← h.2]
  exact ⟨C.name _ hl (by simpa [Env.isName] using hi), rfl⟩
 ·cases h
theorem key_r {p : Nat} {x : Tr} {q : Nat} (h : V.key p = .ok (x, q)) : E p q x ∧ q = p + 1 := by
 unfold Env.key at h
 split at h
 ·rename_i hi
  have hl := kind_lt hi (by decide)
  simp only [Except.ok.injEq, Prod.mk.injEq] at h
  rw [← h.1, ← h.2]
  exact ⟨C.key _ hl (by simpa [Env.isName] using hi), rfl⟩
 ·cases h
theorem names_r {p : Nat} {l : List Tr} {q : Nat} (h : V.names p = .ok (l, q)) : RL N p q l ∧ l ≠ [] :=
 sep_r (fun p x q hx => (name_r C hx).1) _ _ _ _ h
end
/-- A level's parts are so. -/
structure LevR (V : Env) (N E B : Nat → Nat → Tr → Prop) (G : Lev) : Prop where
 above : ∀ b p x q, G.above b p = .ok (x, q) → E p q x
 suff : ∀ p x g q, G.suff p = .ok ((x, g), q) → E p q x
 body : ∀ a p x q, G.body a p = .ok (x, q) → ∃ l b m s, x = nd 7 (l ++ [b]) a ∧ RL N (p + 1) m l ∧ B (m + 1) s b ∧ q = s + 1
 block : ∀ p x q, p ≤ V.L.length → G.block p = .ok (x, q) → B p q x
section
variable {V : Env} {N E I S B : Nat → Nat → Tr → Prop} (C : CloR V N E I S B) {G : Lev} (hG : LevR V N E B G) (gG : LevGo V G)
include C hG gG
theorem listE_r {p : Nat} {l : List Tr} {q : Nat} (h : listE V G p = .ok (l, q)) : RL E p q l ∧ l ≠ [] :=
 sep_r (fun p x q hx => hG.above 0 p x q hx) _ _ _ _ h
theorem argsE_r {p : Nat} {l : List Tr} {q : Nat} (h : argsE V G p = .ok (l, q)) : ∃ r, q = r + 1 ∧ RL E p r l := by
 unfold argsE at h
 split at h
 ·simp only [Except.ok.injEq, Prod.mk.injEq] at h
  rw [← h.1, ← h.2]
  exact ⟨p, rfl, .nil _ _ (Nat.le_refl _)⟩
 ·split at h
  ·cases h
  ·rename_i l' r h1
   split at h
   ·cases h
   ·rename_i h2
    simp only [Except.ok.injEq, Prod.mk.injEq] at h
    rw [← h.1, ← h.2]
    exact ⟨r, need_eq h2, (listE_r C hG gG h1).1⟩
theorem stemE_r {p : Nat} {x : Tr} {q : Nat} (h : stemE V G p = .ok (x, q)) : E p q x := by
 unfold stemE at h
 split at h
 ·split at h
  ·cases h
  ·rename_i h1
   split at h
   ·cases h
   ·rename_i h2
    simp only [Except.ok.injEq, Prod.mk.injEq] at h
    rw [← h.1, ← h.2]
    have := need_eq h2
    exact C.wid _ _ _ _ _ (hG.above _ _ _ _ h1) (by omega) (by omega)
 ·exact C.ofN _ _ _ (name_r C h).1
theorem sufs_r (a : Int) : ∀ f n g p0 p x q, E p0 p n → sufs V G a f n g p = .ok (x, q) → E p0 q x.1 := by
 intro f
 induction f with
 | zero =>
  intro n g p0 p x q hn h
  unfold sufs at h
  simp only [Except.ok.injEq, Prod.mk.injEq] at h
  rw [← h.1, ← h.2]; exact hn
 | succ f ih =>
  intro n g p0 p x q hn h
  unfold sufs at h
  split at h
  ·split at h
   ·cases h
   ·rename_i k r h1
    obtain ⟨h2, rfl⟩ := key_r C h1
    exact ih _ _ _ _ _ _ (C.dot _ _ _ _ _ hn h2) h
  ·split at h
   ·split at h
    ·cases h
    ·rename_i k r h1
     split at h
     ·cases h
     ·rename_i h2
      have := need_eq h2
      subst this
      exact ih _ _ _ _ _ _ (C.index _ _ _ _ _ _ hn (hG.above _ _ _ _ h1)) h
   ·split at h
    ·split at h
     ·cases h
     ·rename_i l r h1
      obtain ⟨r', rfl, h2⟩ := argsE_r C hG gG h1
      exact ih _ _ _ _ _ _ (C.call _ _ _ _ _ _ hn h2) h
    ·simp only [Except.ok.injEq, Prod.mk.injEq] at h
     rw [← h.1, ← h.2]; exact hn
theorem suffE_r {p : Nat} {x : Tr} {g : Bool} {q : Nat} (h : suffE V G p = .ok ((x, g), q)) : E p q x := by
 unfold suffE at h
 split at h
 ·cases h
 ·rename_i h1
  exact sufs_r C hG gG _ _ _ _ _ _ _ _ (stemE_r C hG gG h1) h
theorem paramsE_r {p : Nat} {l : List Tr} {q : Nat} (h : paramsE V p = .ok (l, q)) : RL N p q l := by
 unfold paramsE at h
 split at h
 ·simp only [Except.ok.injEq, Prod.mk.injEq] at h
  rw [← h.1, ← h.2]
  exact .nil _ _ (Nat.le_refl _)
 ·exact (names_r C h).1
theorem bodyE_r {a : Int} {p : Nat} {x : Tr} {q : Nat} (h : bodyE V G a p = .ok (x, q)) : ∃ l b m s, x = nd 7 (l ++ [b]) a ∧ RL N (p + 1) m l ∧ B (m + 1) s b ∧ q = s + 1 := by
 unfold bodyE at h
 split at h
 ·cases h
 ·rename_i h0
  have := need_eq h0
  subst this
  split at h
  ·cases h
  ·rename_i h1
   have h2 := paramsE_r C hG gG h1
   split at h
   ·cases h
   ·rename_i hn
    have hk := need_go (by decide) _ _ _ hn
    have := need_eq hn
    subst this
    split at h
    ·cases h
    ·rename_i h4
     split at h
     ·cases h
     ·rename_i h5
      simp only [Except.ok.injEq, Prod.mk.injEq] at h
      exact ⟨_, _, _, _, h.1.symm, h2, hG.block _ _ _ hk.2 h4, by rw [← h.2]; exact need_eq h5⟩
theorem itemKeyE_r {p : Nat} {x : Tr} {q : Nat} (h : itemKeyE V G p = .ok (x, q)) : (E p q x ∧ q = p + 1) ∨ ∃ r, E (p + 1) r x ∧ q = r + 1 := by
 unfold itemKeyE at h
 split at h
 ·split at h
  ·cases h
  ·rename_i h1
   split at h
   ·cases h
   ·rename_i h2
    simp only [Except.ok.injEq, Prod.mk.injEq] at h
    rw [← h.1, ← h.2]
    exact .inr ⟨_, hG.above _ _ _ _ h1, need_eq h2⟩
 ·exact .inl (key_r C h)
theorem itemE_r {p : Nat} {x : Tr} {q : Nat} (h : itemE V G p = .ok (x, q)) : I p q x := by
 unfold itemE at h
 split at h
 ·split at h
  ·cases h
  ·rename_i h1
   simp only [Except.ok.injEq, Prod.mk.injEq] at h
   rw [← h.1, ← h.2]
   exact C.item _ _ _ _ (hG.above _ _ _ _ h1)
 ·split at h
  ·cases h
  ·rename_i h1
   split at h
   ·cases h
   ·rename_i h3
    have := need_eq h3
    subst this
    split at h
    ·cases h
    ·rename_i h2
     simp only [Except.ok.injEq, Prod.mk.injEq] at h
     rw [← h.1, ← h.2]
     rcases itemKeyE_r C hG gG h1 with ⟨h4, rfl⟩ | ⟨r, h4, rfl⟩
     ·exact C.keyed _ _ _ _ _ h4 (hG.above _ _ _ _ h2)
     ·exact C.pair _ _ _ _ _ _ h4 (hG.above _ _ _ _ h2)
theorem itemsE_r : ∀ f p l q, itemsE V G f p = .ok (l, q) → RL I p q l := by
 intro f
 induction f with
 | zero =>
  intro p l q h
  unfold itemsE at h
  simp only [Except.ok.injEq, Prod.mk.injEq] at h
  rw [← h.1, ← h.2]; exact .nil _ _ (Nat.le_refl _)
 | succ f ih =>
  intro p l q h
  unfold itemsE at h
  split at h
  ·simp only [Except.ok.injEq, Prod.mk.injEq] at h
   rw [← h.1, ← h.2]; exact .nil _ _ (Nat.le_refl _)
  ·split at h
   ·cases h
   ·rename_i h1
    split at h
    ·split at h
     ·cases h
     ·rename_i h2
      simp only [Except.ok.injEq, Prod.mk.injEq] at h
      rw [← h.1, ← h.2]
      exact .cons (itemE_r C hG gG h1) (ih _ _ _ h2)
    ·simp only [Except.ok.injEq, Prod.mk.injEq] at h
     rw [← h.1, ← h.2]
     exact .one _ _ _ _ (itemE_r C hG gG h1) (Nat.le_refl _)
theorem operandE_r {p : Nat} {x : Tr} {q : Nat} (h : operandE V G p = .ok (x, q)) : E p q x := by
 unfold operandE at h
 dsimp only at h
 split at h
 ·rename_i hk
  have hl := kind_lt hk (by decide)
  simp only [Except.ok.injEq, Prod.mk.injEq] at h
  rw [← h.1, ← h.2]
  exact C.num _ hl (by simpa using hk)
 ·split at h
  ·rename_i hk
   have hl := kind_lt hk (by decide)
   simp only [Except.ok.injEq, Prod.mk.injEq] at h
   rw [← h.1, ← h.2]
   exact C.text _ hl (by simpa using hk)
  ·split at h
   ·simp only [Except.ok.injEq, Prod.mk.injEq] at h
    rw [← h.1, ← h.2]; exact C.word _ _ _ (.inl rfl)
   ·split at h
    ·simp only [Except.ok.injEq, Prod.mk.injEq] at h
     rw [← h.1, ← h.2]; exact C.word _ _ _ (.inr (.inl rfl))
    ·split at h
     ·simp only [Except.ok.injEq, Prod.mk.injEq] at h
      rw [← h.1, ← h.2]; exact C.word _ _ _ (.inr (.inr rfl))
     ·split at h
      ·obtain ⟨l, b, m, s, rfl, h1, h2, rfl⟩ := bodyE_r C hG gG h
       exact C.func _ _ _ _ _ _ h1 h2
      ·split at h
       ·unfold tableE at h
        split at h
        ·cases h
        ·rename_i h1
         have h2 := itemsE_r C hG gG _ _ _ _ h1
         split at h
         ·cases h
         ·rename_i h3
          have := need_eq h3
          subst this
          simp only [Except.ok.injEq, Prod.mk.injEq] at h
          rw [← h.1, ← h.2]
          exact C.table _ _ _ _ h2
       ·split at h
        ·rename_i hu
         split at h
         ·cases h
         ·rename_i h1
          simp only [Except.ok.injEq, Prod.mk.injEq] at h
          rw [← h.1, ← h.2]
          refine C.un _ _ _ _ _ ?_ (hG.above _ _ _ _ h1)
          simp only [Bool.or_eq_true, Env.is, beq_iff_eq] at hu
          unfold unS
          rcases hu with (hu | hu) | hu <;> rw [hu] <;> simp
        ·split at h
         ·cases h
         ·rename_i h1
          simp only [Except.ok.injEq, Prod.mk.injEq] at h
          rw [← h.1, ← h.2]
          exact suffE_r C hG gG h1
theorem bins_r (bd : Nat) : ∀ f n p0 p x q, E p0 p n → bins V G bd f n p = .ok (x, q) → E p0 q x := by
 intro f
 induction f with
 | zero =>
  intro n p0 p x q hn h
  unfold bins at h
  simp only [Except.ok.injEq, Prod.mk.injEq] at h
  rw [← h.1, ← h.2]; exact hn
 | succ f ih =>
  intro n p0 p x q hn h
  unfold bins at h
  dsimp only at h
  split at h
  ·simp only [Except.ok.injEq, Prod.mk.injEq] at h
   rw [← h.1, ← h.2]; exact hn
  ·rename_i hb
   split at h
   ·cases h
   ·rename_i h1
    exact ih _ _ _ _ _ (C.bin _ _ _ _ _ _ _ (by omega) hn (hG.above _ _ _ _ h1)) h
theorem aboveE_r {bd p : Nat} {x : Tr} {q : Nat} (h : aboveE V G bd p = .ok (x, q)) : E p q x := by
 unfold aboveE at h
 split at h
 ·cases h
 ·rename_i h1
  exact bins_r C hG gG _ _ _ _ _ _ _ (operandE_r C hG gG h1) h
theorem namedS_r {p : Nat} {n f : Tr} {q : Nat} (h : namedS V G p = .ok ((n, f), q)) : N (p + 1) (p + 2) n ∧ ∃ l b a m s, f = nd 7 (l ++ [b]) a ∧ RL N (p + 3) m l ∧ B (m + 1) s b ∧ q = s + 1 := by
 unfold namedS at h
 split at h
 ·split at h
  ·cases h
  ·rename_i h0
   have := need_eq h0
   subst this
   split at h
   ·cases h
   ·rename_i h1
    obtain ⟨h1, rfl⟩ := name_r C h1
    split at h
    ·cases h
    ·rename_i h2
     simp only [Except.ok.injEq, Prod.mk.injEq] at h
     rw [← h.1.1, ← h.1.2, ← h.2]
     obtain ⟨l, b, m, s, h3, h4, h5, h6⟩ := hG.body _ _ _ _ h2
     exact ⟨h1, l, b, _, m, s, h3, h4, h5, h6⟩
 ·cases h
theorem localS_r {p : Nat} {x : Tr} {q : Nat} (h : localS V G p = .ok (x, q)) : S p q x := by
 unfold localS at h
 split at h
 ·split at h
  ·cases h
  ·rename_i h1
   simp only [Except.ok.injEq, Prod.mk.injEq] at h
   rw [← h.1, ← h.2]
   obtain ⟨h2, l, b, a, m, s, rfl, h4, h5, rfl⟩ := namedS_r C hG gG h1
   exact C.localf _ _ _ _ _ _ _ _ h2 h4 h5
 ·split at h
  ·cases h
  ·rename_i h1
   obtain ⟨h2, h3⟩ := names_r C h1
   split at h
   ·split at h
    ·cases h
    ·rename_i h5
     obtain ⟨h6, _⟩ := listE_r C hG gG h5
     simp only [Except.ok.injEq, Prod.mk.injEq] at h
     rw [← h.1, ← h.2]
     exact C.locals _ _ _ _ _ _ h3 h2 (.inr h6)
   ·simp only [Except.ok.injEq, Prod.mk.injEq] at h
    rw [← h.1, ← h.2]
    have := C.locals _ _ _ _ [] (V.at p) h3 h2 (.inl ⟨rfl, rfl⟩)
    rw [List.append_nil] at this
    exact this
theorem functionS_r {p : Nat} {x : Tr} {q : Nat} (h : functionS V G p = .ok (x, q)) : S p q x := by
 unfold functionS at h
 split at h
 ·cases h
 ·rename_i h1
  simp only [Except.ok.injEq, Prod.mk.injEq] at h
  rw [← h.1, ← h.2]
  obtain ⟨h2, l, b, a, m, s, rfl, h4, h5, rfl⟩ := namedS_r C hG gG h1
  exact C.func2 _ _ _ _ _ _ _ _ h2 h4 h5
theorem doS_r {p : Nat} {x : Tr} {q : Nat} (h : doS V G p = .ok (x, q)) : ∃ s, B (p + 1) s x ∧ q = s + 1 := by
 unfold doS at h
 split at h
 ·cases h
 ·rename_i hn
  have hk := need_go (by decide) _ _ _ hn
  have := need_eq hn
  subst this
  split at h
  ·cases h
  ·rename_i h1
   split at h
   ·cases h
   ·rename_i h2
    simp only [Except.ok.injEq, Prod.mk.injEq] at h
    rw [← h.1, ← h.2]
    exact ⟨_, hG.block _ _ _ hk.2 h1, need_eq h2⟩
theorem choices_r : ∀ f p l q, 0 < f → p < V.L.length → V.L.length < p + f → choices V G f p = .ok (l, q) → ∃ m : List (Tr × Tr), l = m.flatMap (fun x => [x.1, x.2]) ∧ RC E B p q m := by
 intro f
 induction f with
 | zero => intro p l q h0; omega
 | succ f ih =>
  intro p l q h0 hp hf h
  unfold choices at h
  split at h
  ·cases h
  ·rename_i h1
   have g1 := gG.above _ _ _ _ h1
   split at h
   ·cases h
   ·rename_i h2
    have g2 := need_go (by decide) _ _ _ h2
    have := need_eq h2
    subst this
    split at h
    ·cases h
    ·rename_i h3
     have g3 := gG.block _ _ _ g2.2 h3
     split at h
     ·rename_i hi
      have hq := is_lt hi (by decide)
      split at h
      ·cases h
      ·rename_i h4
       obtain ⟨m, rfl, h6⟩ := ih _ _ _ (by omega) hq (by omega) h4
       simp only [Except.ok.injEq, Prod.mk.injEq] at h
       rw [← h.1, ← h.2]
       exact ⟨(_, _) :: m, rfl, .more _ _ _ _ _ _ _ (hG.above _ _ _ _ h1) (hG.block _ _ _ g2.2 h3) h6⟩
     ·simp only [Except.ok.injEq, Prod.mk.injEq] at h
      rw [← h.1, ← h.2]
      exact ⟨[(_, _)], rfl, .one _ _ _ _ _ (hG.above _ _ _ _ h1) (hG.block _ _ _ g2.2 h3)⟩
theorem choiceS_r {p : Nat} {x : Tr} {q : Nat} (hp : p < V.L.length) (h : choiceS V G p = .ok (x, q)) : S p q x := by
 unfold choiceS at h
 split at h
 ·cases h
 ·rename_i h1
  have hg := choices_go gG _ _ _ _ hp h1
  obtain ⟨m, rfl, h2⟩ := choices_r C hG gG _ _ _ _ (by omega) hp (by omega) h1
  split at h
  ·cases h
  ·rename_i h4
   split at h
   ·cases h
   ·rename_i h7
    have := need_eq h7
    subst this
    simp only [Except.ok.injEq, Prod.mk.injEq] at h
    rw [← h.1, ← h.2]
    unfold elseS at h4
    split at h4
    ·rename_i hi
     have hq := is_lt hi (by decide)
     split at h4
     ·cases h4
     ·rename_i h5
      simp only [Except.ok.injEq, Prod.mk.injEq] at h4
      rw [← h4.1, ← h4.2]
      exact C.choice _ _ _ _ _ _ h2 (.inr ⟨_, hG.block _ _ _ (by omega) h5, rfl⟩)
    ·simp only [Except.ok.injEq, Prod.mk.injEq] at h4
     rw [← h4.1, ← h4.2]
     have := C.choice _ _ _ m [] (V.at p) h2 (.inl ⟨rfl, rfl⟩)
     rw [List.append_nil] at this
     exact this
theorem whileS_r {p : Nat} {x : Tr} {q : Nat} (h : whileS V G p = .ok (x, q)) : S p q x := by
 unfold whileS at h
 split at h
 ·cases h
 ·rename_i h1
  split at h
  ·cases h
  ·rename_i h2
   simp only [Except.ok.injEq, Prod.mk.injEq] at h
   rw [← h.1, ← h.2]
   obtain ⟨s, h3, rfl⟩ := doS_r C hG gG h2
   exact C.loop _ _ _ _ _ _ (hG.above _ _ _ _ h1) h3
theorem countS_r {p : Nat} {x : Tr} {q : Nat} (h : countS V G p = .ok (x, q)) : S p q x := by
 unfold countS at h
 split at h
 ·cases h
 ·rename_i h1
  obtain ⟨h1, rfl⟩ := name_r C h1
  split at h
  ·cases h
  ·rename_i e1
   have := need_eq e1
   subst this
   split at h
   ·cases h
   ·rename_i h2
    split at h
    ·cases h
    ·rename_i e2
     have := need_eq e2
     subst this
     split at h
     ·cases h
     ·rename_i h3
      split at h
      ·cases h
      ·rename_i h4
       split at h
       ·cases h
       ·rename_i h5
        simp only [Except.ok.injEq, Prod.mk.injEq] at h
        rw [← h.1, ← h.2]
        obtain ⟨s, h6, rfl⟩ := doS_r C hG gG h5
        refine C.count _ _ _ _ _ _ _ _ _ _ _ h1 (hG.above _ _ _ _ h2) (hG.above _ _ _ _ h3) ?_ h6
        unfold stepS at h4
        split at h4
        ·split at h4
         ·cases h4
         ·rename_i h6
          simp only [Except.ok.injEq, Prod.mk.injEq] at h4
          rw [← h4.2]
          exact .inr ⟨_, hG.above _ _ _ _ h6, h4.1.symm⟩
        ·simp only [Except.ok.injEq, Prod.mk.injEq] at h4
         exact .inl ⟨h4.1.symm, h4.2.symm⟩
theorem targets_r : ∀ f p l q x p0, E p0 p x → targets V G f p = .ok (l, q) → RL E p0 q (x :: l) ∧ ∀ y ∈ l, y.k = 6 ∨ y.k = 10 := by
 intro f
 induction f with
 | zero =>
  intro p l q x p0 hx h
  unfold targets at h
  simp only [Except.ok.injEq, Prod.mk.injEq] at h
  rw [← h.1, ← h.2]; exact ⟨.one _ _ _ _ hx (Nat.le_refl _), by simp⟩
 | succ f ih =>
  intro p l q x p0 hx h
  unfold targets at h
  split at h
  ·split at h
   ·cases h
   ·rename_i h1
    split at h
    ·rename_i ht
     split at h
     ·cases h
     ·rename_i h2
      obtain ⟨h3, h4⟩ := ih _ _ _ _ _ (hG.suff _ _ _ _ h1) h2
      simp only [Except.ok.injEq, Prod.mk.injEq] at h
      rw [← h.1, ← h.2]
      refine ⟨.cons hx h3, fun y hy => ?_⟩
      rcases List.mem_cons.1 hy with rfl | hy
      ·exact isTarget_k ht
      ·exact h4 y hy
    ·cases h
  ·simp only [Except.ok.injEq, Prod.mk.injEq] at h
   rw [← h.1, ← h.2]; exact ⟨.one _ _ _ _ hx (Nat.le_refl _), by simp⟩
theorem callOrAssignS_r {p : Nat} {x : Tr} {q : Nat} (h : callOrAssignS V G p = .ok (x, q)) : S p q x := by
 unfold callOrAssignS at h
 split at h
 ·cases h
 ·split at h
  ·cases h
  ·rename_i h1
   split at h
   ·rename_i hc
    simp only [Except.ok.injEq, Prod.mk.injEq] at h
    rw [← h.1, ← h.2]
    simp only [Bool.and_eq_true, beq_iff_eq] at hc
    exact C.callS _ _ _ _ (hG.suff _ _ _ _ h1) hc.1
   ·split at h
    ·rename_i ht
     split at h
     ·cases h
     ·rename_i h2
      obtain ⟨h3, h4⟩ := targets_r C hG gG _ _ _ _ _ _ (hG.suff _ _ _ _ h1) h2
      split at h
      ·cases h
      ·rename_i h8
       have := need_eq h8
       subst this
       split at h
       ·cases h
       ·rename_i h5
        obtain ⟨h6, h7⟩ := listE_r C hG gG h5
        simp only [Except.ok.injEq, Prod.mk.injEq] at h
        rw [← h.1, ← h.2]
        refine C.assign _ _ _ _ _ _ _ h3 (fun y hy => ?_) h7 h6
        rcases List.mem_cons.1 hy with rfl | hy
        ·exact isTarget_k ht
        ·exact h4 y hy
    ·cases h
theorem returnedS_r {p : Nat} {x : Tr} {q : Nat} (h : returnedS V G p = .ok (x, q)) : S p q x := by
 unfold returnedS at h
 split at h
 ·cases h
 ·rename_i h1
  simp only [Except.ok.injEq, Prod.mk.injEq] at h
  rw [← h.1, ← h.2]
  unfold valuesS at h1
  split at h1
  ·obtain ⟨h2, _⟩ := listE_r C hG gG h1
   exact C.widS _ _ _ _ _ (C.ret _ _ _ _ h2) (Nat.le_refl _) (by split <;> omega)
  ·simp only [Except.ok.injEq, Prod.mk.injEq] at h1
   rw [← h1.1, ← h1.2]
   exact C.widS _ _ _ _ _ (C.ret _ (p + 1) _ _ (.nil _ _ (Nat.le_refl _))) (Nat.le_refl _) (by split <;> omega)
theorem statementS_r {p : Nat} {x : Tr} {q : Nat} (h : statementS V G p = .ok (x, q)) : S p q x := by
 unfold statementS at h
 split at h
 ·exact localS_r C hG gG h
 ·split at h
  ·exact functionS_r C hG gG h
  ·split at h
   ·rename_i hi
    exact choiceS_r C hG gG (is_lt hi (by decide)) h
   ·split at h
    ·exact whileS_r C hG gG h
    ·split at h
     ·exact countS_r C hG gG h
     ·split at h
      ·split at h
       ·cases h
       ·rename_i h1
        simp only [Except.ok.injEq, Prod.mk.injEq] at h
        rw [← h.1, ← h.2]
        obtain ⟨s, h2, rfl⟩ := doS_r C hG gG h1
        exact C.group _ _ _ _ h2
      ·split at h
       ·simp only [Except.ok.injEq, Prod.mk.injEq] at h
        rw [← h.1, ← h.2]
        exact C.brk _ _
       ·exact callOrAssignS_r C hG gG h
theorem stmts_r : ∀ f p l q, stmts V G f p = .ok (l, q) → RS S p q l ∧ (∀ x ∈ l.dropLast, x.k ≠ 27) := by
 intro f
 induction f with
 | zero =>
  intro p l q h
  unfold stmts at h
  simp only [Except.ok.injEq, Prod.mk.injEq] at h
  rw [← h.1, ← h.2]; exact ⟨.nil _ _ (Nat.le_refl _), by simp⟩
 | succ f ih =>
  intro p l q h
  unfold stmts at h
  split at h
  ·simp only [Except.ok.injEq, Prod.mk.injEq] at h
   rw [← h.1, ← h.2]; exact ⟨.nil _ _ (Nat.le_refl _), by simp⟩
  ·split at h
   ·obtain ⟨h1, h2⟩ := ih _ _ _ h
    exact ⟨h1.wid (fun a b c e hs hp => C.widS a b c c e hs hp (Nat.le_refl _)) (by omega) (Nat.le_refl _), h2⟩
   ·split at h
    ·split at h
     ·cases h
     ·rename_i h1
      simp only [Except.ok.injEq, Prod.mk.injEq] at h
      rw [← h.1, ← h.2]
      exact ⟨.more _ _ _ _ _ _ (returnedS_r C hG gG h1) (Nat.le_refl _) (.nil _ _ (Nat.le_refl _)), by simp⟩
    ·split at h
     ·cases h
     ·rename_i h1
      split at h
      ·cases h
      ·rename_i h2
       obtain ⟨h3, h4⟩ := ih _ _ _ h2
       simp only [Except.ok.injEq, Prod.mk.injEq] at h
       rw [← h.1, ← h.2]
       refine ⟨.more _ _ _ _ _ _ (statementS_r C hG gG h1) (Nat.le_refl _) h3, fun y hy => ?_⟩
       rename_i l0 _
       cases l0 with
       | nil => simp at hy
       | cons z r =>
        rw [List.dropLast_cons_of_ne_nil (by simp)] at hy
        rcases List.mem_cons.1 hy with rfl | hy
        ·exact statement_k h1
        ·exact h4 y hy
theorem blockE_r {p : Nat} {x : Tr} {q : Nat} (h : blockE V G p = .ok (x, q)) : B p q x := by
 unfold blockE at h
 split at h
 ·cases h
 ·rename_i h1
  obtain ⟨h2, h3⟩ := stmts_r C hG gG _ _ _ _ h1
  simp only [Except.ok.injEq, Prod.mk.injEq] at h
  rw [← h.1, ← h.2]
  exact C.block _ _ _ _ h2 h3
end
theorem lev_r {V : Env} {N E I S B : Nat → Nat → Tr → Prop} (C : CloR V N E I S B) : ∀ n, LevR V N E B (lev V n)
 | 0 => ⟨(fun b p x q h => by cases h), (fun p x g q h => by cases h), (fun a p x q h => by cases h), (fun p x q hp h => by cases h)⟩
 | n + 1 => ⟨fun b p x q h => aboveE_r C (lev_r C n) (lev_go V n) h, fun p x g q h => suffE_r C (lev_r C n) (lev_go V n) h, fun a p x q h => bodyE_r C (lev_r C n) (lev_go V n) h, fun p x q hp h => blockE_r C (lev_r C n) (lev_go V n) h⟩
theorem whole_r {V : Env} {N E I S B : Nat → Nat → Tr → Prop} (C : CloR V N E I S B) {x : Tr} (h : whole V = .ok x) : ∃ q, q ≤ V.L.length ∧ B 0 q x := by
 unfold whole at h
 split at h
 ·cases h
 ·rename_i h1
  have hg := (lev_go V 40).block _ _ _ (Nat.zero_le _) h1
  split at h
  ·rw [← Except.ok.inj h]
   exact ⟨_, hg.2, (lev_r C 40).block _ _ _ (Nat.zero_le _) h1⟩
  ·cases h
end Go.Proofs.YtgkgpjbbmnfnmaaGreatDoor
