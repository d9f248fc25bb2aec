/- Joined: M8 M9 M10. -/
import Derived.Test.YtgkgpjbbmnfnmaaGreatDoorGE
import Derived.Test.YtgkgpjbbmnfnmaaGreatDoorGM
/- What the parser makes: whatever is kept by each form is true of all. -/
namespace Go.Proofs.YtgkgpjbbmnfnmaaGreatDoor
set_option linter.unusedSimpArgs false
set_option linter.unusedVariables false
set_option linter.unusedSectionVars false

theorem tk_mem {V : Env} {p : Nat} (h : p < V.L.length) : V.tk p ∈ V.L := by
 unfold Env.tk
 rw [List.getD_eq_getElem?_getD, List.getElem?_eq_getElem h]
 exact List.getElem_mem h
def unS : List (List UInt8) := [sNot, [35], [45]]
/-- What is true of names N, expressions E, items I, statements S and blocks B. -/
structure Clo (V : Env) (N E I S B : Tr → Prop) : Prop where
 name : ∀ X ∈ V.L, X.k = 1 → ∀ a, N (.mk 6 X.t 0 0 0 [] a)
 ofN : ∀ x, N x → E x
 key : ∀ X ∈ V.L, X.k = 1 → ∀ a, E (.mk 5 X.t 0 0 0 [] a)
 num : ∀ X ∈ V.L, X.k = 3 → ∀ a, E (.mk 4 ⟨#[]⟩ X.vt X.vn 0 [] a)
 text : ∀ X ∈ V.L, X.k = 4 → ∀ a, E (.mk 5 X.sy 0 0 0 [] a)
 word : ∀ k a, k = 1 ∨ k = 2 ∨ k = 3 → E (nd k [] a)
 func : ∀ l b a, (∀ x ∈ l, N x) → l.length ≤ V.L.length → B b → E (nd 7 (l ++ [b]) a)
 un : ∀ (t : ByteArray) x a, t.data.toList ∈ unS → E x → E (.mk 9 t 0 0 0 [x] a)
 bin : ∀ (t : ByteArray) x y a, 0 < bindOf t.data.toList → E x → E y → E (.mk 8 t 0 0 0 [x, y] a)
 index : ∀ x y a, E x → E y → E (nd 10 [x, y] a)
 call : ∀ x l a, E x → (∀ y ∈ l, E y) → l.length ≤ V.L.length → E (nd 11 (x :: l) a)
 table : ∀ l a, (∀ x ∈ l, I x) → l.length ≤ V.L.length → E (nd 12 l a)
 item : ∀ x a, E x → I (nd 13 [x] a)
 pair : ∀ x y a, E x → E y → I (nd 14 [x, y] a)
 block : ∀ l a, (∀ x ∈ l, S x) → (∀ x ∈ l.dropLast, x.k ≠ 27) → l.length ≤ V.L.length → B (nd 20 l a)
 ret : ∀ l a, (∀ x ∈ l, E x) → l.length ≤ V.L.length → S (nd 27 l a)
 locals : ∀ l m a, l ≠ [] → (∀ x ∈ l, N x) → (∀ x ∈ m, E x) → l.length ≤ V.L.length → m.length ≤ V.L.length → S (.mk 21 ⟨#[]⟩ 0 0 l.length (l ++ m) a)
 localf : ∀ l b n a c, (∀ x ∈ l, N x) → l.length ≤ V.L.length → B b → N n → S (nd 29 [n, nd 7 (l ++ [b]) c] a)
 func2 : ∀ l b n a c, (∀ x ∈ l, N x) → l.length ≤ V.L.length → B b → N n → S (.mk 22 ⟨#[]⟩ 0 0 1 [n, nd 7 (l ++ [b]) c] a)
 assign : ∀ n l m a, (∀ x ∈ n :: l, E x ∧ (x.k = 6 ∨ x.k = 10)) → m ≠ [] → (∀ x ∈ m, E x) → l.length ≤ V.L.length → m.length ≤ V.L.length → S (.mk 22 ⟨#[]⟩ 0 0 (l.length + 1) (n :: (l ++ m)) a)
 callS : ∀ x a, E x → x.k = 11 → S (nd 23 [x] a)
 choice : ∀ (l : List (Tr × Tr)) a, l ≠ [] → (∀ x ∈ l, E x.1 ∧ B x.2) → ∀ m, (m = [] ∨ ∃ b, B b ∧ m = [b]) → l.length ≤ V.L.length → S (nd 24 (l.flatMap (fun x => [x.1, x.2]) ++ m) a)
 loop : ∀ x b a, E x → B b → S (nd 25 [x, b] a)
 count : ∀ n x y l b a, N n → E x → E y → (l = [] ∨ ∃ z, E z ∧ l = [z]) → B b → S (nd 26 (n :: x :: y :: (l ++ [b])) a)
 brk : ∀ a, S (nd 28 [] a)
 group : ∀ b a, B b → S (nd 30 [b] a)

section
variable {V : Env} {N E I S B : Tr → Prop} (C : Clo V N E I S B)
include C
theorem name_c {p : Nat} {x : Tr} {q : Nat} (h : V.name p = .ok (x, q)) : N x := by
 unfold Env.name at h
 split at h
 ·rename_i hi
  have hl := kind_lt hi (by decide)
  simp only [Except.ok.injEq, Prod.mk.injEq] at h
  rw [← h.1]
  exact C.name _ (tk_mem hl) (by simpa [Env.isName] using hi) _
 ·cases h
theorem key_c {p : Nat} {x : Tr} {q : Nat} (h : V.key p = .ok (x, q)) : E x := by
 unfold Env.key at h
 split at h
 ·rename_i hi
  have hl := kind_lt hi (by decide)
  simp only [Except.ok.injEq, Prod.mk.injEq] at h
  rw [← h.1]
  exact C.key _ (tk_mem hl) (by simpa [Env.isName] using hi) _
 ·cases h
omit C in
theorem sep_c {f : Nat → PR Tr} {P : Tr → Prop} (hf : ∀ p x q, f p = .ok (x, q) → P x) (gf : Gos V f) : ∀ n p l q, V.sep f n p = .ok (l, q) → (∀ x ∈ l, P x) ∧ l ≠ [] ∧ l.length + p ≤ q := by
 intro n
 induction n with
 | zero =>
  intro p l q h
  unfold Env.sep at h
  split at h
  ·cases h
  ·rename_i x r h1
   have := gf _ _ _ h1
   simp only [Except.ok.injEq, Prod.mk.injEq] at h
   rw [← h.1, ← h.2]
   exact ⟨by intro y hy; rw [List.mem_singleton.1 hy]; exact hf _ _ _ h1, by simp, by simp only [List.length_cons, List.length_nil]; omega⟩
 | succ n ih =>
  intro p l q h
  unfold Env.sep at h
  split at h
  ·cases h
  ·rename_i x r h1
   have hg := gf _ _ _ h1
   split at h
   ·split at h
    ·cases h
    ·rename_i l' s h2
     obtain ⟨h3, h4, h5⟩ := ih _ _ _ h2
     simp only [Except.ok.injEq, Prod.mk.injEq] at h
     rw [← h.1, ← h.2]
     refine ⟨fun y hy => ?_, by simp, by simp only [List.length_cons]; omega⟩
     rcases List.mem_cons.1 hy with rfl | hy
     ·exact hf _ _ _ h1
     ·exact h3 y hy
   ·simp only [Except.ok.injEq, Prod.mk.injEq] at h
    rw [← h.1, ← h.2]
    exact ⟨by intro y hy; rw [List.mem_singleton.1 hy]; exact hf _ _ _ h1, by simp, by simp only [List.length_cons, List.length_nil]; omega⟩
theorem names_c {p : Nat} {l : List Tr} {q : Nat} (h : V.names p = .ok (l, q)) : (∀ x ∈ l, N x) ∧ l ≠ [] ∧ l.length ≤ V.L.length := by
 have hg := sep_go name_go _ _ _ _ h
 obtain ⟨h1, h2, h3⟩ := sep_c (fun p x q hx => name_c C hx) name_go _ _ _ _ h
 exact ⟨h1, h2, by omega⟩
end
/-- A level's parts are so. -/
structure LevC (V : Env) (E B : Tr → Prop) (N : Tr → Prop) (G : Lev) : Prop where
 above : ∀ b p x q, G.above b p = .ok (x, q) → E x
 suff : ∀ p x g q, G.suff p = .ok ((x, g), q) → E x
 body : ∀ a p x q, G.body a p = .ok (x, q) → ∃ l b, x = nd 7 (l ++ [b]) a ∧ (∀ y ∈ l, N y) ∧ l.length ≤ V.L.length ∧ B b
 block : ∀ p x q, p ≤ V.L.length → G.block p = .ok (x, q) → B x
section
variable {V : Env} {N E I S B : Tr → Prop} (C : Clo V N E I S B) {G : Lev} (hG : LevC V E B N G) (gG : LevGo V G)
include C hG gG
theorem listE_c {p : Nat} {l : List Tr} {q : Nat} (h : listE V G p = .ok (l, q)) : (∀ x ∈ l, E x) ∧ l ≠ [] ∧ l.length ≤ V.L.length := by
 have hg := listE_go gG _ _ _ h
 obtain ⟨h1, h2, h3⟩ := sep_c (fun p x q hx => hG.above 0 p x q hx) (gG.above 0) _ _ _ _ h
 exact ⟨h1, h2, by omega⟩
theorem argsE_c {p : Nat} {l : List Tr} {q : Nat} (h : argsE V G p = .ok (l, q)) : (∀ x ∈ l, E x) ∧ l.length ≤ V.L.length := by
 unfold argsE at h
 split at h
 ·simp only [Except.ok.injEq, Prod.mk.injEq] at h
  rw [← h.1]
  exact ⟨by simp, by simp⟩
 ·split at h
  ·cases h
  ·rename_i l' r h1
   obtain ⟨h2, _, h3⟩ := listE_c C hG gG h1
   split at h
   ·cases h
   ·simp only [Except.ok.injEq, Prod.mk.injEq] at h
    rw [← h.1]
    exact ⟨h2, h3⟩
theorem stemE_c {p : Nat} {x : Tr} {q : Nat} (h : stemE V G p = .ok (x, q)) : E x := by
 unfold stemE at h
 split at h
 ·split at h
  ·cases h
  ·rename_i h1
   split at h
   ·cases h
   ·simp only [Except.ok.injEq, Prod.mk.injEq] at h
    rw [← h.1]
    exact hG.above _ _ _ _ h1
 ·exact C.ofN _ (name_c C h)
theorem sufs_c (a : Int) : ∀ f n g p x q, E n → sufs V G a f n g p = .ok (x, q) → E x.1 := by
 intro f
 induction f with
 | zero =>
  intro n g p x q hn h
  unfold sufs at h
  simp only [Except.ok.injEq, Prod.mk.injEq] at h
  rw [← h.1]; exact hn
 | succ f ih =>
  intro n g p x q hn h
  unfold sufs at h
  split at h
  ·split at h
   ·cases h
   ·rename_i k r h1
    exact ih _ _ _ _ _ (C.index _ _ _ hn (key_c C h1)) h
  ·split at h
   ·split at h
    ·cases h
    ·rename_i k r h1
     split at h
     ·cases h
     ·exact ih _ _ _ _ _ (C.index _ _ _ hn (hG.above _ _ _ _ h1)) h
   ·split at h
    ·split at h
     ·cases h
     ·rename_i l r h1
      obtain ⟨h2, h3⟩ := argsE_c C hG gG h1
      exact ih _ _ _ _ _ (C.call _ _ _ hn h2 h3) h
    ·simp only [Except.ok.injEq, Prod.mk.injEq] at h
     rw [← h.1]; exact hn
theorem suffE_c {p : Nat} {x : Tr} {g : Bool} {q : Nat} (h : suffE V G p = .ok ((x, g), q)) : E x := by
 unfold suffE at h
 split at h
 ·cases h
 ·rename_i h1
  exact sufs_c C hG gG _ _ _ _ _ _ _ (stemE_c C hG gG h1) h
theorem paramsE_c {p : Nat} {l : List Tr} {q : Nat} (h : paramsE V p = .ok (l, q)) : (∀ x ∈ l, N x) ∧ l.length ≤ V.L.length := by
 unfold paramsE at h
 split at h
 ·simp only [Except.ok.injEq, Prod.mk.injEq] at h
  rw [← h.1]
  exact ⟨by simp, by simp⟩
 ·obtain ⟨h1, _, h3⟩ := names_c C h
  exact ⟨h1, h3⟩
theorem bodyE_c {a : Int} {p : Nat} {x : Tr} {q : Nat} (h : bodyE V G a p = .ok (x, q)) : ∃ l b, x = nd 7 (l ++ [b]) a ∧ (∀ y ∈ l, N y) ∧ l.length ≤ V.L.length ∧ B b := by
 unfold bodyE at h
 split at h
 ·cases h
 ·split at h
  ·cases h
  ·rename_i h1
   obtain ⟨h2, h3⟩ := paramsE_c C hG gG h1
   split at h
   ·cases h
   ·rename_i hn
    have hk := need_go (by decide) _ _ _ hn
    split at h
    ·cases h
    ·rename_i h4
     split at h
     ·cases h
     ·simp only [Except.ok.injEq, Prod.mk.injEq] at h
      exact ⟨_, _, h.1.symm, h2, h3, hG.block _ _ _ hk.2 h4⟩
theorem itemKeyE_c {p : Nat} {x : Tr} {q : Nat} (h : itemKeyE V G p = .ok (x, q)) : E x := by
 unfold itemKeyE at h
 split at h
 ·split at h
  ·cases h
  ·rename_i h1
   split at h
   ·cases h
   ·simp only [Except.ok.injEq, Prod.mk.injEq] at h
    rw [← h.1]
    exact hG.above _ _ _ _ h1
 ·exact key_c C h
theorem itemE_c {p : Nat} {x : Tr} {q : Nat} (h : itemE V G p = .ok (x, q)) : I x := by
 unfold itemE at h
 split at h
 ·split at h
  ·cases h
  ·rename_i h1
   simp only [Except.ok.injEq, Prod.mk.injEq] at h
   rw [← h.1]
   exact C.item _ _ (hG.above _ _ _ _ h1)
 ·split at h
  ·cases h
  ·rename_i h1
   split at h
   ·cases h
   ·split at h
    ·cases h
    ·rename_i h2
     simp only [Except.ok.injEq, Prod.mk.injEq] at h
     rw [← h.1]
     exact C.pair _ _ _ (itemKeyE_c C hG gG h1) (hG.above _ _ _ _ h2)
theorem itemsE_c : ∀ f p l q, p ≤ V.L.length → itemsE V G f p = .ok (l, q) → (∀ x ∈ l, I x) ∧ l.length + p ≤ q := by
 intro f
 induction f with
 | zero =>
  intro p l q hp h
  unfold itemsE at h
  simp only [Except.ok.injEq, Prod.mk.injEq] at h
  rw [← h.1, ← h.2]; exact ⟨by simp, by simp⟩
 | succ f ih =>
  intro p l q hp h
  unfold itemsE at h
  split at h
  ·simp only [Except.ok.injEq, Prod.mk.injEq] at h
   rw [← h.1, ← h.2]; exact ⟨by simp, by simp⟩
  ·split at h
   ·cases h
   ·rename_i h1
    have hg := itemE_go gG _ _ _ h1
    split at h
    ·rename_i hi
     have hq := is_lt hi (by decide)
     split at h
     ·cases h
     ·rename_i h2
      obtain ⟨h3, h4⟩ := ih _ _ _ (by omega) h2
      simp only [Except.ok.injEq, Prod.mk.injEq] at h
      rw [← h.1, ← h.2]
      refine ⟨fun y hy => ?_, by simp only [List.length_cons]; omega⟩
      rcases List.mem_cons.1 hy with rfl | hy
      ·exact itemE_c C hG gG h1
      ·exact h3 y hy
    ·simp only [Except.ok.injEq, Prod.mk.injEq] at h
     rw [← h.1, ← h.2]
     exact ⟨by intro y hy; rw [List.mem_singleton.1 hy]; exact itemE_c C hG gG h1, by simp only [List.length_cons, List.length_nil]; omega⟩
theorem operandE_c {p : Nat} {x : Tr} {q : Nat} (h : operandE V G p = .ok (x, q)) : E x := by
 unfold operandE at h
 dsimp only at h
 split at h
 ·rename_i hk
  have hl := kind_lt hk (by decide)
  simp only [Except.ok.injEq, Prod.mk.injEq] at h
  rw [← h.1]
  exact C.num _ (tk_mem hl) (by simpa using hk) _
 ·split at h
  ·rename_i hk
   have hl := kind_lt hk (by decide)
   simp only [Except.ok.injEq, Prod.mk.injEq] at h
   rw [← h.1]
   exact C.text _ (tk_mem hl) (by simpa using hk) _
  ·split at h
   ·simp only [Except.ok.injEq, Prod.mk.injEq] at h
    rw [← h.1]; exact C.word _ _ (.inl rfl)
   ·split at h
    ·simp only [Except.ok.injEq, Prod.mk.injEq] at h
     rw [← h.1]; exact C.word _ _ (.inr (.inl rfl))
    ·split at h
     ·simp only [Except.ok.injEq, Prod.mk.injEq] at h
      rw [← h.1]; exact C.word _ _ (.inr (.inr rfl))
     ·split at h
      ·obtain ⟨l, b, rfl, h1, h2, h3⟩ := bodyE_c C hG gG h
       exact C.func _ _ _ h1 h2 h3
      ·split at h
       ·rename_i ht
        have hl := is_lt ht (by decide)
        unfold tableE at h
        split at h
        ·cases h
        ·rename_i h1
         have hg := itemsE_go gG _ _ _ _ (by omega) h1
         obtain ⟨h2, h3⟩ := itemsE_c C hG gG _ _ _ _ (by omega) h1
         split at h
         ·cases h
         ·simp only [Except.ok.injEq, Prod.mk.injEq] at h
          rw [← h.1]
          exact C.table _ _ h2 (by omega)
       ·split at h
        ·rename_i hu
         split at h
         ·cases h
         ·rename_i h1
          simp only [Except.ok.injEq, Prod.mk.injEq] at h
          rw [← h.1]
          refine C.un _ _ _ ?_ (hG.above _ _ _ _ h1)
          simp only [Bool.or_eq_true, Env.is, beq_iff_eq] at hu
          unfold unS
          rcases hu with (hu | hu) | hu <;> rw [hu] <;> simp
        ·split at h
         ·cases h
         ·rename_i h1
          simp only [Except.ok.injEq, Prod.mk.injEq] at h
          rw [← h.1]
          exact suffE_c C hG gG h1
theorem bins_c (bd : Nat) : ∀ f n p x q, E n → bins V G bd f n p = .ok (x, q) → E x := by
 intro f
 induction f with
 | zero =>
  intro n p x q hn h
  unfold bins at h
  simp only [Except.ok.injEq, Prod.mk.injEq] at h
  rw [← h.1]; exact hn
 | succ f ih =>
  intro n p x q hn h
  unfold bins at h
  dsimp only at h
  split at h
  ·simp only [Except.ok.injEq, Prod.mk.injEq] at h
   rw [← h.1]; exact hn
  ·rename_i hb
   split at h
   ·cases h
   ·rename_i h1
    exact ih _ _ _ _ (C.bin _ _ _ _ (by omega) hn (hG.above _ _ _ _ h1)) h
theorem aboveE_c {bd p : Nat} {x : Tr} {q : Nat} (h : aboveE V G bd p = .ok (x, q)) : E x := by
 unfold aboveE at h
 split at h
 ·cases h
 ·rename_i h1
  exact bins_c C hG gG _ _ _ _ _ _ (operandE_c C hG gG h1) h
theorem namedS_c {p : Nat} {n f : Tr} {q : Nat} (h : namedS V G p = .ok ((n, f), q)) : N n ∧ ∃ l b a, f = nd 7 (l ++ [b]) a ∧ (∀ y ∈ l, N y) ∧ l.length ≤ V.L.length ∧ B b := by
 unfold namedS at h
 split at h
 ·split at h
  ·cases h
  ·split at h
   ·cases h
   ·rename_i h1
    split at h
    ·cases h
    ·rename_i h2
     simp only [Except.ok.injEq, Prod.mk.injEq] at h
     rw [← h.1.1, ← h.1.2]
     obtain ⟨l, b, h3, h4, h5, h6⟩ := hG.body _ _ _ _ h2
     exact ⟨name_c C h1, l, b, _, h3, h4, h5, h6⟩
 ·cases h
theorem localS_c {p : Nat} {x : Tr} {q : Nat} (h : localS V G p = .ok (x, q)) : S x := by
 unfold localS at h
 split at h
 ·split at h
  ·cases h
  ·rename_i h1
   simp only [Except.ok.injEq, Prod.mk.injEq] at h
   rw [← h.1]
   obtain ⟨h2, l, b, a, rfl, h4, h5, h6⟩ := namedS_c C hG gG h1
   exact C.localf _ _ _ _ _ h4 h5 h6 h2
 ·split at h
  ·cases h
  ·rename_i h1
   obtain ⟨h2, h3, h4⟩ := names_c C h1
   split at h
   ·split at h
    ·cases h
    ·rename_i h5
     obtain ⟨h6, _, h7⟩ := listE_c C hG gG h5
     simp only [Except.ok.injEq, Prod.mk.injEq] at h
     rw [← h.1]
     exact C.locals _ _ _ h3 h2 h6 h4 h7
   ·simp only [Except.ok.injEq, Prod.mk.injEq] at h
    rw [← h.1]
    have := C.locals _ [] (V.at p) h3 h2 (by simp) h4 (by simp)
    rw [List.append_nil] at this
    exact this
theorem functionS_c {p : Nat} {x : Tr} {q : Nat} (h : functionS V G p = .ok (x, q)) : S x := by
 unfold functionS at h
 split at h
 ·cases h
 ·rename_i h1
  simp only [Except.ok.injEq, Prod.mk.injEq] at h
  rw [← h.1]
  obtain ⟨h2, l, b, a, rfl, h4, h5, h6⟩ := namedS_c C hG gG h1
  exact C.func2 _ _ _ _ _ h4 h5 h6 h2
theorem doS_c {p : Nat} {x : Tr} {q : Nat} (h : doS V G p = .ok (x, q)) : B x := by
 unfold doS at h
 split at h
 ·cases h
 ·rename_i hn
  have hk := need_go (by decide) _ _ _ hn
  split at h
  ·cases h
  ·rename_i h1
   split at h
   ·cases h
   ·simp only [Except.ok.injEq, Prod.mk.injEq] at h
    rw [← h.1]
    exact hG.block _ _ _ hk.2 h1
theorem choices_c : ∀ f p l q, 0 < f → p < V.L.length → V.L.length < p + f → choices V G f p = .ok (l, q) → ∃ m : List (Tr × Tr), m ≠ [] ∧ l = m.flatMap (fun x => [x.1, x.2]) ∧ (∀ x ∈ m, E x.1 ∧ B x.2) ∧ m.length + p ≤ q := by
 intro f
 induction f with
 | zero => intro p l q h0; omega
 | succ f ih =>
  intro p l q h0 hp hf h
  unfold choices at h
  split at h
  ·cases h
  ·rename_i h1
   have g1 := gG.above _ _ _ _ h1
   split at h
   ·cases h
   ·rename_i h2
    have g2 := need_go (by decide) _ _ _ h2
    split at h
    ·cases h
    ·rename_i h3
     have g3 := gG.block _ _ _ g2.2 h3
     split at h
     ·rename_i hi
      have hq := is_lt hi (by decide)
      split at h
      ·cases h
      ·rename_i h4
       obtain ⟨m, _, rfl, h6, h7⟩ := ih _ _ _ (by omega) hq (by omega) h4
       simp only [Except.ok.injEq, Prod.mk.injEq] at h
       rw [← h.1, ← h.2]
       refine ⟨(_, _) :: m, by simp, rfl, fun y hy => ?_, by simp only [List.length_cons]; omega⟩
       rcases List.mem_cons.1 hy with rfl | hy
       ·exact ⟨hG.above _ _ _ _ h1, hG.block _ _ _ g2.2 h3⟩
       ·exact h6 y hy
     ·simp only [Except.ok.injEq, Prod.mk.injEq] at h
      rw [← h.1, ← h.2]
      refine ⟨[(_, _)], by simp, rfl, fun y hy => ?_, by simp only [List.length_cons, List.length_nil]; omega⟩
      rw [List.mem_singleton.1 hy]
      exact ⟨hG.above _ _ _ _ h1, hG.block _ _ _ g2.2 h3⟩
theorem choiceS_c {p : Nat} {x : Tr} {q : Nat} (hp : p < V.L.length) (h : choiceS V G p = .ok (x, q)) : S x := by
 unfold choiceS at h
 split at h
 ·cases h
 ·rename_i h1
  have hg := choices_go gG _ _ _ _ hp h1
  obtain ⟨m, hm, rfl, h2, h3⟩ := choices_c C hG gG _ _ _ _ (by omega) hp (by omega) h1
  split at h
  ·cases h
  ·rename_i h4
   split at h
   ·cases h
   ·simp only [Except.ok.injEq, Prod.mk.injEq] at h
    rw [← h.1]
    unfold elseS at h4
    split at h4
    ·rename_i hi
     have hq := is_lt hi (by decide)
     split at h4
     ·cases h4
     ·rename_i h5
      simp only [Except.ok.injEq, Prod.mk.injEq] at h4
      rw [← h4.1]
      exact C.choice _ _ hm h2 _ (.inr ⟨_, hG.block _ _ _ (by omega) h5, rfl⟩) (by omega)
    ·simp only [Except.ok.injEq, Prod.mk.injEq] at h4
     rw [← h4.1]
     have := C.choice m (V.at p) hm h2 [] (.inl rfl) (by omega)
     rw [List.append_nil] at this
     exact this
theorem whileS_c {p : Nat} {x : Tr} {q : Nat} (h : whileS V G p = .ok (x, q)) : S x := by
 unfold whileS at h
 split at h
 ·cases h
 ·rename_i h1
  split at h
  ·cases h
  ·rename_i h2
   simp only [Except.ok.injEq, Prod.mk.injEq] at h
   rw [← h.1]
   exact C.loop _ _ _ (hG.above _ _ _ _ h1) (doS_c C hG gG h2)
theorem countS_c {p : Nat} {x : Tr} {q : Nat} (h : countS V G p = .ok (x, q)) : S x := by
 unfold countS at h
 split at h
 ·cases h
 ·rename_i h1
  split at h
  ·cases h
  ·split at h
   ·cases h
   ·rename_i h2
    split at h
    ·cases h
    ·split at h
     ·cases h
     ·rename_i h3
      split at h
      ·cases h
      ·rename_i h4
       split at h
       ·cases h
       ·rename_i h5
        simp only [Except.ok.injEq, Prod.mk.injEq] at h
        rw [← h.1]
        refine C.count _ _ _ _ _ _ (name_c C h1) (hG.above _ _ _ _ h2) (hG.above _ _ _ _ h3) ?_ (doS_c C hG gG h5)
        unfold stepS at h4
        split at h4
        ·split at h4
         ·cases h4
         ·rename_i h6
          simp only [Except.ok.injEq, Prod.mk.injEq] at h4
          exact .inr ⟨_, hG.above _ _ _ _ h6, h4.1.symm⟩
        ·simp only [Except.ok.injEq, Prod.mk.injEq] at h4
         exact .inl h4.1.symm
omit C hG gG in
theorem isTarget_k {n : Tr} {g : Bool} (h : isTarget n g = true) : n.k = 6 ∨ n.k = 10 := by
 unfold isTarget at h
 by_cases e : n.k = 6
 ·exact .inl e
 ·by_cases e2 : n.k = 10
  ·exact .inr e2
  ·simp [e, e2] at h
theorem targets_c : ∀ f p l q, p ≤ V.L.length → targets V G f p = .ok (l, q) → (∀ x ∈ l, E x ∧ (x.k = 6 ∨ x.k = 10)) ∧ l.length + p ≤ q := by
 intro f
 induction f with
 | zero =>
  intro p l q hp h
  unfold targets at h
  simp only [Except.ok.injEq, Prod.mk.injEq] at h
  rw [← h.1, ← h.2]; exact ⟨by simp, by simp⟩
 | succ f ih =>
  intro p l q hp h
  unfold targets at h
  split at h
  ·split at h
   ·cases h
   ·rename_i h1
    have hg := gG.suff _ _ _ h1
    split at h
    ·rename_i ht
     split at h
     ·cases h
     ·rename_i h2
      obtain ⟨h3, h4⟩ := ih _ _ _ hg.2 h2
      simp only [Except.ok.injEq, Prod.mk.injEq] at h
      rw [← h.1, ← h.2]
      refine ⟨fun y hy => ?_, by simp only [List.length_cons]; omega⟩
      rcases List.mem_cons.1 hy with rfl | hy
      ·exact ⟨hG.suff _ _ _ _ h1, isTarget_k ht⟩
      ·exact h3 y hy
    ·cases h
  ·simp only [Except.ok.injEq, Prod.mk.injEq] at h
   rw [← h.1, ← h.2]; exact ⟨by simp, by simp⟩
theorem callOrAssignS_c {p : Nat} {x : Tr} {q : Nat} (h : callOrAssignS V G p = .ok (x, q)) : S x := by
 unfold callOrAssignS at h
 split at h
 ·cases h
 ·split at h
  ·cases h
  ·rename_i h1
   have hg := gG.suff _ _ _ h1
   split at h
   ·rename_i hc
    simp only [Except.ok.injEq, Prod.mk.injEq] at h
    rw [← h.1]
    simp only [Bool.and_eq_true, beq_iff_eq] at hc
    exact C.callS _ _ (hG.suff _ _ _ _ h1) hc.1
   ·split at h
    ·rename_i ht
     split at h
     ·cases h
     ·rename_i h2
      have g2 := targets_go gG _ _ _ _ hg.2 h2
      obtain ⟨h3, h4⟩ := targets_c C hG gG _ _ _ _ hg.2 h2
      split at h
      ·cases h
      ·split at h
       ·cases h
       ·rename_i h5
        obtain ⟨h6, h7, h8⟩ := listE_c C hG gG h5
        simp only [Except.ok.injEq, Prod.mk.injEq] at h
        rw [← h.1]
        refine C.assign _ _ _ _ (fun y hy => ?_) h7 h6 (by omega) h8
        rcases List.mem_cons.1 hy with rfl | hy
        ·exact ⟨hG.suff _ _ _ _ h1, isTarget_k ht⟩
        ·exact h3 y hy
    ·cases h
omit C hG gG in
theorem local_k {V : Env} {G : Lev} {p : Nat} {x : Tr} {q : Nat} (h : localS V G p = .ok (x, q)) : x.k ≠ 27 := by
 unfold localS at h
 split at h
 ·skip
  split at h
  ·cases h
  ·skip
   (simp only [Except.ok.injEq, Prod.mk.injEq] at h; rw [← h.1]; intro e; cases e)
 ·skip
  split at h
  ·cases h
  ·split at h
   ·skip
    split at h
    ·cases h
    ·skip
     (simp only [Except.ok.injEq, Prod.mk.injEq] at h; rw [← h.1]; intro e; cases e)
   ·(simp only [Except.ok.injEq, Prod.mk.injEq] at h; rw [← h.1]; intro e; cases e)
omit C hG gG in
theorem function_k {V : Env} {G : Lev} {p : Nat} {x : Tr} {q : Nat} (h : functionS V G p = .ok (x, q)) : x.k ≠ 27 := by
 unfold functionS at h
 split at h
 ·cases h
 ·skip
  (simp only [Except.ok.injEq, Prod.mk.injEq] at h; rw [← h.1]; intro e; cases e)
omit C hG gG in
theorem choice_k {V : Env} {G : Lev} {p : Nat} {x : Tr} {q : Nat} (h : choiceS V G p = .ok (x, q)) : x.k ≠ 27 := by
 unfold choiceS at h
 split at h
 ·cases h
 ·skip
  split at h
  ·cases h
  ·skip
   split at h
   ·cases h
   ·skip
    (simp only [Except.ok.injEq, Prod.mk.injEq] at h; rw [← h.1]; intro e; cases e)
omit C hG gG in
theorem while_k {V : Env} {G : Lev} {p : Nat} {x : Tr} {q : Nat} (h : whileS V G p = .ok (x, q)) : x.k ≠ 27 := by
 unfold whileS at h
 split at h
 ·cases h
 ·skip
  split at h
  ·cases h
  ·skip
   (simp only [Except.ok.injEq, Prod.mk.injEq] at h; rw [← h.1]; intro e; cases e)
omit C hG gG in
theorem count_k {V : Env} {G : Lev} {p : Nat} {x : Tr} {q : Nat} (h : countS V G p = .ok (x, q)) : x.k ≠ 27 := by
 unfold countS at h
 split at h
 ·cases h
 ·skip
  split at h
  ·cases h
  ·skip
   split at h
   ·cases h
   ·skip
    split at h
    ·cases h
    ·skip
     split at h
     ·cases h
     ·skip
      split at h
      ·cases h
      ·skip
       split at h
       ·cases h
       ·skip
        (simp only [Except.ok.injEq, Prod.mk.injEq] at h; rw [← h.1]; intro e; cases e)
omit C hG gG in
theorem coa_k {V : Env} {G : Lev} {p : Nat} {x : Tr} {q : Nat} (h : callOrAssignS V G p = .ok (x, q)) : x.k ≠ 27 := by
 unfold callOrAssignS at h
 split at h
 ·cases h
 ·split at h
  ·cases h
  ·split at h
   ·(simp only [Except.ok.injEq, Prod.mk.injEq] at h; rw [← h.1]; intro e; cases e)
   ·split at h
    ·skip
     split at h
     ·cases h
     ·skip
      split at h
      ·cases h
      ·skip
       split at h
       ·cases h
       ·skip
        (simp only [Except.ok.injEq, Prod.mk.injEq] at h; rw [← h.1]; intro e; cases e)
    ·cases h
omit C hG gG in
theorem statement_k {V : Env} {G : Lev} {p : Nat} {x : Tr} {q : Nat} (h : statementS V G p = .ok (x, q)) : x.k ≠ 27 := by
 unfold statementS at h
 split at h
 ·exact local_k h
 split at h
 ·exact function_k h
 split at h
 ·exact choice_k h
 split at h
 ·exact while_k h
 split at h
 ·exact count_k h
 split at h
 ·split at h
  ·cases h
  ·(simp only [Except.ok.injEq, Prod.mk.injEq] at h; rw [← h.1]; intro e; cases e)
 split at h
 ·(simp only [Except.ok.injEq, Prod.mk.injEq] at h; rw [← h.1]; intro e; cases e)
 ·exact coa_k h
theorem statementS_c {p : Nat} {x : Tr} {q : Nat} (h : statementS V G p = .ok (x, q)) : S x ∧ x.k ≠ 27 := by
 have hk : x.k ≠ 27 := statement_k h
 refine ⟨?_, hk⟩
 unfold statementS at h
 split at h
 ·exact localS_c C hG gG h
 ·split at h
  ·exact functionS_c C hG gG h
  ·split at h
   ·rename_i hi
    exact choiceS_c C hG gG (is_lt hi (by decide)) h
   ·split at h
    ·exact whileS_c C hG gG h
    ·split at h
     ·exact countS_c C hG gG h
     ·split at h
      ·split at h
       ·cases h
       ·rename_i h1
        simp only [Except.ok.injEq, Prod.mk.injEq] at h
        rw [← h.1]
        exact C.group _ _ (doS_c C hG gG h1)
      ·split at h
       ·simp only [Except.ok.injEq, Prod.mk.injEq] at h
        rw [← h.1]
        exact C.brk _
       ·exact callOrAssignS_c C hG gG h
theorem stmts_c : ∀ f p l q, p ≤ V.L.length → stmts V G f p = .ok (l, q) → (∀ x ∈ l, S x) ∧ (∀ x ∈ l.dropLast, x.k ≠ 27) ∧ l.length + p ≤ q := by
 intro f
 induction f with
 | zero =>
  intro p l q hp h
  unfold stmts at h
  simp only [Except.ok.injEq, Prod.mk.injEq] at h
  rw [← h.1, ← h.2]; exact ⟨by simp, by simp, by simp⟩
 | succ f ih =>
  intro p l q hp h
  unfold stmts at h
  split at h
  ·simp only [Except.ok.injEq, Prod.mk.injEq] at h
   rw [← h.1, ← h.2]; exact ⟨by simp, by simp, by simp⟩
  ·split at h
   ·rename_i hi
    have hq := is_lt hi (by decide)
    obtain ⟨h1, h2, h3⟩ := ih _ _ _ (by omega) h
    exact ⟨h1, h2, by omega⟩
   ·split at h
    ·rename_i hi
     have hq := is_lt hi (by decide)
     split at h
     ·cases h
     ·rename_i h1
      have hg := returnedS_go gG _ hq _ _ h1
      simp only [Except.ok.injEq, Prod.mk.injEq] at h
      rw [← h.1, ← h.2]
      refine ⟨fun y hy => ?_, by simp, by simp only [List.length_cons, List.length_nil]; omega⟩
      rw [List.mem_singleton.1 hy]
      unfold returnedS at h1
      split at h1
      ·cases h1
      ·rename_i h2
       simp only [Except.ok.injEq, Prod.mk.injEq] at h1
       rw [← h1.1]
       unfold valuesS at h2
       split at h2
       ·obtain ⟨h3, _, h4⟩ := listE_c C hG gG h2
        exact C.ret _ _ h3 h4
       ·simp only [Except.ok.injEq, Prod.mk.injEq] at h2
        rw [← h2.1]
        exact C.ret _ _ (by simp) (by simp)
    ·split at h
     ·cases h
     ·rename_i h1
      have hg := statementS_go gG _ _ _ h1
      obtain ⟨s1, s2⟩ := statementS_c C hG gG h1
      split at h
      ·cases h
      ·rename_i h2
       obtain ⟨h3, h4, h5⟩ := ih _ _ _ hg.2 h2
       simp only [Except.ok.injEq, Prod.mk.injEq] at h
       rw [← h.1, ← h.2]
       refine ⟨fun y hy => ?_, fun y hy => ?_, by simp only [List.length_cons]; omega⟩
       ·rcases List.mem_cons.1 hy with rfl | hy
        ·exact s1
        ·exact h3 y hy
       ·rename_i l0 _
        cases l0 with
        | nil => simp at hy
        | cons z r =>
         rw [List.dropLast_cons_of_ne_nil (by simp)] at hy
         rcases List.mem_cons.1 hy with rfl | hy
         ·exact s2
         ·exact h4 y hy
theorem blockE_c {p : Nat} {x : Tr} {q : Nat} (hp : p ≤ V.L.length) (h : blockE V G p = .ok (x, q)) : B x := by
 unfold blockE at h
 split at h
 ·cases h
 ·rename_i h1
  have hg := stmts_go gG _ _ _ _ hp h1
  obtain ⟨h2, h3, h4⟩ := stmts_c C hG gG _ _ _ _ hp h1
  simp only [Except.ok.injEq, Prod.mk.injEq] at h
  rw [← h.1]
  exact C.block _ _ h2 h3 (by omega)
end
theorem lev_c {V : Env} {N E I S B : Tr → Prop} (C : Clo V N E I S B) : ∀ n, LevC V E B N (lev V n)
 | 0 => ⟨(fun b p x q h => by cases h), (fun p x g q h => by cases h), (fun a p x q h => by cases h), (fun p x q hp h => by cases h)⟩
 | n + 1 => ⟨fun b p x q h => aboveE_c C (lev_c C n) (lev_go V n) h, fun p x g q h => suffE_c C (lev_c C n) (lev_go V n) h, fun a p x q h => bodyE_c C (lev_c C n) (lev_go V n) h, fun p x q hp h => blockE_c C (lev_c C n) (lev_go V n) hp h⟩
theorem whole_c {V : Env} {N E I S B : Tr → Prop} (C : Clo V N E I S B) {x : Tr} (h : whole V = .ok x) : B x := by
 unfold whole at h
 split at h
 ·cases h
 ·rename_i h1
  split at h
  ·rw [← Except.ok.inj h]
   exact (lev_c C 40).block _ _ _ (Nat.zero_le _) h1
  ·cases h
end Go.Proofs.YtgkgpjbbmnfnmaaGreatDoor

/- Trees are bounded; two trees alike. -/
namespace Go.Proofs.YtgkgpjbbmnfnmaaGreatDoor
set_option linter.unusedSimpArgs false
set_option linter.unusedVariables false

mutual
/-- No list of a tree's is longer than n. -/
def Bd (n : Nat) : Tr → Prop
 | .mk _ _ _ _ _ l _ => l.length ≤ n ∧ Bds n l
def Bds (n : Nat) : List Tr → Prop
 | [] => True
 | x :: r => Bd n x ∧ Bds n r
end
theorem Bds_iff {n : Nat} : ∀ {l : List Tr}, Bds n l ↔ ∀ x ∈ l, Bd n x
 | [] => by simp [Bds]
 | x :: r => by rw [Bds, Bds_iff (l := r)]; simp
theorem Bd_mk {n : Nat} {k : Int} {t : ByteArray} {vt vn c : Int} {l : List Tr} {a : Int} (h1 : l.length ≤ n) (h2 : ∀ x ∈ l, Bd n x) : Bd n (.mk k t vt vn c l a) := by
 unfold Bd; exact ⟨h1, Bds_iff.2 h2⟩
theorem Bd_nd {n : Nat} {k : Int} {l : List Tr} {a : Int} (h1 : l.length ≤ n) (h2 : ∀ x ∈ l, Bd n x) : Bd n (nd k l a) := Bd_mk h1 h2
theorem flat2_len : ∀ l : List (Tr × Tr), (l.flatMap (fun x => [x.1, x.2])).length = 2 * l.length
 | [] => rfl
 | x :: r => by
  have := flat2_len r
  rw [List.flatMap_cons, List.length_append, this]
  simp only [List.length_cons, List.length_nil]
  omega
theorem bd_clo (V : Env) : Clo V (Bd (2 * V.L.length + 8)) (Bd (2 * V.L.length + 8)) (Bd (2 * V.L.length + 8)) (Bd (2 * V.L.length + 8)) (Bd (2 * V.L.length + 8)) where
 name := fun X _ _ a => Bd_mk (by simp) (by simp)
 ofN := fun x h => h
 key := fun X _ _ a => Bd_mk (by simp) (by simp)
 num := fun X _ _ a => Bd_mk (by simp) (by simp)
 text := fun X _ _ a => Bd_mk (by simp) (by simp)
 word := fun k a _ => Bd_nd (by simp) (by simp)
 func := fun l b a h1 h2 h3 => Bd_nd (by simp only [List.length_append, List.length_cons, List.length_nil]; omega) (fun x hx => by
  rcases List.mem_append.1 hx with hx | hx
  ·exact h1 x hx
  ·rw [List.mem_singleton.1 hx]; exact h3)
 un := fun t x a _ h => Bd_mk (by simp) (by simpa using h)
 bin := fun t x y a _ h1 h2 => Bd_mk (by simp) (by simp [h1, h2])
 index := fun x y a h1 h2 => Bd_nd (by simp) (by simp [h1, h2])
 call := fun x l a h1 h2 h3 => Bd_nd (by simp only [List.length_cons]; omega) (fun y hy => by
  rcases List.mem_cons.1 hy with rfl | hy
  ·exact h1
  ·exact h2 y hy)
 table := fun l a h1 h2 => Bd_nd (by omega) h1
 item := fun x a h => Bd_nd (by simp) (by simpa using h)
 pair := fun x y a h1 h2 => Bd_nd (by simp) (by simp [h1, h2])
 block := fun l a h1 _ h2 => Bd_nd (by omega) h1
 ret := fun l a h1 h2 => Bd_nd (by omega) h1
 locals := fun l m a _ h1 h2 h3 h4 => Bd_mk (by simp only [List.length_append]; omega) (fun x hx => by
  rcases List.mem_append.1 hx with hx | hx
  ·exact h1 x hx
  ·exact h2 x hx)
 localf := fun l b n a c h1 h2 h3 h4 => by
  have hf : Bd (2 * V.L.length + 8) (nd 7 (l ++ [b]) c) := Bd_nd (by simp only [List.length_append, List.length_cons, List.length_nil]; omega) (fun x hx => by
   rcases List.mem_append.1 hx with hx | hx
   ·exact h1 x hx
   ·rw [List.mem_singleton.1 hx]; exact h3)
  exact Bd_nd (by simp) (by simp [h4, hf])
 func2 := fun l b n a c h1 h2 h3 h4 => by
  have hf : Bd (2 * V.L.length + 8) (nd 7 (l ++ [b]) c) := Bd_nd (by simp only [List.length_append, List.length_cons, List.length_nil]; omega) (fun x hx => by
   rcases List.mem_append.1 hx with hx | hx
   ·exact h1 x hx
   ·rw [List.mem_singleton.1 hx]; exact h3)
  exact Bd_mk (by simp) (by simp [h4, hf])
 assign := fun n l m a h1 _ h2 h3 h4 => Bd_mk (by simp only [List.length_cons, List.length_append]; omega) (fun x hx => by
  rcases List.mem_cons.1 hx with rfl | hx
  ·exact (h1 x (by simp)).1
  ·rcases List.mem_append.1 hx with hx | hx
   ·exact (h1 x (by simp [hx])).1
   ·exact h2 x hx)
 callS := fun x a h _ => Bd_nd (by simp) (by simpa using h)
 choice := fun l a _ h1 m hm h2 => by
  have hl := flat2_len l
  have hml : m.length ≤ 1 := by
   rcases hm with rfl | ⟨b, _, rfl⟩ <;> simp
  refine Bd_nd (by rw [List.length_append, hl]; omega) (fun x hx => ?_)
  rcases List.mem_append.1 hx with hx | hx
  ·obtain ⟨y, hy, hx⟩ := List.mem_flatMap.1 hx
   simp only [List.mem_cons, List.not_mem_nil, or_false] at hx
   rcases hx with rfl | rfl
   ·exact (h1 y hy).1
   ·exact (h1 y hy).2
  ·rcases hm with rfl | ⟨b, hb, rfl⟩
   ·simp at hx
   ·rw [List.mem_singleton.1 hx]; exact hb
 loop := fun x b a h1 h2 => Bd_nd (by simp) (by simp [h1, h2])
 count := fun n x y l b a h1 h2 h3 h4 h5 => by
  have hll : l.length ≤ 1 := by
   rcases h4 with rfl | ⟨b, _, rfl⟩ <;> simp
  refine Bd_nd (by simp only [List.length_cons, List.length_append, List.length_nil]; omega) (fun z hz => ?_)
  simp only [List.mem_cons, List.mem_append, List.not_mem_nil, or_false] at hz
  rcases hz with rfl | rfl | rfl | hz | rfl
  ·exact h1
  ·exact h2
  ·exact h3
  ·rcases h4 with rfl | ⟨b, hb, rfl⟩
   ·simp at hz
   ·rw [List.mem_singleton.1 hz]; exact hb
  ·exact h5
 brk := fun a => Bd_nd (by simp) (by simp)
 group := fun b a h => Bd_nd (by simp) (by simpa using h)
theorem Bd.mono {n m : Nat} (h : n ≤ m) : ∀ (s : Nat) (x : Tr), SizeOf.sizeOf x < s → Bd n x → Bd m x := by
 intro s
 induction s with
 | zero => intro x hs; omega
 | succ s ih =>
  intro x hs hx
  obtain ⟨k, t, vt, vn, c, l, a⟩ := x
  unfold Bd at hx
  refine Bd_mk (Nat.le_trans hx.1 h) (fun y hy => ih y ?_ (Bds_iff.1 hx.2 y hy))
  have := List.sizeOf_lt_of_mem hy
  simp only [Tr.mk.sizeOf_spec] at hs
  omega
theorem whole_bd {V : Env} {x : Tr} (h : whole V = .ok x) (hl : V.L.length ≤ 8192) : Bd 20000 x := Bd.mono (by omega) _ x (Nat.lt_succ_self _) (whole_c (bd_clo V) h)

mutual
/-- Are two trees alike but for places? -/
def smB : Tr → Tr → Bool
 | .mk k t vt vn c l _, .mk k' t' vt' vn' c' l' _ => (k == k') && (t.toList == t'.toList) && (vt == vt' && vn == vn') && (c == c') && smL l l'
def smL : List Tr → List Tr → Bool
 | [], [] => true
 | x :: r, y :: s => smB x y && smL r s
 | [], _ :: _ => false
 | _ :: _, [] => false
end
theorem bytes_inj {a b : ByteArray} (h : a.toList = b.toList) : a = b := by
 rw [ByteArray.toList_eq, ByteArray.toList_eq] at h
 exact ByteArray.ext (Array.toList_inj.1 h)
mutual
theorem smB_iff : ∀ x y : Tr, smB x y = true ↔ tz x = tz y
 | .mk k t vt vn c l a, .mk k' t' vt' vn' c' l' a' => by
  simp only [smB, tz, Bool.and_eq_true, beq_iff_eq, Tr.mk.injEq, and_true, smL_iff l l']
  constructor
  ·rintro ⟨⟨⟨⟨rfl, h2⟩, rfl, rfl⟩, rfl⟩, h5⟩
   exact ⟨rfl, bytes_inj h2, rfl, rfl, rfl, h5⟩
  ·rintro ⟨rfl, rfl, rfl, rfl, rfl, h5⟩
   exact ⟨⟨⟨⟨rfl, rfl⟩, rfl, rfl⟩, rfl⟩, h5⟩
theorem smL_iff : ∀ l m : List Tr, smL l m = true ↔ tzs l = tzs m
 | [], [] => by simp [smL, tzs]
 | x :: r, y :: s => by
  simp only [smL, tzs, Bool.and_eq_true, List.cons.injEq, smB_iff x y, smL_iff r s]
 | [], _ :: _ => by simp [smL, tzs]
 | _ :: _, [] => by simp [smL, tzs]
end
theorem smL_len {l m : List Tr} (h : smL l m = true) : l.length = m.length := by
 have := (smL_iff l m).1 h
 rw [tzs_map, tzs_map] at this
 simpa using congrArg List.length this
/-- The first i of both are alike. -/
theorem smL_take {l m : List Tr} (hl : l.length = m.length) : smL l m = true ↔ ∀ i (h1 : i < l.length) (h2 : i < m.length), smB l[i] m[i] = true := by
 rw [smL_iff, tzs_map, tzs_map]
 constructor
 ·intro h i h1 h2
  rw [smB_iff]
  have := congrArg (fun z => z[i]?) h
  simpa [h1, h2] using this
 ·intro h
  refine List.ext_getElem (by simpa using hl) (fun i h1 h2 => ?_)
  simp only [List.getElem_map]
  exact (smB_iff _ _).1 (h i (by simpa using h1) (by simpa using h2))
end Go.Proofs.YtgkgpjbbmnfnmaaGreatDoor

/- Printed trees: the function. -/
namespace Go.Proofs.YtgkgpjbbmnfnmaaGreatDoor
set_option linter.unusedSimpArgs false
set_option linter.unusedVariables false

/-- With commas between. -/
def commaP : List (List ByteArray) → List ByteArray
 | [] => []
 | x :: r => x ++ (r.map (fun y => ⟨#[44]⟩ :: y)).flatten
def bodyP (ps : List (List ByteArray)) : List ByteArray := [⟨#[40]⟩] ++ commaP ps.dropLast ++ [⟨#[41]⟩] ++ ps.getLastD [] ++ [⟨#[101, 110, 100]⟩]
def headP (k : Int) (p : List ByteArray) : List ByteArray := if k = 6 ∨ k = 10 ∨ k = 11 then p else [⟨#[40]⟩] ++ p ++ [⟨#[41]⟩]
def keyP (p : List ByteArray) : List ByteArray := [⟨#[91]⟩] ++ p ++ [⟨#[93]⟩]
def doP (p : List ByteArray) : List ByteArray := [⟨#[100, 111]⟩] ++ p ++ [⟨#[101, 110, 100]⟩]
def chP (word : ByteArray) : List (List ByteArray) → List ByteArray
 | [] => [⟨#[101, 110, 100]⟩]
 | [b] => [⟨#[101, 108, 115, 101]⟩] ++ b ++ [⟨#[101, 110, 100]⟩]
 | x :: b :: r => [word] ++ x ++ [⟨#[116, 104, 101, 110]⟩] ++ b ++ chP ⟨#[101, 108, 115, 101, 105, 102]⟩ r
def prN (nt : Int → Int → ByteArray) (qt : ByteArray → ByteArray) (k : Int) (t : ByteArray) (vt vn c : Int) (ks : List Int) (ps : List (List ByteArray)) : List ByteArray :=
 if k = 1 then [⟨#[110, 105, 108]⟩] else if k = 2 then [⟨#[116, 114, 117, 101]⟩] else if k = 3 then [⟨#[102, 97, 108, 115, 101]⟩]
 else if k = 4 then [nt vt vn] else if k = 5 then [qt t] else if k = 6 then [t]
 else if k = 7 then [⟨#[102, 117, 110, 99, 116, 105, 111, 110]⟩] ++ bodyP ps
 else if k = 8 then [⟨#[40]⟩] ++ ps.getD 0 [] ++ [t] ++ ps.getD 1 [] ++ [⟨#[41]⟩]
 else if k = 9 then [⟨#[40]⟩, t] ++ ps.getD 0 [] ++ [⟨#[41]⟩]
 else if k = 10 then headP (ks.getD 0 0) (ps.getD 0 []) ++ keyP (ps.getD 1 [])
 else if k = 11 then headP (ks.getD 0 0) (ps.getD 0 []) ++ [⟨#[40]⟩] ++ commaP (ps.drop 1) ++ [⟨#[41]⟩]
 else if k = 12 then [⟨#[123]⟩] ++ commaP ps ++ [⟨#[125]⟩]
 else if k = 13 then ps.getD 0 []
 else if k = 14 then keyP (ps.getD 0 []) ++ [⟨#[61]⟩] ++ ps.getD 1 []
 else if k = 20 then (ps.map (fun y => y ++ [⟨#[59]⟩])).flatten
 else if k = 21 then [⟨#[108, 111, 99, 97, 108]⟩] ++ commaP (ps.take c.toNat) ++ (if c.toNat < ps.length then [⟨#[61]⟩] ++ commaP (ps.drop c.toNat) else [])
 else if k = 22 then commaP (ps.take c.toNat) ++ [⟨#[61]⟩] ++ commaP (ps.drop c.toNat)
 else if k = 23 then ps.getD 0 []
 else if k = 24 then chP ⟨#[105, 102]⟩ ps
 else if k = 25 then [⟨#[119, 104, 105, 108, 101]⟩] ++ ps.getD 0 [] ++ doP (ps.getD 1 [])
 else if k = 26 then [⟨#[102, 111, 114]⟩] ++ ps.getD 0 [] ++ [⟨#[61]⟩] ++ commaP (ps.drop 1).dropLast ++ doP (ps.getLastD [])
 else if k = 27 then [⟨#[114, 101, 116, 117, 114, 110]⟩] ++ commaP ps
 else if k = 28 then [⟨#[98, 114, 101, 97, 107]⟩]
 else if k = 29 then [⟨#[108, 111, 99, 97, 108]⟩, ⟨#[102, 117, 110, 99, 116, 105, 111, 110]⟩] ++ ps.getD 0 [] ++ (ps.getD 1 []).drop 1
 else if k = 30 then doP (ps.getD 0 [])
 else []
section
variable (nt : Int → Int → ByteArray) (qt : ByteArray → ByteArray)
mutual
/-- A tree's tokens. -/
def prT : Tr → List ByteArray
 | .mk k t vt vn c l _ => prN nt qt k t vt vn c (l.map Tr.k) (prTs l)
def prTs : List Tr → List (List ByteArray)
 | [] => []
 | x :: r => prT x :: prTs r
end
theorem prTs_map : ∀ l, prTs nt qt l = l.map (prT nt qt)
 | [] => by simp [prTs]
 | x :: r => by rw [prTs, prTs_map r]; rfl
end
end Go.Proofs.YtgkgpjbbmnfnmaaGreatDoor
