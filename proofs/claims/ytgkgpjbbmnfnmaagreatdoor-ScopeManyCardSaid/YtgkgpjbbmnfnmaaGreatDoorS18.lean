/- Scope: what a source's tree is like; Resolve. -/
import Derived.Test.YtgkgpjbbmnfnmaaGreatDoorS17
import Derived.Test.YtgkgpjbbmnfnmaaGreatDoorMR
namespace Go.Proofs.YtgkgpjbbmnfnmaaGreatDoor
open Go.RowKit
set_option linter.unusedSimpArgs false
set_option linter.unusedVariables false

theorem Lx.places {s : ByteArray} {hs : s.size ≤ 8192} {k : Nat} {e : Option (Nat × Int)} {L : List Tk} (h : Lx s hs k e L) : ∀ Y ∈ L, 0 ≤ Y.a ∧ Y.a ≤ (s.size : Int) := by
  induction h with
  | done k hk => intro Y hY; cases hY
  | bad k x hk hx h0 => intro Y hY; cases hY
  | more k E X e L hk h1 h2 h3 h4 h5 h6 ih =>
    intro Y hY
    rcases List.mem_cons.1 hY with rfl | hY
    · obtain ⟨n, K, vt, vn, sy, q1, q2, q3, q4, q5⟩ := tk_ok s hk hs h1
      rw [h2] at q5
      rw [q5]
      exact ⟨by show (0 : Int) ≤ (k : Int); omega, by show (k : Int) ≤ _; omega⟩
    · exact ih Y hY
theorem at_bd {s : ByteArray} {L : List Tk} (h : ∀ Y ∈ L, 0 ≤ Y.a ∧ Y.a ≤ (s.size : Int)) (q : Nat) : 0 ≤ (Env.at ⟨L, (s.size : Int)⟩ q) ∧ Env.at ⟨L, (s.size : Int)⟩ q ≤ (s.size : Int) := by
  unfold Env.at
  by_cases hq : q < L.length
  · exact h _ (tk_mem (V := ⟨L, (s.size : Int)⟩) hq)
  · rw [end_tk (V := ⟨L, (s.size : Int)⟩) (by show L.length ≤ q; omega)]
    exact ⟨by show (0 : Int) ≤ (s.size : Int); omega, by show (s.size : Int) ≤ _; omega⟩
theorem ends_err {s : ByteArray} {R : Except (Int × Int) Tr} (h : PsR s R) : ∀ a c, R = .error (a, c) → c ≠ 0 ∧ 0 ≤ a ∧ a ≤ (s.size : Int) := by
  intro a c hR
  rcases h with ⟨hs, rfl⟩ | ⟨hs, e, L, hL, rfl⟩
  · simp only [Except.error.injEq, Prod.mk.injEq] at hR
    rw [← hR.1, ← hR.2]
    exact ⟨by decide, by decide, by omega⟩
  · cases e with
    | some e =>
      obtain ⟨k, x⟩ := e
      obtain ⟨h1, h2⟩ := hL.err k x rfl
      simp only [Except.error.injEq, Prod.mk.injEq] at hR
      rw [← hR.1, ← hR.2]
      exact ⟨h1, by omega, by omega⟩
    | none =>
      dsimp only at hR
      obtain ⟨⟨q, rfl⟩, hc⟩ := whole_place hR
      have := at_bd hL.places q
      exact ⟨by rcases hc with rfl | rfl <;> decide, this.1, this.2⟩
/-! Shapes and sizes. -/
theorem shpL_of {l : List Tr} (h : ∀ x ∈ l, Shp x) : ShpL l := by
  induction l with
  | nil => exact trivial
  | cons x r ih => exact ⟨h x (by simp), ih (fun y hy => h y (by simp [hy]))⟩
theorem shpL_app {l m : List Tr} : ShpL (l ++ m) ↔ ShpL l ∧ ShpL m := by
  induction l with
  | nil => simp [ShpL]
  | cons x r ih => rw [List.cons_append, ShpL, ShpL, ih, and_assoc]
/-- Of the tokens from p to q: a shape, and how many nodes at most. -/
def NP (p q : Nat) (x : Tr) : Prop := p < q ∧ x.k = 6 ∧ Shp x ∧ nn x = 1
def EP (p q : Nat) (x : Tr) : Prop := p < q ∧ Shp x ∧ nn x + 1 ≤ 3 * (q - p)
def IP (p q : Nat) (x : Tr) : Prop := p < q ∧ Shp x ∧ nn x ≤ 3 * (q - p)
def BP (p q : Nat) (x : Tr) : Prop := p ≤ q ∧ Shp x ∧ nn x ≤ 3 * (q - p) + 1
theorem rl_sum {P : Nat → Nat → Tr → Prop} (hP : ∀ p q x, P p q x → p < q ∧ Shp x ∧ nn x ≤ 3 * (q - p)) {p q : Nat} {l : List Tr} (h : RL P p q l) : p ≤ q ∧ ShpL l ∧ nnL l ≤ 3 * (q - p) := by
  induction h with
  | nil p q h => exact ⟨h, trivial, by simp [nnL]⟩
  | one p q r x h h3 =>
    obtain ⟨h1, h2, h4⟩ := hP _ _ _ h
    exact ⟨by omega, ⟨h2, trivial⟩, by simp only [nnL]; omega⟩
  | more p q r s x y l h h3 h4 ih =>
    obtain ⟨h1, h2, h5⟩ := hP _ _ _ h
    refine ⟨by omega, ⟨h2, ih.2.1⟩, ?_⟩
    have := ih.2.2
    rw [nnL]
    omega
theorem rs_sum {p q : Nat} {l : List Tr} (h : RS IP p q l) : p ≤ q ∧ ShpL l ∧ nnL l ≤ 3 * (q - p) := by
  induction h with
  | nil p q h => exact ⟨h, trivial, by simp [nnL]⟩
  | more p q r s x l h h3 h4 ih =>
    obtain ⟨h1, h2, h5⟩ := h
    refine ⟨by omega, ⟨h2, ih.2.1⟩, ?_⟩
    have := ih.2.2
    rw [nnL]
    omega
theorem rc_sum {p q : Nat} {l : List (Tr × Tr)} (h : RC EP BP p q l) : p < q ∧ ShpL (l.flatMap (fun x => [x.1, x.2])) ∧ nnL (l.flatMap (fun x => [x.1, x.2])) ≤ 3 * (q - p) := by
  induction h with
  | one p q s x b h1 h2 =>
    obtain ⟨a1, a2, a3⟩ := h1
    obtain ⟨b1, b2, b3⟩ := h2
    refine ⟨by omega, ⟨a2, b2, trivial⟩, ?_⟩
    simp only [List.flatMap_cons, List.flatMap_nil, List.append_nil, nnL]
    omega
  | more p q s e x b l h1 h2 h3 ih =>
    obtain ⟨a1, a2, a3⟩ := h1
    obtain ⟨b1, b2, b3⟩ := h2
    obtain ⟨c1, c2, c3⟩ := ih
    refine ⟨by omega, ?_, ?_⟩
    · rw [List.flatMap_cons]
      exact ⟨a2, b2, c2⟩
    · rw [List.flatMap_cons, nnL_app]
      simp only [nnL]
      omega
theorem rl_six {p q : Nat} {l : List Tr} (h : RL NP p q l) : ∀ x ∈ l, x.k = 6 := by
  induction h with
  | nil p q h => intro x hx; cases hx
  | one p q r x h h3 => intro y hy; rw [List.mem_singleton.1 hy]; exact h.2.1
  | more p q r s x y l h h3 h4 ih =>
    intro z hz
    rcases List.mem_cons.1 hz with rfl | hz
    · exact h.2.1
    · exact ih z hz
theorem ep_ip {p q : Nat} {x : Tr} (h : EP p q x) : p < q ∧ Shp x ∧ nn x ≤ 3 * (q - p) := ⟨h.1, h.2.1, by have := h.2.2; omega⟩
theorem np_ip {p q : Nat} {x : Tr} (h : NP p q x) : p < q ∧ Shp x ∧ nn x ≤ 3 * (q - p) := ⟨h.1, h.2.2.1, by have := h.2.2.2; have := h.1; omega⟩
theorem shp_plain {k : Int} {t : ByteArray} {vt vn n : Int} {l : List Tr} {a : Int} (h : ShpL l) (q : k ≠ 7 ∧ k ≠ 21 ∧ k ≠ 26 ∧ k ≠ 29) : Shp (.mk k t vt vn n l a) := by
  unfold Shp
  exact ⟨⟨fun e => absurd e q.1, fun e => absurd e q.2.1, fun e => absurd e q.2.2.1, fun e => absurd e q.2.2.2⟩, h, fun e => absurd e q.1, fun e => absurd e q.2.1, fun e => e.elim (fun e => absurd e q.2.2.1) (fun e => absurd e q.2.2.2)⟩
theorem nn_nd (k : Int) (l : List Tr) (a : Int) : nn (nd k l a) = 1 + nnL l := by unfold nd; rw [nn]
theorem nn_mk (k : Int) (t : ByteArray) (vt vn n : Int) (l : List Tr) (a : Int) : nn (.mk k t vt vn n l a) = 1 + nnL l := by rw [nn]
theorem func_shp {l : List Tr} {b : Tr} {a : Int} (h : ShpL l) (hb : Shp b) (h6 : ∀ x ∈ l, x.k = 6) : Shp (nd 7 (l ++ [b]) a) := by
  unfold nd Shp
  refine ⟨⟨fun _ => by simp, fun e => absurd e (by decide), fun e => absurd e (by decide), fun e => absurd e (by decide)⟩, shpL_app.2 ⟨h, hb, trivial⟩, fun _ => ?_, fun e => absurd e (by decide), fun e => absurd e (by decide)⟩
  have e : (l ++ [b]).take ((l ++ [b]).length - 1) = l := by simp
  rw [e]
  exact h6
theorem nnL_one (x : Tr) : nnL [x] = nn x := by simp [nnL]
theorem cloS (V : Env) : CloR V NP EP IP IP BP where
  wid p p' q q' x h h1 h2 := ⟨by have := h.1; omega, h.2.1, by have := h.2.2; omega⟩
  widS p p' q q' x h h1 h2 := ⟨by have := h.1; omega, h.2.1, by have := h.2.2; omega⟩
  name p h1 h2 := ⟨by omega, rfl, shp_plain trivial (by decide), by rw [nn_mk]; rfl⟩
  ofN p q x h := ⟨h.1, h.2.2.1, by have := h.1; have := h.2.2.2; omega⟩
  key p h1 h2 := ⟨by omega, shp_plain trivial (by decide), by rw [nn_mk]; simp only [nnL]; omega⟩
  num p h1 h2 := ⟨by omega, shp_plain trivial (by decide), by rw [nn_mk]; simp only [nnL]; omega⟩
  text p h1 h2 := ⟨by omega, shp_plain trivial (by decide), by rw [nn_mk]; simp only [nnL]; omega⟩
  word p k a h := ⟨by omega, shp_plain trivial (by omega), by rw [nn_nd]; simp only [nnL]; omega⟩
  func p q s l b a h1 h2 := by
    obtain ⟨a1, a2, a3⟩ := rl_sum (fun _ _ _ => np_ip) h1
    obtain ⟨b1, b2, b3⟩ := h2
    refine ⟨by omega, func_shp a2 b2 (rl_six ‹RL NP _ _ l›), ?_⟩
    rw [nn_nd, nnL_app, nnL_one]
    omega
  un p q t x a h1 h2 := ⟨by have := h2.1; omega, shp_plain ⟨h2.2.1, trivial⟩ (by decide), by rw [nn_mk, nnL_one]; have := h2.1; have := h2.2.2; omega⟩
  bin p q r t x y a h1 h2 h3 := ⟨by have := h2.1; have := h3.1; omega, shp_plain ⟨h2.2.1, h3.2.1, trivial⟩ (by decide), by rw [nn_mk]; simp only [nnL]; have := h2.1; have := h3.1; have := h2.2.2; have := h3.2.2; omega⟩
  dot p q x y a h1 h2 := ⟨by have := h1.1; omega, shp_plain ⟨h1.2.1, h2.2.1, trivial⟩ (by decide), by rw [nn_nd]; simp only [nnL]; have := h1.1; have := h1.2.2; have := h2.2.2; omega⟩
  index p q r x y a h1 h2 := ⟨by have := h1.1; have := h2.1; omega, shp_plain ⟨h1.2.1, h2.2.1, trivial⟩ (by decide), by rw [nn_nd]; simp only [nnL]; have := h1.1; have := h2.1; have := h1.2.2; have := h2.2.2; omega⟩
  call p q r x l a h1 h2 := by
    obtain ⟨a1, a2, a3⟩ := rl_sum (fun _ _ _ => ep_ip) h2
    exact ⟨by have := h1.1; omega, shp_plain ⟨h1.2.1, a2⟩ (by decide), by rw [nn_nd]; simp only [nnL]; have := h1.1; have := h1.2.2; omega⟩
  table p q l a h := by
    obtain ⟨a1, a2, a3⟩ := rl_sum (fun _ _ _ h => h) h
    exact ⟨by omega, shp_plain a2 (by decide), by rw [nn_nd]; omega⟩
  item p q x a h := ⟨h.1, shp_plain ⟨h.2.1, trivial⟩ (by decide), by rw [nn_nd, nnL_one]; have := h.2.2; omega⟩
  keyed p q x y a h1 h2 := ⟨by have := h2.1; omega, shp_plain ⟨h1.2.1, h2.2.1, trivial⟩ (by decide), by rw [nn_nd]; simp only [nnL]; have := h2.1; have := h1.2.2; have := h2.2.2; omega⟩
  pair p q r x y a h1 h2 := ⟨by have := h1.1; have := h2.1; omega, shp_plain ⟨h1.2.1, h2.2.1, trivial⟩ (by decide), by rw [nn_nd]; simp only [nnL]; have := h1.1; have := h2.1; have := h1.2.2; have := h2.2.2; omega⟩
  block p q l a h _ := by
    obtain ⟨a1, a2, a3⟩ := rs_sum h
    exact ⟨a1, shp_plain a2 (by decide), by rw [nn_nd]; omega⟩
  ret p q l a h := by
    obtain ⟨a1, a2, a3⟩ := rl_sum (fun _ _ _ => ep_ip) h
    exact ⟨by omega, shp_plain a2 (by decide), by rw [nn_nd]; omega⟩
  locals p q r l m a hl h1 h2 := by
    obtain ⟨a1, a2, a3⟩ := rl_sum (fun _ _ _ => np_ip) h1
    have hm : p < r ∧ ShpL m ∧ nnL m ≤ 3 * (r - q) ∧ q ≤ r := by
      rcases h2 with ⟨rfl, rfl⟩ | h2
      · exact ⟨by omega, trivial, by simp [nnL], by omega⟩
      · obtain ⟨b1, b2, b3⟩ := rl_sum (fun _ _ _ => ep_ip) h2
        exact ⟨by omega, b2, by omega, by omega⟩
    refine ⟨hm.1, ?_, ?_⟩
    · unfold Shp
      refine ⟨⟨fun e => absurd e (by decide), fun _ => ⟨l.length, rfl, List.length_pos_iff.2 hl, by simp⟩, fun e => absurd e (by decide), fun e => absurd e (by decide)⟩, shpL_app.2 ⟨a2, hm.2.1⟩, fun e => absurd e (by decide), fun _ => ?_, fun e => absurd e (by decide)⟩
      rw [Int.toNat_natCast, List.take_left']
      · exact rl_six h1
      · rfl
    · rw [nn_mk, nnL_app]
      have := hm.2.2
      omega
  localf p q s l b n a c h1 h2 h3 := by
    obtain ⟨a1, a2, a3⟩ := rl_sum (fun _ _ _ => np_ip) h2
    obtain ⟨b1, b2, b3⟩ := h3
    obtain ⟨d1, d2, d3, d4⟩ := h1
    refine ⟨by omega, ?_, ?_⟩
    · unfold nd Shp
      exact ⟨⟨fun e => absurd e (by decide), fun e => absurd e (by decide), fun e => absurd e (by decide), fun _ => by simp⟩, ⟨d3, func_shp a2 b2 (rl_six ‹RL NP _ _ l›), trivial⟩, fun e => absurd e (by decide), fun e => absurd e (by decide), fun _ y hy => by rw [List.take_succ_cons, List.take_zero, List.mem_singleton] at hy; rw [hy]; exact d2⟩
    · rw [nn_nd]
      simp only [nnL]
      rw [nn_nd, nnL_app, nnL_one]
      omega
  func2 p q s l b n a c h1 h2 h3 := by
    obtain ⟨a1, a2, a3⟩ := rl_sum (fun _ _ _ => np_ip) h2
    obtain ⟨b1, b2, b3⟩ := h3
    obtain ⟨d1, d2, d3, d4⟩ := h1
    refine ⟨by omega, shp_plain ⟨d3, func_shp a2 b2 (rl_six ‹RL NP _ _ l›), trivial⟩ (by decide), ?_⟩
    rw [nn_mk]
    simp only [nnL]
    rw [nn_nd, nnL_app, nnL_one]
    omega
  assign p q r n l m a h1 h2 hm h3 := by
    obtain ⟨a1, a2, a3⟩ := rl_sum (fun _ _ _ => ep_ip) h1
    obtain ⟨b1, b2, b3⟩ := rl_sum (fun _ _ _ => ep_ip) h3
    refine ⟨by omega, shp_plain ?_ (by decide), ?_⟩
    · rw [← List.cons_append]
      exact shpL_app.2 ⟨a2, b2⟩
    · rw [nn_mk, ← List.cons_append, nnL_app]
      omega
  callS p q x a h _ := ⟨h.1, shp_plain ⟨h.2.1, trivial⟩ (by decide), by rw [nn_nd, nnL_one]; have := h.2.2; omega⟩
  choice p q r l m a h1 h2 := by
    obtain ⟨a1, a2, a3⟩ := rc_sum h1
    have hm : p < r + 1 ∧ ShpL m ∧ nnL m + 1 ≤ 3 * (r + 1 - q) := by
      rcases h2 with ⟨rfl, rfl⟩ | ⟨b, hb, rfl⟩
      · exact ⟨by omega, trivial, by simp only [nnL]; omega⟩
      · obtain ⟨b1, b2, b3⟩ := hb
        exact ⟨by omega, ⟨b2, trivial⟩, by rw [nnL_one]; omega⟩
    refine ⟨hm.1, shp_plain (shpL_app.2 ⟨a2, hm.2.1⟩) (by decide), ?_⟩
    rw [nn_nd, nnL_app]
    have := hm.2.2
    omega
  loop p q s x b a h1 h2 := ⟨by have := h1.1; have := h2.1; omega, shp_plain ⟨h1.2.1, h2.2.1, trivial⟩ (by decide), by rw [nn_nd]; simp only [nnL]; have := h1.1; have := h2.1; have := h1.2.2; have := h2.2.2; omega⟩
  count p q r s e n x y l b a h1 h2 h3 h4 h5 := by
    obtain ⟨d1, d2, d3, d4⟩ := h1
    obtain ⟨x1, x2, x3⟩ := h2
    obtain ⟨y1, y2, y3⟩ := h3
    obtain ⟨b1, b2, b3⟩ := h5
    have hm : r ≤ s ∧ ShpL l ∧ nnL l ≤ 3 * (s - r) := by
      rcases h4 with ⟨rfl, rfl⟩ | ⟨z, hz, rfl⟩
      · exact ⟨by omega, trivial, by simp [nnL]⟩
      · obtain ⟨z1, z2, z3⟩ := hz
        exact ⟨by omega, ⟨z2, trivial⟩, by rw [nnL_one]; omega⟩
    refine ⟨by omega, ?_, ?_⟩
    · unfold nd Shp
      exact ⟨⟨fun e => absurd e (by decide), fun e => absurd e (by decide), fun _ => by simp, fun e => absurd e (by decide)⟩, ⟨d3, x2, y2, shpL_app.2 ⟨hm.2.1, b2, trivial⟩⟩, fun e => absurd e (by decide), fun e => absurd e (by decide), fun _ y hy => by rw [List.take_succ_cons, List.take_zero, List.mem_singleton] at hy; rw [hy]; exact d2⟩
    · rw [nn_nd]
      simp only [nnL]
      rw [nnL_app, nnL_one]
      have := hm.2.2
      omega
  brk p a := ⟨by omega, shp_plain trivial (by decide), by rw [nn_nd]; simp only [nnL]; omega⟩
  group p q b a h := ⟨by have := h.1; omega, shp_plain ⟨h.2.1, trivial⟩ (by decide), by rw [nn_nd, nnL_one]; have := h.1; have := h.2.2; omega⟩
theorem psr_shp {s : ByteArray} {R : Except (Int × Int) Tr} (h : PsR s R) : ∀ x, R = .ok x → Shp x ∧ nn x ≤ 80000 := by
  intro x hx
  rcases h with ⟨hs, rfl⟩ | ⟨hs, e, L, hL, rfl⟩
  · cases hx
  · cases e with
    | some e => cases hx
    | none =>
      obtain ⟨q, h1, h2, h3, h4⟩ := whole_r (cloS _) hx
      have hl := hL.len
      refine ⟨h3, ?_⟩
      have : q ≤ L.length := h1
      omega
end Go.Proofs.YtgkgpjbbmnfnmaaGreatDoor
