/- Joined: M4 M5 M6. -/
import Derived.Test.YtgkgpjbbmnfnmaaGreatDoorGE
/- The parser over tokens that are alike but for places. -/
namespace Go.Proofs.YtgkgpjbbmnfnmaaGreatDoor
set_option linter.unusedSimpArgs false
set_option linter.unusedVariables false
set_option linter.unusedSectionVars false

mutual
/-- A tree without its places. -/
def tz : Tr → Tr
 | .mk k t vt vn c l _ => .mk k t vt vn c (tzs l) 0
def tzs : List Tr → List Tr
 | [] => []
 | x :: r => tz x :: tzs r
end
theorem tzs_map : ∀ l, tzs l = l.map tz
 | [] => by simp [tzs]
 | x :: r => by rw [tzs, tzs_map r]; rfl
theorem tz_k (x : Tr) : (tz x).k = x.k := by cases x; rfl
theorem tz_eqk {x y : Tr} (h : tz x = tz y) : x.k = y.k := by rw [← tz_k x, h, tz_k]
theorem tz_mk {k : Int} {t : ByteArray} {vt vn c : Int} {l l' : List Tr} {a a' : Int} (h : l'.map tz = l.map tz) : tz (.mk k t vt vn c l' a') = tz (.mk k t vt vn c l a) := by
 simp only [tz, tzs_map, h]
theorem tz_nd {k : Int} {l l' : List Tr} {a a' : Int} (h : l'.map tz = l.map tz) : tz (nd k l' a') = tz (nd k l a) := tz_mk h
def tzb (x : Tr × Bool) : Tr × Bool := (tz x.1, x.2)
def tzp (x : Tr × Tr) : Tr × Tr := (tz x.1, tz x.2)
theorem len_eq {l l' : List Tr} (h : l'.map tz = l.map tz) : l'.length = l.length := by have := congrArg List.length h; simpa using this

/-- Two rows of tokens: those of the first are in the second, moved by d; ex: with nothing behind them. -/
structure Sm (V V' : Env) (d : Nat) (ex : Bool) : Prop where
 len : V.L.length + d ≤ V'.L.length
 tok : ∀ p, p < V.L.length → (V'.tk (p + d)).k = (V.tk p).k ∧ (V'.tk (p + d)).t = (V.tk p).t ∧ (V'.tk (p + d)).vt = (V.tk p).vt ∧ (V'.tk (p + d)).vn = (V.tk p).vn ∧ (V'.tk (p + d)).sy = (V.tk p).sy
 last : ex = true → V'.L.length = V.L.length + d
 bt : (V'.tk (V.L.length + d)).t.data.toList = [] ∨ (V'.tk (V.L.length + d)).t.data.toList = [59] ∨ (V'.tk (V.L.length + d)).t.data.toList = [41]
 bk : (V'.tk (V.L.length + d)).k ≠ 1 ∧ (V'.tk (V.L.length + d)).k ≠ 3 ∧ (V'.tk (V.L.length + d)).k ≠ 4

/-- What is made of both. -/
def SimR (V V' : Env) (ex dp : Bool) (d : Nat) {α β : Type} (z : α → β) (R R' : PR α) : Prop := match R with
 | .ok (x, q) => (∃ x', R' = .ok (x', q + d) ∧ z x' = z x) ∨ (dp = true ∧ ∃ a, R' = .error (a, 14))
 | .error (a, c) => ex = true → ∃ q, a = V.at q ∧ (c = 6 ∨ c = 14) ∧ R' = .error (V'.at (q + d), c)
/-- .. where it must not end at the last token. -/
def SimB (V V' : Env) (ex dp : Bool) (d b : Nat) {α β : Type} (z : α → β) (R R' : PR α) : Prop := match R with
 | .ok (x, q) => (q < b ∨ ex = true) → (∃ x', R' = .ok (x', q + d) ∧ z x' = z x) ∨ (dp = true ∧ ∃ a, R' = .error (a, 14))
 | .error (a, c) => ex = true → ∃ q, a = V.at q ∧ (c = 6 ∨ c = 14) ∧ R' = .error (V'.at (q + d), c)
theorem SimR.b {V V' : Env} {ex dp : Bool} {d b : Nat} {α β : Type} {z : α → β} {R R' : PR α} (h : SimR V V' ex dp d z R R') : SimB V V' ex dp d b z R R' := by
 unfold SimR at h; unfold SimB
 split <;> simp_all
theorem SimR.dp {V V' : Env} {ex dp : Bool} {d : Nat} {α β : Type} {z : α → β} {R : PR α} {a : Int} (hx : ex = true → dp = false) (hd : dp = true) : SimR V V' ex dp d z R (.error (a, 14)) := by
 unfold SimR
 split
 ·exact .inr ⟨hd, _, rfl⟩
 ·intro h; rw [hx h] at hd; cases hd
theorem SimB.dp {V V' : Env} {ex dp : Bool} {d b : Nat} {α β : Type} {z : α → β} {R : PR α} {a : Int} (hx : ex = true → dp = false) (hd : dp = true) : SimB V V' ex dp d b z R (.error (a, 14)) := (SimR.dp hx hd).b
theorem SimR.bind {V V' : Env} {ex dp : Bool} {d : Nat} {α β γ δ : Type} {z : α → γ} {y : β → δ} {R R' : PR α} (h : SimR V V' ex dp d z R R') {F F' : PR α → PR β} (hF : ∀ e, F (.error e) = .error e) (hF' : ∀ e, F' (.error e) = .error e)
  (hK : ∀ x x' q, R = .ok (x, q) → z x' = z x → SimR V V' ex dp d y (F (.ok (x, q))) (F' (.ok (x', q + d)))) (hx : ex = true → dp = false) : SimR V V' ex dp d y (F R) (F' R') := by
 rcases R with ⟨a, c⟩ | ⟨x, q⟩
 ·rw [hF]; intro e; obtain ⟨q0, h0, y0, h'⟩ := h e; rw [h', hF']; exact ⟨q0, h0, y0, rfl⟩
 ·rcases h with ⟨x', h', hz⟩ | ⟨hd, a, h'⟩
  ·rw [h']; exact hK _ _ _ rfl hz
  ·rw [h', hF']; exact SimR.dp hx hd
/-- What must not end at the last token is followed by something. -/
theorem SimB.bind {V V' : Env} {ex dp : Bool} {d b : Nat} {α β γ δ : Type} {z : α → γ} {y : β → δ} {R R' : PR α} (h : SimB V V' ex dp d b z R R') {F F' : PR α → PR β} (hF : ∀ e, F (.error e) = .error e) (hF' : ∀ e, F' (.error e) = .error e)
  (hN : ∀ x q, R = .ok (x, q) → q < b ∨ ex = true ∨ ∃ e, F (.ok (x, q)) = .error e)
  (hK : ∀ x x' q, R = .ok (x, q) → z x' = z x → SimR V V' ex dp d y (F (.ok (x, q))) (F' (.ok (x', q + d)))) (hx : ex = true → dp = false) : SimR V V' ex dp d y (F R) (F' R') := by
 rcases R with ⟨a, c⟩ | ⟨x, q⟩
 ·rw [hF]; intro e; obtain ⟨q0, h0, y0, h'⟩ := h e; rw [h', hF']; exact ⟨q0, h0, y0, rfl⟩
 ·by_cases hq : q < b ∨ ex = true
  ·rcases h hq with ⟨x', h', hz⟩ | ⟨hd, a, h'⟩
   ·rw [h']; exact hK _ _ _ rfl hz
   ·rw [h', hF']; exact SimR.dp hx hd
  ·rcases hN x q rfl with h1 | h1 | ⟨⟨a, c⟩, h1⟩
   ·exact absurd (.inl h1) hq
   ·exact absurd (.inr h1) hq
   ·rw [h1]; intro e; exact absurd (.inr e) hq

section
variable {V V' : Env} {d : Nat} {ex dp : Bool} (h : Sm V V' d ex)
include h
theorem Sm.is {s : List UInt8} {p : Nat} (hp : p < V.L.length) : V'.is s (p + d) = V.is s p := by unfold Env.is; rw [(h.tok p hp).2.1]
theorem Sm.isB {s : List UInt8} {p : Nat} (hp : p ≤ V.L.length) (h0 : s ≠ []) (h1 : s ≠ [59]) (h2 : s ≠ [41]) : V'.is s (p + d) = V.is s p := by
 rcases Nat.lt_or_ge p V.L.length with h' | h'
 ·exact h.is h'
 ·have e : p = V.L.length := by omega
  subst e
  cases hi : V.is s V.L.length with
  | true => exact absurd (is_lt hi h0) (by omega)
  | false =>
   unfold Env.is
   rcases h.bt with e | e | e <;> rw [e] <;> simp <;> intro e <;> simp_all
theorem Sm.isX {s : List UInt8} {p : Nat} (hp : p ≤ V.L.length) (h0 : s ≠ []) (hx : ex = true) : V'.is s (p + d) = V.is s p := by
 rcases Nat.lt_or_ge p V.L.length with h' | h'
 ·exact h.is h'
 ·have e : p = V.L.length := by omega
  subst e
  cases hi : V.is s V.L.length with
  | true => exact absurd (is_lt hi h0) (by omega)
  | false =>
   cases hj : V'.is s (V.L.length + d) with
   | false => rfl
   | true => exact absurd (is_lt hj h0) (by rw [h.last hx]; omega)
theorem Sm.isName {p : Nat} (hp : p ≤ V.L.length) : V'.isName (p + d) = V.isName p := by
 rcases Nat.lt_or_ge p V.L.length with h' | h'
 ·unfold Env.isName; rw [(h.tok p h').1]
 ·have e : p = V.L.length := by omega
  subst e
  cases hi : V.isName V.L.length with
  | true => exact absurd (kind_lt hi (by decide)) (by omega)
  | false => unfold Env.isName; simpa using h.bk.1
theorem Sm.kind {p : Nat} (hp : p ≤ V.L.length) (k : Int) (hk : k = 3 ∨ k = 4) : ((V'.tk (p + d)).k == k) = ((V.tk p).k == k) := by
 rcases Nat.lt_or_ge p V.L.length with h' | h'
 ·rw [(h.tok p h').1]
 ·have e : p = V.L.length := by omega
  subst e
  cases hi : ((V.tk V.L.length).k == k) with
  | true => exact absurd (kind_lt hi (by omega)) (by omega)
  | false => rcases hk with rfl | rfl <;> simp [h.bk.2.1, h.bk.2.2]
theorem not_is {s : List UInt8} (h0 : s ≠ []) : V.is s V.L.length = false := by
 cases hi : V.is s V.L.length with
 | false => rfl
 | true => exact absurd (is_lt hi h0) (by omega)
theorem need_sm {s : List UInt8} (h0 : s ≠ []) {p : Nat} (hp : p ≤ V.L.length) : SimR V V' ex dp d id (V.need s p) (V'.need s (p + d)) := by
 unfold Env.need
 cases hi : V.is s p with
 | true =>
  rw [if_pos rfl, h.is (is_lt hi h0), hi, if_pos rfl]
  exact .inl ⟨(), by rw [show p + d + 1 = p + 1 + d by omega], rfl⟩
 | false =>
  rw [if_neg (by decide)]
  intro e
  rw [h.isX hp h0 e, hi, if_neg (by decide)]
  exact ⟨_, rfl, (by first | exact .inl rfl | exact .inr rfl), rfl⟩
theorem name_sm {p : Nat} (hp : p ≤ V.L.length) : SimR V V' ex dp d tz (V.name p) (V'.name (p + d)) := by
 unfold Env.name
 rw [h.isName hp]
 cases hi : V.isName p with
 | true =>
  rw [if_pos rfl, if_pos rfl, (h.tok p (kind_lt hi (by decide))).2.1]
  exact .inl ⟨_, by rw [show p + d + 1 = p + 1 + d by omega], tz_mk rfl⟩
 | false =>
  rw [if_neg (by decide), if_neg (by decide)]
  exact fun _ => ⟨_, rfl, (by first | exact .inl rfl | exact .inr rfl), rfl⟩
theorem key_sm {p : Nat} (hp : p ≤ V.L.length) : SimR V V' ex dp d tz (V.key p) (V'.key (p + d)) := by
 unfold Env.key
 rw [h.isName hp]
 cases hi : V.isName p with
 | true =>
  rw [if_pos rfl, if_pos rfl, (h.tok p (kind_lt hi (by decide))).2.1]
  exact .inl ⟨_, by rw [show p + d + 1 = p + 1 + d by omega], tz_mk rfl⟩
 | false =>
  rw [if_neg (by decide), if_neg (by decide)]
  exact fun _ => ⟨_, rfl, (by first | exact .inl rfl | exact .inr rfl), rfl⟩
theorem sep_sm (hx : ex = true → dp = false) {f f' : Nat → PR Tr} (hf : ∀ p, p ≤ V.L.length → SimR V V' ex dp d tz (f p) (f' (p + d))) (gf : Gos V f) : ∀ n n' p, p ≤ V.L.length → V.L.length ≤ p + n → V'.L.length ≤ p + d + n' → SimR V V' ex dp d (List.map tz) (V.sep f n p) (V'.sep f' n' (p + d)) := by
 have hlen := h.len
 intro n
 induction n with
 | zero =>
  intro n' p hp h1 h2
  rcases hR : f p with e | ⟨x, q⟩
  ·have hS := hf p hp
   rw [hR] at hS
   unfold Env.sep
   rw [hR]
   obtain ⟨a, c⟩ := e
   intro hx
   obtain ⟨q0, h0, y0, e'⟩ := hS hx
   refine ⟨q0, h0, y0, ?_⟩
   cases n' <;> simp only [Env.sep, e']
  ·have := gf _ _ _ hR
   omega
 | succ n ih =>
  intro n' p hp h1 h2
  cases n' with
  | zero =>
   rcases hR : f p with e | ⟨x, q⟩
   ·have hS := hf p hp
    rw [hR] at hS
    unfold Env.sep
    rw [hR]
    obtain ⟨a, c⟩ := e
    intro hx
    obtain ⟨q0, h0, y0, e'⟩ := hS hx
    refine ⟨q0, h0, y0, ?_⟩
    simp only [e']
   ·have := gf _ _ _ hR
    omega
  | succ n' =>
   unfold Env.sep
   have hS := hf p hp
   rcases e : f p with ⟨a0, c0⟩ | ⟨x, q⟩
   ·rw [e] at hS
    intro x0
    obtain ⟨q0, h0, y0, e1⟩ := hS x0
    rw [e1]
    exact ⟨q0, h0, y0, rfl⟩
   rw [e] at hS
   rcases hS with ⟨x', e1, z⟩ | ⟨hd, a0, e1⟩
   case' inr => rw [e1]; exact SimR.dp hx hd
   rw [e1]
   clear e1
   dsimp only
   have hg := gf _ _ _ e
   rw [h.isB (s := [44]) (p := q) (by omega) (by decide) (by decide) (by decide)]
   cases hi : V.is [44] q with
   | true =>
    have hq := is_lt hi (by decide)
    simp only [if_pos]
    rw [show q + d + 1 = q + 1 + d by omega]
    have hS := ih n' (q + 1) (by omega) (by omega) (by omega)
    rcases e2 : V.sep f n (q + 1) with ⟨a0, c0⟩ | ⟨l, r⟩
    ·rw [e2] at hS
     intro x0
     obtain ⟨q0, h0, y0, e1⟩ := hS x0
     rw [e1]
     exact ⟨q0, h0, y0, rfl⟩
    rw [e2] at hS
    rcases hS with ⟨l', e1, z2⟩ | ⟨hd, a0, e1⟩
    case' inr => rw [e1]; exact SimR.dp hx hd
    rw [e1]
    clear e1
    dsimp only
    exact .inl ⟨_, rfl, by simp only [List.map_cons, z, z2]⟩
   | false => exact .inl ⟨_, rfl, by simp only [List.map_cons, List.map_nil, z]⟩
theorem names_sm (hx : ex = true → dp = false) {p : Nat} (hp : p ≤ V.L.length) : SimR V V' ex dp d (List.map tz) (V.names p) (V'.names (p + d)) := by
 unfold Env.names
 exact sep_sm h hx (fun p hp => name_sm h hp) name_go _ _ p hp (by omega) (by omega)
end
/-- Two levels. -/
structure LSim (V V' : Env) (d : Nat) (ex dp : Bool) (G G' : Lev) : Prop where
 above : ∀ bd p, p ≤ V.L.length → SimR V V' ex dp d tz (G.above bd p) (G'.above bd (p + d))
 suff : ∀ p, p ≤ V.L.length → SimR V V' ex dp d tzb (G.suff p) (G'.suff (p + d))
 body : ∀ a a' p, p ≤ V.L.length → SimR V V' ex dp d tz (G.body a p) (G'.body a' (p + d))
 block : ∀ p, p ≤ V.L.length → SimB V V' ex dp d V.L.length tz (G.block p) (G'.block (p + d))
 ok : G.ok = true → G'.ok = true ∨ dp = true
 okx : ex = true → G'.ok = G.ok
section
variable {V V' : Env} {d : Nat} {ex dp : Bool} {G G' : Lev} (h : Sm V V' d ex) (hx : ex = true → dp = false) (hG : LSim V V' d ex dp G G') (gG : LevGo V G)
include h hx hG gG
theorem listE_sm {p : Nat} (hp : p ≤ V.L.length) : SimR V V' ex dp d (List.map tz) (listE V G p) (listE V' G' (p + d)) := by
 unfold listE
 exact sep_sm h hx (fun p hp => hG.above 0 p hp) (gG.above 0) _ _ p hp (by omega) (by omega)
theorem argsE_sm {p : Nat} (hp : p ≤ V.L.length) : SimR V V' ex dp d (List.map tz) (argsE V G p) (argsE V' G' (p + d)) := by
 unfold argsE
 cases hi : V.is [41] p with
 | true =>
  rw [if_pos rfl, h.is (is_lt hi (by decide)), hi, if_pos rfl]
  exact .inl ⟨[], by rw [show p + d + 1 = p + 1 + d by omega], rfl⟩
 | false =>
  rw [if_neg Bool.false_ne_true]
  rcases Nat.lt_or_ge p V.L.length with hlt | hge
  ·rw [h.is hlt, hi, if_neg Bool.false_ne_true]
   have hS := listE_sm h hx hG gG hp
   rcases e : listE V G p with ⟨a0, c0⟩ | ⟨l, q⟩
   ·rw [e] at hS
    intro x0
    obtain ⟨q0, h0, y0, e1⟩ := hS x0
    rw [e1]
    exact ⟨q0, h0, y0, rfl⟩
   rw [e] at hS
   rcases hS with ⟨l', e1, z⟩ | ⟨hd, a0, e1⟩
   case' inr => rw [e1]; exact SimR.dp hx hd
   rw [e1]
   clear e1
   dsimp only
   have hg := listE_go gG _ _ _ e
   have hS := need_sm (dp := dp) h (s := [41]) (by decide) (p := q) hg.2
   rcases e2 : V.need [41] q with ⟨a0, c0⟩ | ⟨u, r⟩
   ·rw [e2] at hS
    intro x0
    obtain ⟨q0, h0, y0, e1⟩ := hS x0
    rw [e1]
    exact ⟨q0, h0, y0, rfl⟩
   rw [e2] at hS
   rcases hS with ⟨u', e1, z2⟩ | ⟨hd, a0, e1⟩
   case' inr => rw [e1]; exact SimR.dp hx hd
   rw [e1]
   clear e1
   dsimp only
   exact .inl ⟨_, rfl, z⟩
  ·have hS := listE_sm h hx hG gG hp
   rcases hR : listE V G p with ⟨a, c⟩ | ⟨x, q⟩
   ·rw [hR] at hS
    intro e
    obtain ⟨q0, h0, y0, e'⟩ := hS e
    rw [h.isX hp (by decide) e, hi, if_neg Bool.false_ne_true, e']
    exact ⟨q0, h0, y0, rfl⟩
   ·have := listE_go gG _ _ _ hR
    omega
theorem stemE_sm {p : Nat} (hp : p ≤ V.L.length) : SimR V V' ex dp d tz (stemE V G p) (stemE V' G' (p + d)) := by
 unfold stemE
 rw [h.isB hp (by decide) (by decide) (by decide)]
 cases hi : V.is [40] p with
 | true =>
  have hq := is_lt hi (by decide)
  rw [if_pos rfl, if_pos rfl, show p + d + 1 = p + 1 + d by omega]
  have hS := hG.above 0 (p + 1) (by omega)
  rcases e : G.above 0 (p + 1) with ⟨a0, c0⟩ | ⟨x, q⟩
  ·rw [e] at hS
   intro x0
   obtain ⟨q0, h0, y0, e1⟩ := hS x0
   rw [e1]
   exact ⟨q0, h0, y0, rfl⟩
  rw [e] at hS
  rcases hS with ⟨x', e1, z⟩ | ⟨hd, a0, e1⟩
  case' inr => rw [e1]; exact SimR.dp hx hd
  rw [e1]
  clear e1
  dsimp only
  have hg := gG.above 0 _ _ _ e
  have hS := need_sm (dp := dp) h (s := [41]) (by decide) (p := q) hg.2
  rcases e2 : V.need [41] q with ⟨a0, c0⟩ | ⟨u, r⟩
  ·rw [e2] at hS
   intro x0
   obtain ⟨q0, h0, y0, e1⟩ := hS x0
   rw [e1]
   exact ⟨q0, h0, y0, rfl⟩
  rw [e2] at hS
  rcases hS with ⟨u', e1, z2⟩ | ⟨hd, a0, e1⟩
  case' inr => rw [e1]; exact SimR.dp hx hd
  rw [e1]
  clear e1
  dsimp only
  exact .inl ⟨_, rfl, z⟩
 | false =>
  rw [if_neg Bool.false_ne_true, if_neg Bool.false_ne_true]
  exact name_sm h hp
theorem sufs_sm (a a' : Int) : ∀ f f' n n' g p, p ≤ V.L.length → V.L.length < p + f → V'.L.length < p + d + f' → tz n' = tz n → SimR V V' ex dp d tzb (sufs V G a f n g p) (sufs V' G' a' f' n' g (p + d)) := by
 have hlen := h.len
 intro f
 induction f with
 | zero => intro f' n n' g p hp h1; omega
 | succ f ih =>
  intro f' n n' g p hp h1 h2 hz
  cases f' with
  | zero => omega
  | succ f' =>
  unfold sufs
  rw [h.isB (s := [46]) hp (by decide) (by decide) (by decide), h.isB (s := [91]) hp (by decide) (by decide) (by decide), h.isB (s := [40]) hp (by decide) (by decide) (by decide)]
  cases i1 : V.is [46] p with
  | true =>
   have hq := is_lt i1 (by decide)
   rw [if_pos rfl, if_pos rfl, show p + d + 1 = p + 1 + d by omega]
   have hS := key_sm (dp := dp) h (p := p + 1) (by omega)
   rcases e : V.key (p + 1) with ⟨a0, c0⟩ | ⟨x, q⟩
   ·rw [e] at hS
    intro x0
    obtain ⟨q0, h0, y0, e1⟩ := hS x0
    rw [e1]
    exact ⟨q0, h0, y0, rfl⟩
   rw [e] at hS
   rcases hS with ⟨x', e1, z⟩ | ⟨hd, a0, e1⟩
   case' inr => rw [e1]; exact SimR.dp hx hd
   rw [e1]
   clear e1
   dsimp only
   have hg := key_go _ _ _ e
   exact ih f' _ _ false q (by omega) (by omega) (by omega) (tz_nd (by simp only [List.map_cons, List.map_nil, hz, z]))
  | false =>
  rw [if_neg Bool.false_ne_true, if_neg Bool.false_ne_true]
  cases i2 : V.is [91] p with
  | true =>
   have hq := is_lt i2 (by decide)
   rw [if_pos rfl, if_pos rfl, show p + d + 1 = p + 1 + d by omega]
   have hS := hG.above 0 (p + 1) (by omega)
   rcases e : G.above 0 (p + 1) with ⟨a0, c0⟩ | ⟨x, q⟩
   ·rw [e] at hS
    intro x0
    obtain ⟨q0, h0, y0, e1⟩ := hS x0
    rw [e1]
    exact ⟨q0, h0, y0, rfl⟩
   rw [e] at hS
   rcases hS with ⟨x', e1, z⟩ | ⟨hd, a0, e1⟩
   case' inr => rw [e1]; exact SimR.dp hx hd
   rw [e1]
   clear e1
   dsimp only
   have hg := gG.above 0 _ _ _ e
   have hS := need_sm (dp := dp) h (s := [93]) (by decide) (p := q) hg.2
   rcases e2 : V.need [93] q with ⟨a0, c0⟩ | ⟨u, r⟩
   ·rw [e2] at hS
    intro x0
    obtain ⟨q0, h0, y0, e1⟩ := hS x0
    rw [e1]
    exact ⟨q0, h0, y0, rfl⟩
   rw [e2] at hS
   rcases hS with ⟨u', e1, z2⟩ | ⟨hd, a0, e1⟩
   case' inr => rw [e1]; exact SimR.dp hx hd
   rw [e1]
   clear e1
   dsimp only
   have hg2 := need_go (by decide) _ _ _ e2
   exact ih f' _ _ false r (by omega) (by omega) (by omega) (tz_nd (by simp only [List.map_cons, List.map_nil, hz, z]))
  | false =>
  rw [if_neg Bool.false_ne_true, if_neg Bool.false_ne_true]
  cases i3 : V.is [40] p with
  | true =>
   have hq := is_lt i3 (by decide)
   rw [if_pos rfl, if_pos rfl, show p + d + 1 = p + 1 + d by omega]
   have hS := argsE_sm h hx hG gG (p := p + 1) (by omega)
   rcases e : argsE V G (p + 1) with ⟨a0, c0⟩ | ⟨l, q⟩
   ·rw [e] at hS
    intro x0
    obtain ⟨q0, h0, y0, e1⟩ := hS x0
    rw [e1]
    exact ⟨q0, h0, y0, rfl⟩
   rw [e] at hS
   rcases hS with ⟨l', e1, z⟩ | ⟨hd, a0, e1⟩
   case' inr => rw [e1]; exact SimR.dp hx hd
   rw [e1]
   clear e1
   dsimp only
   have hg := argsE_go gG _ _ _ e
   exact ih f' _ _ false q (by omega) (by omega) (by omega) (tz_nd (by simp only [List.map_cons, hz, z]))
  | false =>
   rw [if_neg Bool.false_ne_true, if_neg Bool.false_ne_true]
   exact .inl ⟨_, rfl, by unfold tzb; simp only [hz]⟩
theorem suffE_sm {p : Nat} (hp : p ≤ V.L.length) : SimR V V' ex dp d tzb (suffE V G p) (suffE V' G' (p + d)) := by
 unfold suffE
 rw [h.isB (s := [40]) hp (by decide) (by decide) (by decide)]
 have hS := stemE_sm h hx hG gG hp
 rcases e : stemE V G p with ⟨a0, c0⟩ | ⟨x, q⟩
 ·rw [e] at hS
  intro x0
  obtain ⟨q0, h0, y0, e1⟩ := hS x0
  rw [e1]
  exact ⟨q0, h0, y0, rfl⟩
 rw [e] at hS
 rcases hS with ⟨x', e1, z⟩ | ⟨hd, a0, e1⟩
 case' inr => rw [e1]; exact SimR.dp hx hd
 rw [e1]
 clear e1
 dsimp only
 have hg := stemE_go gG _ _ _ e
 exact sufs_sm h hx hG gG _ _ _ _ _ _ _ q hg.2 (by omega) (by omega) z
theorem paramsE_sm {p : Nat} (hp : p ≤ V.L.length) : SimR V V' ex dp d (List.map tz) (paramsE V p) (paramsE V' (p + d)) := by
 unfold paramsE
 cases hi : V.is [41] p with
 | true =>
  rw [if_pos rfl, h.is (is_lt hi (by decide)), hi, if_pos rfl]
  exact .inl ⟨[], rfl, rfl⟩
 | false =>
  rw [if_neg Bool.false_ne_true]
  have hS := names_sm h hx hp
  rcases Nat.lt_or_ge p V.L.length with hlt | hge
  ·rw [h.is hlt, hi, if_neg Bool.false_ne_true]
   exact hS
  ·rcases hR : V.names p with ⟨a, c⟩ | ⟨x, q⟩
   ·rw [hR] at hS
    intro e
    rw [h.isX hp (by decide) e, hi, if_neg Bool.false_ne_true]
    exact hS e
   ·have := sep_go name_go _ _ _ _ hR
    omega
theorem bodyE_sm (a a' : Int) {p : Nat} (hp : p ≤ V.L.length) : SimR V V' ex dp d tz (bodyE V G a p) (bodyE V' G' a' (p + d)) := by
 unfold bodyE
 have hS := need_sm (dp := dp) h (s := [40]) (by decide) hp
 rcases e : V.need [40] p with ⟨a0, c0⟩ | ⟨u, q⟩
 ·rw [e] at hS
  intro x0
  obtain ⟨q0, h0, y0, e1⟩ := hS x0
  rw [e1]
  exact ⟨q0, h0, y0, rfl⟩
 rw [e] at hS
 rcases hS with ⟨u', e1, z⟩ | ⟨hd, a0, e1⟩
 case' inr => rw [e1]; exact SimR.dp hx hd
 rw [e1]
 clear e1
 dsimp only
 have hg := need_go (by decide) _ _ _ e
 have hS := paramsE_sm h hx hG gG (p := q) hg.2
 rcases e2 : paramsE V q with ⟨a0, c0⟩ | ⟨l, r⟩
 ·rw [e2] at hS
  intro x0
  obtain ⟨q0, h0, y0, e1⟩ := hS x0
  rw [e1]
  exact ⟨q0, h0, y0, rfl⟩
 rw [e2] at hS
 rcases hS with ⟨l', e1, z2⟩ | ⟨hd, a0, e1⟩
 case' inr => rw [e1]; exact SimR.dp hx hd
 rw [e1]
 clear e1
 dsimp only
 have hg2 := paramsE_go gG _ hg.2 _ _ e2
 have hS := need_sm (dp := dp) h (s := [41]) (by decide) (p := r) hg2.2
 rcases e3 : V.need [41] r with ⟨a0, c0⟩ | ⟨v, s⟩
 ·rw [e3] at hS
  intro x0
  obtain ⟨q0, h0, y0, e1⟩ := hS x0
  rw [e1]
  exact ⟨q0, h0, y0, rfl⟩
 rw [e3] at hS
 rcases hS with ⟨v', e1, z3⟩ | ⟨hd, a0, e1⟩
 case' inr => rw [e1]; exact SimR.dp hx hd
 rw [e1]
 clear e1
 dsimp only
 have hg3 := need_go (by decide) _ _ _ e3
 have hS := hG.block s hg3.2
 rcases e4 : G.block s with ⟨a0, c0⟩ | ⟨b, t⟩
 ·rw [e4] at hS
  intro x0
  obtain ⟨q0, h0, y0, e1⟩ := hS x0
  rw [e1]
  exact ⟨q0, h0, y0, rfl⟩
 rw [e4] at hS
 by_cases hq0 : t < V.L.length ∨ ex = true
 case' neg =>
  have hg0 := gG.block _ _ _ hg3.2 e4
  have e0 : t = V.L.length := by
   rcases Nat.lt_or_ge t V.L.length with hq | hq
   ·exact absurd (.inl hq) hq0
   ·omega
  subst e0
  dsimp only
  unfold Env.need
  rw [not_is h (by decide), if_neg Bool.false_ne_true]
  exact fun x0 => absurd (.inr x0) hq0
 rcases hS hq0 with ⟨b', e1, z4⟩ | ⟨hd, a0, e1⟩
 case' inr => rw [e1]; exact SimR.dp hx hd
 rw [e1]
 clear e1 hq0
 dsimp only
 have hg4 := gG.block _ _ _ hg3.2 e4
 have hS := need_sm (dp := dp) h (s := sEnd) (by decide) (p := t) hg4.2
 rcases e5 : V.need sEnd t with ⟨a0, c0⟩ | ⟨w, y⟩
 ·rw [e5] at hS
  intro x0
  obtain ⟨q0, h0, y0, e1⟩ := hS x0
  rw [e1]
  exact ⟨q0, h0, y0, rfl⟩
 rw [e5] at hS
 rcases hS with ⟨w', e1, z5⟩ | ⟨hd, a0, e1⟩
 case' inr => rw [e1]; exact SimR.dp hx hd
 rw [e1]
 clear e1
 dsimp only
 exact .inl ⟨_, rfl, tz_nd (by simp only [List.map_append, List.map_cons, List.map_nil, z2, z4])⟩
theorem itemKeyE_sm {p : Nat} (hp : p ≤ V.L.length) : SimR V V' ex dp d tz (itemKeyE V G p) (itemKeyE V' G' (p + d)) := by
 unfold itemKeyE
 rw [h.isB hp (by decide) (by decide) (by decide)]
 cases hi : V.is [91] p with
 | true =>
  have hq := is_lt hi (by decide)
  rw [if_pos rfl, if_pos rfl, show p + d + 1 = p + 1 + d by omega]
  have hS := hG.above 0 (p + 1) (by omega)
  rcases e : G.above 0 (p + 1) with ⟨a0, c0⟩ | ⟨x, q⟩
  ·rw [e] at hS
   intro x0
   obtain ⟨q0, h0, y0, e1⟩ := hS x0
   rw [e1]
   exact ⟨q0, h0, y0, rfl⟩
  rw [e] at hS
  rcases hS with ⟨x', e1, z⟩ | ⟨hd, a0, e1⟩
  case' inr => rw [e1]; exact SimR.dp hx hd
  rw [e1]
  clear e1
  dsimp only
  have hg := gG.above 0 _ _ _ e
  have hS := need_sm (dp := dp) h (s := [93]) (by decide) (p := q) hg.2
  rcases e2 : V.need [93] q with ⟨a0, c0⟩ | ⟨u, r⟩
  ·rw [e2] at hS
   intro x0
   obtain ⟨q0, h0, y0, e1⟩ := hS x0
   rw [e1]
   exact ⟨q0, h0, y0, rfl⟩
  rw [e2] at hS
  rcases hS with ⟨u', e1, z2⟩ | ⟨hd, a0, e1⟩
  case' inr => rw [e1]; exact SimR.dp hx hd
  rw [e1]
  clear e1
  dsimp only
  exact .inl ⟨_, rfl, z⟩
 | false =>
  rw [if_neg Bool.false_ne_true, if_neg Bool.false_ne_true]
  exact key_sm h hp
theorem itemE_sm {p : Nat} (hp : p ≤ V.L.length) : SimR V V' ex dp d tz (itemE V G p) (itemE V' G' (p + d)) := by
 unfold itemE
 have ht : (!V'.is [91] (p + d) && !(V'.isName (p + d) && V'.is [61] (p + d + 1))) = (!V.is [91] p && !(V.isName p && V.is [61] (p + 1))) := by
  rw [h.isB hp (by decide) (by decide) (by decide), h.isName hp]
  cases hn : V.isName p with
  | false => rfl
  | true =>
   have hq := kind_lt hn (by decide)
   rw [show p + d + 1 = p + 1 + d by omega, h.isB (p := p + 1) (by omega) (by decide) (by decide) (by decide)]
 rw [ht]
 cases hi : (!V.is [91] p && !(V.isName p && V.is [61] (p + 1))) with
 | true =>
  rw [if_pos rfl, if_pos rfl]
  have hS := hG.above 0 p hp
  rcases e : G.above 0 p with ⟨a0, c0⟩ | ⟨x, q⟩
  ·rw [e] at hS
   intro x0
   obtain ⟨q0, h0, y0, e1⟩ := hS x0
   rw [e1]
   exact ⟨q0, h0, y0, rfl⟩
  rw [e] at hS
  rcases hS with ⟨x', e1, z⟩ | ⟨hd, a0, e1⟩
  case' inr => rw [e1]; exact SimR.dp hx hd
  rw [e1]
  clear e1
  dsimp only
  exact .inl ⟨_, rfl, tz_nd (by simp only [List.map_cons, List.map_nil, z])⟩
 | false =>
  rw [if_neg Bool.false_ne_true, if_neg Bool.false_ne_true]
  have hS := itemKeyE_sm h hx hG gG hp
  rcases e : itemKeyE V G p with ⟨a0, c0⟩ | ⟨x, q⟩
  ·rw [e] at hS
   intro x0
   obtain ⟨q0, h0, y0, e1⟩ := hS x0
   rw [e1]
   exact ⟨q0, h0, y0, rfl⟩
  rw [e] at hS
  rcases hS with ⟨x', e1, z⟩ | ⟨hd, a0, e1⟩
  case' inr => rw [e1]; exact SimR.dp hx hd
  rw [e1]
  clear e1
  dsimp only
  have hg := itemKeyE_go gG _ _ _ e
  have hS := need_sm (dp := dp) h (s := [61]) (by decide) (p := q) hg.2
  rcases e2 : V.need [61] q with ⟨a0, c0⟩ | ⟨u, r⟩
  ·rw [e2] at hS
   intro x0
   obtain ⟨q0, h0, y0, e1⟩ := hS x0
   rw [e1]
   exact ⟨q0, h0, y0, rfl⟩
  rw [e2] at hS
  rcases hS with ⟨u', e1, z2⟩ | ⟨hd, a0, e1⟩
  case' inr => rw [e1]; exact SimR.dp hx hd
  rw [e1]
  clear e1
  dsimp only
  have hg2 := need_go (by decide) _ _ _ e2
  have hS := hG.above 0 r hg2.2
  rcases e3 : G.above 0 r with ⟨a0, c0⟩ | ⟨y, s⟩
  ·rw [e3] at hS
   intro x0
   obtain ⟨q0, h0, y0, e1⟩ := hS x0
   rw [e1]
   exact ⟨q0, h0, y0, rfl⟩
  rw [e3] at hS
  rcases hS with ⟨y', e1, z3⟩ | ⟨hd, a0, e1⟩
  case' inr => rw [e1]; exact SimR.dp hx hd
  rw [e1]
  clear e1
  dsimp only
  exact .inl ⟨_, rfl, tz_nd (by simp only [List.map_cons, List.map_nil, z, z3])⟩
theorem itemsE_sm : ∀ f f' p, p ≤ V.L.length → V.L.length < p + f → V'.L.length < p + d + f' → SimR V V' ex dp d (List.map tz) (itemsE V G f p) (itemsE V' G' f' (p + d)) := by
 have hlen := h.len
 intro f
 induction f with
 | zero => intro f' p hp h1; omega
 | succ f ih =>
  intro f' p hp h1 h2
  cases f' with
  | zero => omega
  | succ f' =>
  unfold itemsE
  rw [h.isB (s := [125]) hp (by decide) (by decide) (by decide)]
  cases i1 : V.is [125] p with
  | true => rw [if_pos rfl, if_pos rfl]; exact .inl ⟨_, rfl, rfl⟩
  | false =>
  rw [if_neg Bool.false_ne_true, if_neg Bool.false_ne_true]
  have hS := itemE_sm h hx hG gG hp
  rcases e : itemE V G p with ⟨a0, c0⟩ | ⟨x, q⟩
  ·rw [e] at hS
   intro x0
   obtain ⟨q0, h0, y0, e1⟩ := hS x0
   rw [e1]
   exact ⟨q0, h0, y0, rfl⟩
  rw [e] at hS
  rcases hS with ⟨x', e1, z⟩ | ⟨hd, a0, e1⟩
  case' inr => rw [e1]; exact SimR.dp hx hd
  rw [e1]
  clear e1
  dsimp only
  have hg := itemE_go gG _ _ _ e
  rw [h.isB (s := [44]) (p := q) (by omega) (by decide) (by decide) (by decide)]
  cases i2 : V.is [44] q with
  | true =>
   have hq := is_lt i2 (by decide)
   rw [if_pos rfl, if_pos rfl, show q + d + 1 = q + 1 + d by omega]
   have hS := ih f' (q + 1) (by omega) (by omega) (by omega)
   rcases e2 : itemsE V G f (q + 1) with ⟨a0, c0⟩ | ⟨l, r⟩
   ·rw [e2] at hS
    intro x0
    obtain ⟨q0, h0, y0, e1⟩ := hS x0
    rw [e1]
    exact ⟨q0, h0, y0, rfl⟩
   rw [e2] at hS
   rcases hS with ⟨l', e1, z2⟩ | ⟨hd, a0, e1⟩
   case' inr => rw [e1]; exact SimR.dp hx hd
   rw [e1]
   clear e1
   dsimp only
   exact .inl ⟨_, rfl, by simp only [List.map_cons, z, z2]⟩
  | false =>
   rw [if_neg Bool.false_ne_true, if_neg Bool.false_ne_true]
   exact .inl ⟨_, rfl, by simp only [List.map_cons, List.map_nil, z]⟩
theorem tableE_sm {p : Nat} (hp : p < V.L.length) : SimR V V' ex dp d tz (tableE V G p) (tableE V' G' (p + d)) := by
 unfold tableE
 rw [show p + d + 1 = p + 1 + d by omega]
 have hS := itemsE_sm h hx hG gG (V.L.length + 1) (V'.L.length + 1) (p + 1) (by omega) (by omega) (by omega)
 rcases e : itemsE V G (V.L.length + 1) (p + 1) with ⟨a0, c0⟩ | ⟨l, q⟩
 ·rw [e] at hS
  intro x0
  obtain ⟨q0, h0, y0, e1⟩ := hS x0
  rw [e1]
  exact ⟨q0, h0, y0, rfl⟩
 rw [e] at hS
 rcases hS with ⟨l', e1, z⟩ | ⟨hd, a0, e1⟩
 case' inr => rw [e1]; exact SimR.dp hx hd
 rw [e1]
 clear e1
 dsimp only
 have hg := itemsE_go gG _ _ _ _ (by omega) e
 have hS := need_sm (dp := dp) h (s := [125]) (by decide) (p := q) hg.2
 rcases e2 : V.need [125] q with ⟨a0, c0⟩ | ⟨u, r⟩
 ·rw [e2] at hS
  intro x0
  obtain ⟨q0, h0, y0, e1⟩ := hS x0
  rw [e1]
  exact ⟨q0, h0, y0, rfl⟩
 rw [e2] at hS
 rcases hS with ⟨u', e1, z2⟩ | ⟨hd, a0, e1⟩
 case' inr => rw [e1]; exact SimR.dp hx hd
 rw [e1]
 clear e1
 dsimp only
 exact .inl ⟨_, rfl, tz_nd z⟩
theorem operandE_sm {p : Nat} (hp : p ≤ V.L.length) : SimR V V' ex dp d tz (operandE V G p) (operandE V' G' (p + d)) := by
 unfold operandE
 dsimp only
 rw [h.kind hp 3 (.inl rfl), h.kind hp 4 (.inr rfl), h.isB (s := sNil) hp (by decide) (by decide) (by decide), h.isB (s := sTrue) hp (by decide) (by decide) (by decide), h.isB (s := sFalse) hp (by decide) (by decide) (by decide), h.isB (s := sFunction) hp (by decide) (by decide) (by decide), h.isB (s := [123]) hp (by decide) (by decide) (by decide), h.isB (s := sNot) hp (by decide) (by decide) (by decide), h.isB (s := [35]) hp (by decide) (by decide) (by decide), h.isB (s := [45]) hp (by decide) (by decide) (by decide)]
 cases c : ((V.tk p).k == 3) with
 | true =>
  obtain ⟨t1, t2, t3, t4, t5⟩ := h.tok p (kind_lt c (by decide))
  rw [if_pos rfl, if_pos rfl, t3, t4]
  exact .inl ⟨_, by rw [show p + d + 1 = p + 1 + d by omega], tz_mk rfl⟩
 | false =>
 rw [if_neg Bool.false_ne_true, if_neg Bool.false_ne_true]
 clear c
 cases c : ((V.tk p).k == 4) with
 | true =>
  obtain ⟨t1, t2, t3, t4, t5⟩ := h.tok p (kind_lt c (by decide))
  rw [if_pos rfl, if_pos rfl, t5]
  exact .inl ⟨_, by rw [show p + d + 1 = p + 1 + d by omega], tz_mk rfl⟩
 | false =>
 rw [if_neg Bool.false_ne_true, if_neg Bool.false_ne_true]
 clear c
 cases c : V.is sNil p with
 | true =>
  have hq := is_lt c (by decide)
  obtain ⟨t1, t2, t3, t4, t5⟩ := h.tok p hq
  rw [if_pos rfl, if_pos rfl]
  exact .inl ⟨_, by rw [show p + d + 1 = p + 1 + d by omega], tz_nd rfl⟩
 | false =>
 rw [if_neg Bool.false_ne_true, if_neg Bool.false_ne_true]
 clear c
 cases c : V.is sTrue p with
 | true =>
  have hq := is_lt c (by decide)
  obtain ⟨t1, t2, t3, t4, t5⟩ := h.tok p hq
  rw [if_pos rfl, if_pos rfl]
  exact .inl ⟨_, by rw [show p + d + 1 = p + 1 + d by omega], tz_nd rfl⟩
 | false =>
 rw [if_neg Bool.false_ne_true, if_neg Bool.false_ne_true]
 clear c
 cases c : V.is sFalse p with
 | true =>
  have hq := is_lt c (by decide)
  obtain ⟨t1, t2, t3, t4, t5⟩ := h.tok p hq
  rw [if_pos rfl, if_pos rfl]
  exact .inl ⟨_, by rw [show p + d + 1 = p + 1 + d by omega], tz_nd rfl⟩
 | false =>
 rw [if_neg Bool.false_ne_true, if_neg Bool.false_ne_true]
 clear c
 cases c : V.is sFunction p with
 | true =>
  have hq := is_lt c (by decide)
  obtain ⟨t1, t2, t3, t4, t5⟩ := h.tok p hq
  rw [if_pos rfl, if_pos rfl]
  rw [show p + d + 1 = p + 1 + d by omega]
  exact bodyE_sm h hx hG gG _ _ (by omega)
 | false =>
 rw [if_neg Bool.false_ne_true, if_neg Bool.false_ne_true]
 clear c
 cases c : V.is [123] p with
 | true =>
  have hq := is_lt c (by decide)
  obtain ⟨t1, t2, t3, t4, t5⟩ := h.tok p hq
  rw [if_pos rfl, if_pos rfl]
  exact tableE_sm h hx hG gG hq
 | false =>
 rw [if_neg Bool.false_ne_true, if_neg Bool.false_ne_true]
 clear c
 cases c : (V.is sNot p || V.is [35] p || V.is [45] p) with
 | true =>
  have hq : p < V.L.length := by
   rcases Bool.or_eq_true _ _ ▸ c with c | c
   ·rcases Bool.or_eq_true _ _ ▸ c with c | c
    ·exact is_lt c (by decide)
    ·exact is_lt c (by decide)
   ·exact is_lt c (by decide)
  obtain ⟨t1, t2, t3, t4, t5⟩ := h.tok p hq
  rw [if_pos rfl, if_pos rfl, t2, show p + d + 1 = p + 1 + d by omega]
  have hS := hG.above 7 (p + 1) (by omega)
  rcases e : G.above 7 (p + 1) with ⟨a0, c0⟩ | ⟨x, q⟩
  ·rw [e] at hS
   intro x0
   obtain ⟨q0, h0, y0, e1⟩ := hS x0
   rw [e1]
   exact ⟨q0, h0, y0, rfl⟩
  rw [e] at hS
  rcases hS with ⟨x', e1, z⟩ | ⟨hd, a0, e1⟩
  case' inr => rw [e1]; exact SimR.dp hx hd
  rw [e1]
  clear e1
  dsimp only
  exact .inl ⟨_, rfl, tz_mk (by simp only [List.map_cons, List.map_nil, z])⟩
 | false =>
 rw [if_neg Bool.false_ne_true, if_neg Bool.false_ne_true]
 clear c
 have hS := suffE_sm h hx hG gG hp
 rcases e : suffE V G p with ⟨a0, c0⟩ | ⟨x, q⟩
 ·rw [e] at hS
  intro x0
  obtain ⟨q0, h0, y0, e1⟩ := hS x0
  rw [e1]
  exact ⟨q0, h0, y0, rfl⟩
 rw [e] at hS
 rcases hS with ⟨x', e1, z⟩ | ⟨hd, a0, e1⟩
 case' inr => rw [e1]; exact SimR.dp hx hd
 rw [e1]
 clear e1
 dsimp only
 obtain ⟨n, g⟩ := x
 obtain ⟨n', g'⟩ := x'
 exact .inl ⟨_, rfl, congrArg Prod.fst z⟩
theorem bins_sm (bd : Nat) : ∀ f f' n n' p, p ≤ V.L.length → V.L.length < p + f → V'.L.length < p + d + f' → tz n' = tz n → SimR V V' ex dp d tz (bins V G bd f n p) (bins V' G' bd f' n' (p + d)) := by
 have hlen := h.len
 intro f
 induction f with
 | zero => intro f' n n' p hp h1; omega
 | succ f ih =>
  intro f' n n' p hp h1 h2 hz
  cases f' with
  | zero => omega
  | succ f' =>
  unfold bins
  dsimp only
  rcases Nat.lt_or_ge p V.L.length with hlt | hge
  ·obtain ⟨t1, t2, t3, t4, t5⟩ := h.tok p hlt
   rw [t2]
   by_cases hb : bindOf (V.tk p).t.data.toList ≤ bd
   ·rw [if_pos hb, if_pos hb]; exact .inl ⟨_, rfl, hz⟩
   ·rw [if_neg hb, if_neg hb, show p + d + 1 = p + 1 + d by omega]
    have hS := hG.above (if (V.tk p).t.data.toList == [46, 46] then bindOf (V.tk p).t.data.toList - 1 else bindOf (V.tk p).t.data.toList) (p + 1) (by omega)
    rcases e : G.above (if (V.tk p).t.data.toList == [46, 46] then bindOf (V.tk p).t.data.toList - 1 else bindOf (V.tk p).t.data.toList) (p + 1) with ⟨a0, c0⟩ | ⟨x, q⟩
    ·rw [e] at hS
     intro x0
     obtain ⟨q0, h0, y0, e1⟩ := hS x0
     rw [e1]
     exact ⟨q0, h0, y0, rfl⟩
    rw [e] at hS
    rcases hS with ⟨x', e1, z⟩ | ⟨hd, a0, e1⟩
    case' inr => rw [e1]; exact SimR.dp hx hd
    rw [e1]
    clear e1
    dsimp only
    have hg := gG.above _ _ _ _ e
    exact ih f' _ _ q hg.2 (by omega) (by omega) (tz_mk (by simp only [List.map_cons, List.map_nil, hz, z]))
  ·have e0 : p = V.L.length := by omega
   subst e0
   have hb : bindOf (V.tk V.L.length).t.data.toList ≤ bd := by
    unfold Env.tk
    rw [List.getD_eq_getElem?_getD, List.getElem?_eq_none (Nat.le_refl _)]
    exact Nat.zero_le _
   have hb' : bindOf (V'.tk (V.L.length + d)).t.data.toList ≤ bd := by
    rcases h.bt with e | e | e <;> rw [e] <;> exact Nat.zero_le _
   rw [if_pos hb, if_pos hb']
   exact .inl ⟨_, rfl, hz⟩
theorem aboveE_sm (bd : Nat) {p : Nat} (hp : p ≤ V.L.length) : SimR V V' ex dp d tz (aboveE V G bd p) (aboveE V' G' bd (p + d)) := by
 unfold aboveE
 have hS := operandE_sm h hx hG gG hp
 rcases e : operandE V G p with ⟨a0, c0⟩ | ⟨x, q⟩
 ·rw [e] at hS
  intro x0
  obtain ⟨q0, h0, y0, e1⟩ := hS x0
  rw [e1]
  exact ⟨q0, h0, y0, rfl⟩
 rw [e] at hS
 rcases hS with ⟨x', e1, z⟩ | ⟨hd, a0, e1⟩
 case' inr => rw [e1]; exact SimR.dp hx hd
 rw [e1]
 clear e1
 dsimp only
 have hg := operandE_go gG _ _ _ e
 exact bins_sm h hx hG gG bd _ _ _ _ q hg.2 (by omega) (by omega) z
end
end Go.Proofs.YtgkgpjbbmnfnmaaGreatDoor

/- The parser over tokens that are alike but for places: statements, levels, the whole. -/
namespace Go.Proofs.YtgkgpjbbmnfnmaaGreatDoor
set_option linter.unusedSimpArgs false
set_option linter.unusedVariables false
set_option linter.unusedSectionVars false
section
variable {V V' : Env} {d : Nat} {ex dp : Bool} {G G' : Lev} (h : Sm V V' d ex) (hx : ex = true → dp = false) (hG : LSim V V' d ex dp G G') (gG : LevGo V G)
include h
theorem ends_sm {p : Nat} (hp : p < V.L.length ∨ (ex = true ∧ p ≤ V.L.length)) : V'.ends (p + d) = V.ends p := by
 have hlen := h.len
 have hp2 : p ≤ V.L.length := by rcases hp with hp | ⟨_, hp⟩ <;> omega
 unfold Env.ends
 rw [h.isB (s := sEnd) hp2 (by decide) (by decide) (by decide), h.isB (s := sElse) hp2 (by decide) (by decide) (by decide), h.isB (s := sElseif) hp2 (by decide) (by decide) (by decide)]
 have : V'.ended (p + d) = V.ended p := by
  unfold Env.ended
  rcases hp with hp | ⟨hx, hp⟩
  ·simp; constructor <;> intro <;> omega
  ·rw [h.last hx]; simp
 rw [this]
include hx hG gG
theorem valuesS_sm {p : Nat} (hp : p ≤ V.L.length) : SimB V V' ex dp d V.L.length (List.map tz) (valuesS V G p) (valuesS V' G' (p + d)) := by
 unfold valuesS
 by_cases hc : p < V.L.length ∨ ex = true
 ·rw [ends_sm h (by rcases hc with hc | hc; exact .inl hc; exact .inr ⟨hc, hp⟩)]
  have : V'.is [59] (p + d) = V.is [59] p := by
   rcases hc with hc | hc
   ·exact h.is hc
   ·exact h.isX hp (by decide) hc
  rw [this]
  cases hi : (!V.is [59] p && !V.ends p) with
  | true =>
   rw [if_pos rfl, if_pos rfl]
   exact (listE_sm h hx hG gG hp).b
  | false =>
   rw [if_neg (by decide), if_neg (by decide)]
   exact fun _ => .inl ⟨_, rfl, rfl⟩
 ·have hp' : p = V.L.length := by
   rcases Nat.lt_or_ge p V.L.length with hq | hq
   ·exact absurd (.inl hq) hc
   ·omega
  subst hp'
  have he : V.ends V.L.length = true := by unfold Env.ends Env.ended; simp
  rw [he]
  simp only [Bool.not_true, Bool.and_false, if_neg (by decide : ¬ false = true)]
  exact fun hq => absurd (hq.elim (fun e => .inl e) .inr) hc
theorem returnedS_sm {p : Nat} (hp : p < V.L.length) : SimB V V' ex dp d V.L.length tz (returnedS V G p) (returnedS V' G' (p + d)) := by
 unfold returnedS
 rw [show p + d + 1 = p + 1 + d by omega]
 have hS := valuesS_sm h hx hG gG (p := p + 1) (by omega)
 rcases e : valuesS V G (p + 1) with ⟨a0, c0⟩ | ⟨l, q⟩
 ·rw [e] at hS
  intro x0
  obtain ⟨q0, h0, y0, e1⟩ := hS x0
  rw [e1]
  exact ⟨q0, h0, y0, rfl⟩
 rw [e] at hS
 have hg := valuesS_go gG _ (by omega) _ _ e
 intro hq
 have hc : q < V.L.length ∨ ex = true := by
  rcases hq with hq | hq
  ·left
   split at hq <;> omega
  ·exact .inr hq
 rcases hS hc with ⟨l', e1, z⟩ | ⟨hd, a0, e1⟩
 ·rw [e1]
  left
  have : V'.is [59] (q + d) = V.is [59] q := by
   rcases hc with hc | hc
   ·exact h.is hc
   ·exact h.isX hg.2 (by decide) hc
  dsimp only
  rw [this]
  refine ⟨nd 27 l' (V'.at (p + d)), ?_, tz_nd z⟩
  have : (if V.is [59] q = true then q + d + 1 else q + d) = (if V.is [59] q = true then q + 1 else q) + d := by split <;> omega
  rw [this]
 ·rw [e1]
  exact .inr ⟨hd, _, rfl⟩
theorem namedS_sm {p : Nat} (hp : p ≤ V.L.length) : SimR V V' ex dp d tzp (namedS V G p) (namedS V' G' (p + d)) := by
 unfold namedS
 cases ho : G.ok with
 | true =>
  rw [if_pos rfl]
  cases ho' : G'.ok with
  | false =>
   rw [if_neg (by decide)]
   rcases hG.ok ho with e | e
   ·rw [ho'] at e; cases e
   ·exact SimR.dp hx e
  | true =>
  rw [if_pos rfl]
  have hS := need_sm (dp := dp) h (s := sFunction) (by decide) hp
  rcases e : V.need sFunction p with ⟨a0, c0⟩ | ⟨u, q⟩
  ·rw [e] at hS
   intro x0
   obtain ⟨q0, h0, y0, e1⟩ := hS x0
   rw [e1]
   exact ⟨q0, h0, y0, rfl⟩
  rw [e] at hS
  rcases hS with ⟨u', e1, z⟩ | ⟨hd, a0, e1⟩
  case' inr => rw [e1]; exact SimR.dp hx hd
  rw [e1]
  clear e1
  dsimp only
  have hg := need_go (by decide) _ _ _ e
  have hS := name_sm (dp := dp) h hg.2
  rcases e2 : V.name q with ⟨a0, c0⟩ | ⟨n, r⟩
  ·rw [e2] at hS
   intro x0
   obtain ⟨q0, h0, y0, e1⟩ := hS x0
   rw [e1]
   exact ⟨q0, h0, y0, rfl⟩
  rw [e2] at hS
  rcases hS with ⟨n', e1, z2⟩ | ⟨hd, a0, e1⟩
  case' inr => rw [e1]; exact SimR.dp hx hd
  rw [e1]
  clear e1
  dsimp only
  have hg2 := name_go _ _ _ e2
  have hS := hG.body (V.at p) (V'.at (p + d)) r hg2.2
  rcases e3 : G.body (V.at p) r with ⟨a0, c0⟩ | ⟨f, s⟩
  ·rw [e3] at hS
   intro x0
   obtain ⟨q0, h0, y0, e1⟩ := hS x0
   rw [e1]
   exact ⟨q0, h0, y0, rfl⟩
  rw [e3] at hS
  rcases hS with ⟨f', e1, z3⟩ | ⟨hd, a0, e1⟩
  case' inr => rw [e1]; exact SimR.dp hx hd
  rw [e1]
  clear e1
  dsimp only
  exact .inl ⟨_, rfl, by unfold tzp; simp only [z2, z3]⟩
 | false =>
  rw [if_neg (by decide)]
  intro x0
  rw [hG.okx x0, ho, if_neg (by decide)]
  exact ⟨_, rfl, (by first | exact .inl rfl | exact .inr rfl), rfl⟩
theorem localS_sm {p : Nat} (hp : p < V.L.length) : SimR V V' ex dp d tz (localS V G p) (localS V' G' (p + d)) := by
 unfold localS
 rw [show p + d + 1 = p + 1 + d by omega, h.isB (p := p + 1) (by omega) (by decide) (by decide) (by decide)]
 cases hi : V.is sFunction (p + 1) with
 | true =>
  rw [if_pos rfl, if_pos rfl]
  have hS := namedS_sm h hx hG gG (p := p + 1) (by omega)
  rcases e : namedS V G (p + 1) with ⟨a0, c0⟩ | ⟨x, q⟩
  ·rw [e] at hS
   intro x0
   obtain ⟨q0, h0, y0, e1⟩ := hS x0
   rw [e1]
   exact ⟨q0, h0, y0, rfl⟩
  rw [e] at hS
  rcases hS with ⟨x', e1, z⟩ | ⟨hd, a0, e1⟩
  case' inr => rw [e1]; exact SimR.dp hx hd
  rw [e1]
  clear e1
  dsimp only
  obtain ⟨n, f⟩ := x
  obtain ⟨n', f'⟩ := x'
  have z1 : tz n' = tz n := congrArg Prod.fst z
  have z2 : tz f' = tz f := congrArg Prod.snd z
  exact .inl ⟨_, rfl, tz_nd (by simp only [List.map_cons, List.map_nil, z1, z2])⟩
 | false =>
  rw [if_neg (by decide), if_neg (by decide)]
  have hS := names_sm h hx (p := p + 1) (by omega)
  rcases e : V.names (p + 1) with ⟨a0, c0⟩ | ⟨l, q⟩
  ·rw [e] at hS
   intro x0
   obtain ⟨q0, h0, y0, e1⟩ := hS x0
   rw [e1]
   exact ⟨q0, h0, y0, rfl⟩
  rw [e] at hS
  rcases hS with ⟨l', e1, z⟩ | ⟨hd, a0, e1⟩
  case' inr => rw [e1]; exact SimR.dp hx hd
  rw [e1]
  clear e1
  dsimp only
  have hg := sep_go name_go _ _ _ _ e
  have hl := len_eq z
  rw [h.isB (s := [61]) (p := q) (by omega) (by decide) (by decide) (by decide)]
  cases hj : V.is [61] q with
  | true =>
   have hq := is_lt hj (by decide)
   rw [if_pos rfl, if_pos rfl, show q + d + 1 = q + 1 + d by omega]
   have hS := listE_sm h hx hG gG (p := q + 1) (by omega)
   rcases e2 : listE V G (q + 1) with ⟨a0, c0⟩ | ⟨m, r⟩
   ·rw [e2] at hS
    intro x0
    obtain ⟨q0, h0, y0, e1⟩ := hS x0
    rw [e1]
    exact ⟨q0, h0, y0, rfl⟩
   rw [e2] at hS
   rcases hS with ⟨m', e1, z2⟩ | ⟨hd, a0, e1⟩
   case' inr => rw [e1]; exact SimR.dp hx hd
   rw [e1]
   clear e1
   dsimp only
   exact .inl ⟨_, rfl, by rw [hl]; exact tz_mk (by simp only [List.map_append, z, z2])⟩
  | false =>
   rw [if_neg (by decide), if_neg (by decide)]
   exact .inl ⟨_, rfl, by rw [hl]; exact tz_mk z⟩
theorem functionS_sm {p : Nat} (hp : p ≤ V.L.length) : SimR V V' ex dp d tz (functionS V G p) (functionS V' G' (p + d)) := by
 unfold functionS
 have hS := namedS_sm h hx hG gG hp
 rcases e : namedS V G p with ⟨a0, c0⟩ | ⟨x, q⟩
 ·rw [e] at hS
  intro x0
  obtain ⟨q0, h0, y0, e1⟩ := hS x0
  rw [e1]
  exact ⟨q0, h0, y0, rfl⟩
 rw [e] at hS
 rcases hS with ⟨x', e1, z⟩ | ⟨hd, a0, e1⟩
 case' inr => rw [e1]; exact SimR.dp hx hd
 rw [e1]
 clear e1
 dsimp only
 obtain ⟨n, f⟩ := x
 obtain ⟨n', f'⟩ := x'
 have z1 : tz n' = tz n := congrArg Prod.fst z
 have z2 : tz f' = tz f := congrArg Prod.snd z
 exact .inl ⟨_, rfl, tz_mk (by simp only [List.map_cons, List.map_nil, z1, z2])⟩
theorem doS_sm {p : Nat} (hp : p ≤ V.L.length) : SimR V V' ex dp d tz (doS V G p) (doS V' G' (p + d)) := by
 unfold doS
 have hS := need_sm (dp := dp) h (s := sDo) (by decide) hp
 rcases e : V.need sDo p with ⟨a0, c0⟩ | ⟨u, q⟩
 ·rw [e] at hS
  intro x0
  obtain ⟨q0, h0, y0, e1⟩ := hS x0
  rw [e1]
  exact ⟨q0, h0, y0, rfl⟩
 rw [e] at hS
 rcases hS with ⟨u', e1, z⟩ | ⟨hd, a0, e1⟩
 case' inr => rw [e1]; exact SimR.dp hx hd
 rw [e1]
 clear e1
 dsimp only
 have hg := need_go (by decide) _ _ _ e
 have hS := hG.block q hg.2
 rcases e4 : G.block q with ⟨a0, c0⟩ | ⟨b, t⟩
 ·rw [e4] at hS
  intro x0
  obtain ⟨q0, h0, y0, e1⟩ := hS x0
  rw [e1]
  exact ⟨q0, h0, y0, rfl⟩
 rw [e4] at hS
 by_cases hq0 : t < V.L.length ∨ ex = true
 case' neg =>
  have hg0 := gG.block _ _ _ hg.2 e4
  have e0 : t = V.L.length := by
   rcases Nat.lt_or_ge t V.L.length with hq | hq
   ·exact absurd (.inl hq) hq0
   ·omega
  subst e0
  dsimp only
  unfold Env.need
  rw [not_is h (by decide), if_neg Bool.false_ne_true]
  exact fun x0 => absurd (.inr x0) hq0
 rcases hS hq0 with ⟨b', e1, z4⟩ | ⟨hd, a0, e1⟩
 case' inr => rw [e1]; exact SimR.dp hx hd
 rw [e1]
 clear e1 hq0
 dsimp only
 have hg4 := gG.block _ _ _ hg.2 e4
 have hS := need_sm (dp := dp) h (s := sEnd) (by decide) (p := t) hg4.2
 rcases e5 : V.need sEnd t with ⟨a0, c0⟩ | ⟨w, y⟩
 ·rw [e5] at hS
  intro x0
  obtain ⟨q0, h0, y0, e1⟩ := hS x0
  rw [e1]
  exact ⟨q0, h0, y0, rfl⟩
 rw [e5] at hS
 rcases hS with ⟨w', e1, z5⟩ | ⟨hd, a0, e1⟩
 case' inr => rw [e1]; exact SimR.dp hx hd
 rw [e1]
 clear e1
 dsimp only
 exact .inl ⟨_, rfl, z4⟩
theorem choices_sm : ∀ f f' p, p < V.L.length → V.L.length < p + f → V'.L.length < p + d + f' → SimB V V' ex dp d V.L.length (List.map tz) (choices V G f p) (choices V' G' f' (p + d)) := by
 have hlen := h.len
 intro f
 induction f with
 | zero => intro f' p hp h1; omega
 | succ f ih =>
  intro f' p hp h1 h2
  cases f' with
  | zero => omega
  | succ f' =>
  unfold choices
  rw [show p + d + 1 = p + 1 + d by omega]
  have hS := hG.above 0 (p + 1) (by omega)
  rcases e : G.above 0 (p + 1) with ⟨a0, c0⟩ | ⟨x, q⟩
  ·rw [e] at hS
   intro x0
   obtain ⟨q0, h0, y0, e1⟩ := hS x0
   rw [e1]
   exact ⟨q0, h0, y0, rfl⟩
  rw [e] at hS
  rcases hS with ⟨x', e1, z⟩ | ⟨hd, a0, e1⟩
  case' inr => rw [e1]; exact SimB.dp hx hd
  rw [e1]
  clear e1
  dsimp only
  have hg := gG.above 0 _ _ _ e
  have hS := need_sm (dp := dp) h (s := sThen) (by decide) (p := q) hg.2
  rcases e2 : V.need sThen q with ⟨a0, c0⟩ | ⟨u, r⟩
  ·rw [e2] at hS
   intro x0
   obtain ⟨q0, h0, y0, e1⟩ := hS x0
   rw [e1]
   exact ⟨q0, h0, y0, rfl⟩
  rw [e2] at hS
  rcases hS with ⟨u', e1, z2⟩ | ⟨hd, a0, e1⟩
  case' inr => rw [e1]; exact SimB.dp hx hd
  rw [e1]
  clear e1
  dsimp only
  have hg2 := need_go (by decide) _ _ _ e2
  have hS := hG.block r hg2.2
  rcases e3 : G.block r with ⟨a0, c0⟩ | ⟨b, s⟩
  ·rw [e3] at hS
   intro x0
   obtain ⟨q0, h0, y0, e1⟩ := hS x0
   rw [e1]
   exact ⟨q0, h0, y0, rfl⟩
  rw [e3] at hS
  have hg3 := gG.block _ _ _ hg2.2 e3
  by_cases hq0 : s < V.L.length ∨ ex = true
  case' neg =>
   have e0 : s = V.L.length := by
    rcases Nat.lt_or_ge s V.L.length with hq | hq
    ·exact absurd (.inl hq) hq0
    ·omega
   subst e0
   dsimp only
   rw [not_is h (by decide), if_neg Bool.false_ne_true]
   intro hq
   exact absurd hq hq0
  rcases hS hq0 with ⟨b', e1, z3⟩ | ⟨hd, a0, e1⟩
  case' inr => rw [e1]; exact SimB.dp hx hd
  rw [e1]
  clear e1
  dsimp only
  rw [h.isB (s := sElseif) (p := s) hg3.2 (by decide) (by decide) (by decide)]
  cases hi : V.is sElseif s with
  | true =>
   have hq := is_lt hi (by decide)
   rw [if_pos rfl, if_pos rfl]
   have hS := ih f' s hq (by omega) (by omega)
   rcases e4 : choices V G f s with ⟨a0, c0⟩ | ⟨l, t⟩
   ·rw [e4] at hS
    intro x0
    obtain ⟨q0, h0, y0, e1⟩ := hS x0
    rw [e1]
    exact ⟨q0, h0, y0, rfl⟩
   rw [e4] at hS
   intro ht
   rcases hS ht with ⟨l', e1, z4⟩ | ⟨hd, a0, e1⟩
   ·rw [e1]
    exact .inl ⟨_, rfl, by simp only [List.map_cons, z, z3, z4]⟩
   ·rw [e1]
    exact .inr ⟨hd, _, rfl⟩
  | false =>
   rw [if_neg Bool.false_ne_true, if_neg Bool.false_ne_true]
   exact fun _ => .inl ⟨_, rfl, by simp only [List.map_cons, List.map_nil, z, z3]⟩
theorem elseS_sm (l l' : List Tr) {p : Nat} (hp : p ≤ V.L.length) (hz : l'.map tz = l.map tz) : SimB V V' ex dp d V.L.length (List.map tz) (elseS V G l p) (elseS V' G' l' (p + d)) := by
 unfold elseS
 rw [h.isB hp (by decide) (by decide) (by decide)]
 cases hi : V.is sElse p with
 | true =>
  have hq := is_lt hi (by decide)
  rw [if_pos rfl, if_pos rfl, show p + d + 1 = p + 1 + d by omega]
  have hS := hG.block (p + 1) (by omega)
  rcases e4 : G.block (p + 1) with ⟨a0, c0⟩ | ⟨b, t⟩
  ·rw [e4] at hS
   intro x0
   obtain ⟨q0, h0, y0, e1⟩ := hS x0
   rw [e1]
   exact ⟨q0, h0, y0, rfl⟩
  rw [e4] at hS
  intro ht
  rcases hS ht with ⟨b', e1, z4⟩ | ⟨hd, a0, e1⟩
  ·rw [e1]
   exact .inl ⟨_, rfl, by simp only [List.map_append, List.map_cons, List.map_nil, hz, z4]⟩
  ·rw [e1]
   exact .inr ⟨hd, _, rfl⟩
 | false =>
  rw [if_neg Bool.false_ne_true, if_neg Bool.false_ne_true]
  exact fun _ => .inl ⟨_, rfl, hz⟩
theorem choiceS_sm {p : Nat} (hp : p < V.L.length) : SimR V V' ex dp d tz (choiceS V G p) (choiceS V' G' (p + d)) := by
 have hlen := h.len
 unfold choiceS
 have hS := choices_sm h hx hG gG (V.L.length + 1) (V'.L.length + 1) p hp (by omega) (by omega)
 rcases e : choices V G (V.L.length + 1) p with ⟨a0, c0⟩ | ⟨l, q⟩
 ·rw [e] at hS
  intro x0
  obtain ⟨q0, h0, y0, e1⟩ := hS x0
  rw [e1]
  exact ⟨q0, h0, y0, rfl⟩
 rw [e] at hS
 by_cases hq0 : q < V.L.length ∨ ex = true
 case' neg =>
  have hg0 := choices_go gG _ _ _ _ hp e
  have e0 : q = V.L.length := by
   rcases Nat.lt_or_ge q V.L.length with hq | hq
   ·exact absurd (.inl hq) hq0
   ·omega
  subst e0
  dsimp only
  unfold elseS
  rw [not_is h (by decide), if_neg Bool.false_ne_true]
  dsimp only
  unfold Env.need
  rw [not_is h (by decide), if_neg Bool.false_ne_true]
  exact fun x0 => absurd (.inr x0) hq0
 rcases hS hq0 with ⟨l', e1, z⟩ | ⟨hd, a0, e1⟩
 case' inr => rw [e1]; exact SimR.dp hx hd
 rw [e1]
 clear e1 hq0
 dsimp only
 have hg := choices_go gG _ _ _ _ hp e
 have hS := elseS_sm h hx hG gG l l' hg.2 z
 rcases e2 : elseS V G l q with ⟨a0, c0⟩ | ⟨m, r⟩
 ·rw [e2] at hS
  intro x0
  obtain ⟨q0, h0, y0, e1⟩ := hS x0
  rw [e1]
  exact ⟨q0, h0, y0, rfl⟩
 rw [e2] at hS
 by_cases hq0 : r < V.L.length ∨ ex = true
 case' neg =>
  have hg0 := elseS_go gG _ _ hg.2 _ _ e2
  have e0 : r = V.L.length := by
   rcases Nat.lt_or_ge r V.L.length with hq | hq
   ·exact absurd (.inl hq) hq0
   ·omega
  subst e0
  dsimp only
  unfold Env.need
  rw [not_is h (by decide), if_neg Bool.false_ne_true]
  exact fun x0 => absurd (.inr x0) hq0
 rcases hS hq0 with ⟨m', e1, z2⟩ | ⟨hd, a0, e1⟩
 case' inr => rw [e1]; exact SimR.dp hx hd
 rw [e1]
 clear e1 hq0
 dsimp only
 have hg2 := elseS_go gG _ _ hg.2 _ _ e2
 have hS := need_sm (dp := dp) h (s := sEnd) (by decide) (p := r) hg2.2
 rcases e5 : V.need sEnd r with ⟨a0, c0⟩ | ⟨w, y⟩
 ·rw [e5] at hS
  intro x0
  obtain ⟨q0, h0, y0, e1⟩ := hS x0
  rw [e1]
  exact ⟨q0, h0, y0, rfl⟩
 rw [e5] at hS
 rcases hS with ⟨w', e1, z5⟩ | ⟨hd, a0, e1⟩
 case' inr => rw [e1]; exact SimR.dp hx hd
 rw [e1]
 clear e1
 dsimp only
 exact .inl ⟨_, rfl, tz_nd z2⟩
theorem whileS_sm {p : Nat} (hp : p < V.L.length) : SimR V V' ex dp d tz (whileS V G p) (whileS V' G' (p + d)) := by
 unfold whileS
 rw [show p + d + 1 = p + 1 + d by omega]
 have hS := hG.above 0 (p + 1) (by omega)
 rcases e : G.above 0 (p + 1) with ⟨a0, c0⟩ | ⟨x, q⟩
 ·rw [e] at hS
  intro x0
  obtain ⟨q0, h0, y0, e1⟩ := hS x0
  rw [e1]
  exact ⟨q0, h0, y0, rfl⟩
 rw [e] at hS
 rcases hS with ⟨x', e1, z⟩ | ⟨hd, a0, e1⟩
 case' inr => rw [e1]; exact SimR.dp hx hd
 rw [e1]
 clear e1
 dsimp only
 have hg := gG.above 0 _ _ _ e
 have hS := doS_sm h hx hG gG (p := q) hg.2
 rcases e2 : doS V G q with ⟨a0, c0⟩ | ⟨b, r⟩
 ·rw [e2] at hS
  intro x0
  obtain ⟨q0, h0, y0, e1⟩ := hS x0
  rw [e1]
  exact ⟨q0, h0, y0, rfl⟩
 rw [e2] at hS
 rcases hS with ⟨b', e1, z2⟩ | ⟨hd, a0, e1⟩
 case' inr => rw [e1]; exact SimR.dp hx hd
 rw [e1]
 clear e1
 dsimp only
 exact .inl ⟨_, rfl, tz_nd (by simp only [List.map_cons, List.map_nil, z, z2])⟩
theorem stepS_sm {p : Nat} (hp : p ≤ V.L.length) : SimR V V' ex dp d (List.map tz) (stepS V G p) (stepS V' G' (p + d)) := by
 unfold stepS
 rw [h.isB hp (by decide) (by decide) (by decide)]
 cases hi : V.is [44] p with
 | true =>
  have hq := is_lt hi (by decide)
  rw [if_pos rfl, if_pos rfl, show p + d + 1 = p + 1 + d by omega]
  have hS := hG.above 0 (p + 1) (by omega)
  rcases e : G.above 0 (p + 1) with ⟨a0, c0⟩ | ⟨x, q⟩
  ·rw [e] at hS
   intro x0
   obtain ⟨q0, h0, y0, e1⟩ := hS x0
   rw [e1]
   exact ⟨q0, h0, y0, rfl⟩
  rw [e] at hS
  rcases hS with ⟨x', e1, z⟩ | ⟨hd, a0, e1⟩
  case' inr => rw [e1]; exact SimR.dp hx hd
  rw [e1]
  clear e1
  dsimp only
  exact .inl ⟨_, rfl, by simp only [List.map_cons, List.map_nil, z]⟩
 | false =>
  rw [if_neg Bool.false_ne_true, if_neg Bool.false_ne_true]
  exact .inl ⟨_, rfl, rfl⟩
theorem countS_sm {p : Nat} (hp : p < V.L.length) : SimR V V' ex dp d tz (countS V G p) (countS V' G' (p + d)) := by
 unfold countS
 rw [show p + d + 1 = p + 1 + d by omega]
 have hS := name_sm (dp := dp) h (p := p + 1) (by omega)
 rcases e : V.name (p + 1) with ⟨a0, c0⟩ | ⟨n, q⟩
 ·rw [e] at hS
  intro x0
  obtain ⟨q0, h0, y0, e1⟩ := hS x0
  rw [e1]
  exact ⟨q0, h0, y0, rfl⟩
 rw [e] at hS
 rcases hS with ⟨n', e1, z⟩ | ⟨hd, a0, e1⟩
 case' inr => rw [e1]; exact SimR.dp hx hd
 rw [e1]
 clear e1
 dsimp only
 have hg := name_go _ _ _ e
 have hS := need_sm (dp := dp) h (s := [61]) (by decide) (p := q) hg.2
 rcases e2 : V.need [61] q with ⟨a0, c0⟩ | ⟨u, r⟩
 ·rw [e2] at hS
  intro x0
  obtain ⟨q0, h0, y0, e1⟩ := hS x0
  rw [e1]
  exact ⟨q0, h0, y0, rfl⟩
 rw [e2] at hS
 rcases hS with ⟨u', e1, z2⟩ | ⟨hd, a0, e1⟩
 case' inr => rw [e1]; exact SimR.dp hx hd
 rw [e1]
 clear e1
 dsimp only
 have hg2 := need_go (by decide) _ _ _ e2
 have hS := hG.above 0 r hg2.2
 rcases e3 : G.above 0 r with ⟨a0, c0⟩ | ⟨x, s⟩
 ·rw [e3] at hS
  intro x0
  obtain ⟨q0, h0, y0, e1⟩ := hS x0
  rw [e1]
  exact ⟨q0, h0, y0, rfl⟩
 rw [e3] at hS
 rcases hS with ⟨x', e1, z3⟩ | ⟨hd, a0, e1⟩
 case' inr => rw [e1]; exact SimR.dp hx hd
 rw [e1]
 clear e1
 dsimp only
 have hg3 := gG.above 0 _ _ _ e3
 have hS := need_sm (dp := dp) h (s := [44]) (by decide) (p := s) hg3.2
 rcases e4 : V.need [44] s with ⟨a0, c0⟩ | ⟨v, t⟩
 ·rw [e4] at hS
  intro x0
  obtain ⟨q0, h0, y0, e1⟩ := hS x0
  rw [e1]
  exact ⟨q0, h0, y0, rfl⟩
 rw [e4] at hS
 rcases hS with ⟨v', e1, z4⟩ | ⟨hd, a0, e1⟩
 case' inr => rw [e1]; exact SimR.dp hx hd
 rw [e1]
 clear e1
 dsimp only
 have hg4 := need_go (by decide) _ _ _ e4
 have hS := hG.above 0 t hg4.2
 rcases e5 : G.above 0 t with ⟨a0, c0⟩ | ⟨y, k⟩
 ·rw [e5] at hS
  intro x0
  obtain ⟨q0, h0, y0, e1⟩ := hS x0
  rw [e1]
  exact ⟨q0, h0, y0, rfl⟩
 rw [e5] at hS
 rcases hS with ⟨y', e1, z5⟩ | ⟨hd, a0, e1⟩
 case' inr => rw [e1]; exact SimR.dp hx hd
 rw [e1]
 clear e1
 dsimp only
 have hg5 := gG.above 0 _ _ _ e5
 have hS := stepS_sm h hx hG gG hg5.2
 rcases e6 : stepS V G k with ⟨a0, c0⟩ | ⟨l, m⟩
 ·rw [e6] at hS
  intro x0
  obtain ⟨q0, h0, y0, e1⟩ := hS x0
  rw [e1]
  exact ⟨q0, h0, y0, rfl⟩
 rw [e6] at hS
 rcases hS with ⟨l', e1, z6⟩ | ⟨hd, a0, e1⟩
 case' inr => rw [e1]; exact SimR.dp hx hd
 rw [e1]
 clear e1
 dsimp only
 have hg6 := stepS_go gG _ hg5.2 _ _ e6
 have hS := doS_sm h hx hG gG hg6.2
 rcases e7 : doS V G m with ⟨a0, c0⟩ | ⟨b, j⟩
 ·rw [e7] at hS
  intro x0
  obtain ⟨q0, h0, y0, e1⟩ := hS x0
  rw [e1]
  exact ⟨q0, h0, y0, rfl⟩
 rw [e7] at hS
 rcases hS with ⟨b', e1, z7⟩ | ⟨hd, a0, e1⟩
 case' inr => rw [e1]; exact SimR.dp hx hd
 rw [e1]
 clear e1
 dsimp only
 exact .inl ⟨_, rfl, tz_nd (by simp only [List.map_cons, List.map_append, List.map_nil, z, z3, z5, z6, z7])⟩
theorem targets_sm : ∀ f f' p, p ≤ V.L.length → V.L.length < p + f → V'.L.length < p + d + f' → SimR V V' ex dp d (List.map tz) (targets V G f p) (targets V' G' f' (p + d)) := by
 have hlen := h.len
 intro f
 induction f with
 | zero => intro f' p hp h1; omega
 | succ f ih =>
  intro f' p hp h1 h2
  cases f' with
  | zero => omega
  | succ f' =>
  unfold targets
  rw [h.isB (s := [44]) hp (by decide) (by decide) (by decide)]
  cases i1 : V.is [44] p with
  | false =>
   rw [if_neg Bool.false_ne_true, if_neg Bool.false_ne_true]
   exact .inl ⟨_, rfl, rfl⟩
  | true =>
  have hq := is_lt i1 (by decide)
  rw [if_pos rfl, if_pos rfl, show p + d + 1 = p + 1 + d by omega]
  have hS := hG.suff (p + 1) (by omega)
  rcases e : G.suff (p + 1) with ⟨a0, c0⟩ | ⟨x, q⟩
  ·rw [e] at hS
   intro x0
   obtain ⟨q0, h0, y0, e1⟩ := hS x0
   rw [e1]
   exact ⟨q0, h0, y0, rfl⟩
  rw [e] at hS
  rcases hS with ⟨x', e1, z⟩ | ⟨hd, a0, e1⟩
  case' inr => rw [e1]; exact SimR.dp hx hd
  rw [e1]
  clear e1
  dsimp only
  have hg := gG.suff _ _ _ e
  obtain ⟨n, g⟩ := x
  obtain ⟨n', g'⟩ := x'
  have z1 : tz n' = tz n := congrArg Prod.fst z
  have z2 : g' = g := congrArg Prod.snd z
  subst z2
  have z3 : isTarget n' g' = isTarget n g' := by unfold isTarget; rw [tz_eqk z1]
  dsimp only
  rw [z3]
  cases it : isTarget n g' with
  | false =>
   rw [if_neg Bool.false_ne_true, if_neg Bool.false_ne_true]
   exact fun _ => ⟨_, rfl, (by first | exact .inl rfl | exact .inr rfl), rfl⟩
  | true =>
  rw [if_pos rfl, if_pos rfl]
  have hS := ih f' q (by omega) (by omega) (by omega)
  rcases e2 : targets V G f q with ⟨a0, c0⟩ | ⟨l, r⟩
  ·rw [e2] at hS
   intro x0
   obtain ⟨q0, h0, y0, e1⟩ := hS x0
   rw [e1]
   exact ⟨q0, h0, y0, rfl⟩
  rw [e2] at hS
  rcases hS with ⟨l', e1, z4⟩ | ⟨hd, a0, e1⟩
  case' inr => rw [e1]; exact SimR.dp hx hd
  rw [e1]
  clear e1
  dsimp only
  exact .inl ⟨_, rfl, by simp only [List.map_cons, z1, z4]⟩
theorem callOrAssignS_sm {p : Nat} (hp : p ≤ V.L.length) : SimR V V' ex dp d tz (callOrAssignS V G p) (callOrAssignS V' G' (p + d)) := by
 have hlen := h.len
 unfold callOrAssignS
 rw [h.isName hp, h.isB (s := [40]) hp (by decide) (by decide) (by decide)]
 cases c : (!V.isName p && !V.is [40] p) with
 | true =>
  rw [if_pos rfl, if_pos rfl]
  exact fun _ => ⟨_, rfl, (by first | exact .inl rfl | exact .inr rfl), rfl⟩
 | false =>
 rw [if_neg Bool.false_ne_true, if_neg Bool.false_ne_true]
 have hS := hG.suff p hp
 rcases e : G.suff p with ⟨a0, c0⟩ | ⟨x, q⟩
 ·rw [e] at hS
  intro x0
  obtain ⟨q0, h0, y0, e1⟩ := hS x0
  rw [e1]
  exact ⟨q0, h0, y0, rfl⟩
 rw [e] at hS
 rcases hS with ⟨x', e1, z⟩ | ⟨hd, a0, e1⟩
 case' inr => rw [e1]; exact SimR.dp hx hd
 rw [e1]
 clear e1
 dsimp only
 have hg := gG.suff _ _ _ e
 obtain ⟨n, g⟩ := x
 obtain ⟨n', g'⟩ := x'
 have z1 : tz n' = tz n := congrArg Prod.fst z
 have z2 : g' = g := congrArg Prod.snd z
 subst z2
 have z3 : isTarget n' g' = isTarget n g' := by unfold isTarget; rw [tz_eqk z1]
 dsimp only
 rw [z3, tz_eqk z1]
 cases ic : (n.k == 11 && !g') with
 | true =>
  rw [if_pos rfl, if_pos rfl]
  exact .inl ⟨_, rfl, tz_nd (by simp only [List.map_cons, List.map_nil, z1])⟩
 | false =>
 rw [if_neg Bool.false_ne_true, if_neg Bool.false_ne_true]
 cases it : isTarget n g' with
 | false =>
  rw [if_neg Bool.false_ne_true, if_neg Bool.false_ne_true]
  exact fun _ => ⟨_, rfl, (by first | exact .inl rfl | exact .inr rfl), rfl⟩
 | true =>
 rw [if_pos rfl, if_pos rfl]
 have hS := targets_sm h hx hG gG (V.L.length + 1) (V'.L.length + 1) q hg.2 (by omega) (by omega)
 rcases e2 : targets V G (V.L.length + 1) q with ⟨a0, c0⟩ | ⟨l, r⟩
 ·rw [e2] at hS
  intro x0
  obtain ⟨q0, h0, y0, e1⟩ := hS x0
  rw [e1]
  exact ⟨q0, h0, y0, rfl⟩
 rw [e2] at hS
 rcases hS with ⟨l', e1, z4⟩ | ⟨hd, a0, e1⟩
 case' inr => rw [e1]; exact SimR.dp hx hd
 rw [e1]
 clear e1
 dsimp only
 have hg2 := targets_go gG _ _ _ _ hg.2 e2
 have hS := need_sm (dp := dp) h (s := [61]) (by decide) (p := r) hg2.2
 rcases e3 : V.need [61] r with ⟨a0, c0⟩ | ⟨u, s⟩
 ·rw [e3] at hS
  intro x0
  obtain ⟨q0, h0, y0, e1⟩ := hS x0
  rw [e1]
  exact ⟨q0, h0, y0, rfl⟩
 rw [e3] at hS
 rcases hS with ⟨u', e1, z5⟩ | ⟨hd, a0, e1⟩
 case' inr => rw [e1]; exact SimR.dp hx hd
 rw [e1]
 clear e1
 dsimp only
 have hg3 := need_go (by decide) _ _ _ e3
 have hS := listE_sm h hx hG gG hg3.2
 rcases e4 : listE V G s with ⟨a0, c0⟩ | ⟨m, t⟩
 ·rw [e4] at hS
  intro x0
  obtain ⟨q0, h0, y0, e1⟩ := hS x0
  rw [e1]
  exact ⟨q0, h0, y0, rfl⟩
 rw [e4] at hS
 rcases hS with ⟨m', e1, z6⟩ | ⟨hd, a0, e1⟩
 case' inr => rw [e1]; exact SimR.dp hx hd
 rw [e1]
 clear e1
 dsimp only
 exact .inl ⟨_, rfl, by rw [len_eq z4]; exact tz_mk (by simp only [List.map_cons, List.map_append, z1, z4, z6])⟩
theorem statementS_sm {p : Nat} (hp : p ≤ V.L.length) : SimR V V' ex dp d tz (statementS V G p) (statementS V' G' (p + d)) := by
 unfold statementS
 rw [h.isB (s := sLocal) hp (by decide) (by decide) (by decide), h.isB (s := sFunction) hp (by decide) (by decide) (by decide), h.isB (s := sIf) hp (by decide) (by decide) (by decide), h.isB (s := sWhile) hp (by decide) (by decide) (by decide), h.isB (s := sFor) hp (by decide) (by decide) (by decide), h.isB (s := sDo) hp (by decide) (by decide) (by decide), h.isB (s := sBreak) hp (by decide) (by decide) (by decide)]
 cases c : V.is sLocal p with
 | true =>
  have hq := is_lt c (by decide)
  rw [if_pos rfl, if_pos rfl]
  exact localS_sm h hx hG gG hq
 | false =>
 rw [if_neg Bool.false_ne_true, if_neg Bool.false_ne_true]
 clear c
 cases c : V.is sFunction p with
 | true =>
  have hq := is_lt c (by decide)
  rw [if_pos rfl, if_pos rfl]
  exact functionS_sm h hx hG gG hp
 | false =>
 rw [if_neg Bool.false_ne_true, if_neg Bool.false_ne_true]
 clear c
 cases c : V.is sIf p with
 | true =>
  have hq := is_lt c (by decide)
  rw [if_pos rfl, if_pos rfl]
  exact choiceS_sm h hx hG gG hq
 | false =>
 rw [if_neg Bool.false_ne_true, if_neg Bool.false_ne_true]
 clear c
 cases c : V.is sWhile p with
 | true =>
  have hq := is_lt c (by decide)
  rw [if_pos rfl, if_pos rfl]
  exact whileS_sm h hx hG gG hq
 | false =>
 rw [if_neg Bool.false_ne_true, if_neg Bool.false_ne_true]
 clear c
 cases c : V.is sFor p with
 | true =>
  have hq := is_lt c (by decide)
  rw [if_pos rfl, if_pos rfl]
  exact countS_sm h hx hG gG hq
 | false =>
 rw [if_neg Bool.false_ne_true, if_neg Bool.false_ne_true]
 clear c
 cases c : V.is sDo p with
 | true =>
  have hq := is_lt c (by decide)
  rw [if_pos rfl, if_pos rfl]
  have hS := doS_sm h hx hG gG hp
  rcases e : doS V G p with ⟨a0, c0⟩ | ⟨b, q⟩
  ·rw [e] at hS
   intro x0
   obtain ⟨q0, h0, y0, e1⟩ := hS x0
   rw [e1]
   exact ⟨q0, h0, y0, rfl⟩
  rw [e] at hS
  rcases hS with ⟨b', e1, z⟩ | ⟨hd, a0, e1⟩
  case' inr => rw [e1]; exact SimR.dp hx hd
  rw [e1]
  clear e1
  dsimp only
  exact .inl ⟨_, rfl, tz_nd (by simp only [List.map_cons, List.map_nil, z])⟩
 | false =>
 rw [if_neg Bool.false_ne_true, if_neg Bool.false_ne_true]
 clear c
 cases c : V.is sBreak p with
 | true =>
  have hq := is_lt c (by decide)
  rw [if_pos rfl, if_pos rfl]
  exact .inl ⟨_, by rw [show p + d + 1 = p + 1 + d by omega], tz_nd rfl⟩
 | false =>
 rw [if_neg Bool.false_ne_true, if_neg Bool.false_ne_true]
 clear c
 exact callOrAssignS_sm h hx hG gG hp
theorem stmts_sm : ∀ f f' p, p ≤ V.L.length → V.L.length < p + f → V'.L.length < p + d + f' → SimB V V' ex dp d V.L.length (List.map tz) (stmts V G f p) (stmts V' G' f' (p + d)) := by
 have hlen := h.len
 intro f
 induction f with
 | zero => intro f' p hp h1; omega
 | succ f ih =>
  intro f' p hp h1 h2
  cases f' with
  | zero => omega
  | succ f' =>
  unfold stmts
  by_cases hc : p < V.L.length ∨ ex = true
  case' neg =>
   have e0 : p = V.L.length := by
    rcases Nat.lt_or_ge p V.L.length with hq | hq
    ·exact absurd (.inl hq) hc
    ·omega
   subst e0
   rw [if_pos (by unfold Env.ends Env.ended; simp)]
   exact fun hq => absurd hq hc
  rw [ends_sm h (by rcases hc with hc | hc; exact .inl hc; exact .inr ⟨hc, hp⟩)]
  have hs : V'.is [59] (p + d) = V.is [59] p := by
   rcases hc with hc | hc
   ·exact h.is hc
   ·exact h.isX hp (by decide) hc
  rw [hs, h.isB (s := sReturn) hp (by decide) (by decide) (by decide)]
  cases i1 : V.ends p with
  | true =>
   rw [if_pos rfl, if_pos rfl]
   exact fun _ => .inl ⟨_, rfl, rfl⟩
  | false =>
  rw [if_neg Bool.false_ne_true, if_neg Bool.false_ne_true]
  cases i2 : V.is [59] p with
  | true =>
   have hq := is_lt i2 (by decide)
   rw [if_pos rfl, if_pos rfl, show p + d + 1 = p + 1 + d by omega]
   exact ih f' (p + 1) (by omega) (by omega) (by omega)
  | false =>
  rw [if_neg Bool.false_ne_true, if_neg Bool.false_ne_true]
  cases i3 : V.is sReturn p with
  | true =>
   have hq := is_lt i3 (by decide)
   rw [if_pos rfl, if_pos rfl]
   have hS := returnedS_sm h hx hG gG hq
   rcases e4 : returnedS V G p with ⟨a0, c0⟩ | ⟨n, t⟩
   ·rw [e4] at hS
    intro x0
    obtain ⟨q0, h0, y0, e1⟩ := hS x0
    rw [e1]
    exact ⟨q0, h0, y0, rfl⟩
   rw [e4] at hS
   intro ht
   rcases hS ht with ⟨n', e1, z4⟩ | ⟨hd, a0, e1⟩
   ·rw [e1]
    exact .inl ⟨_, rfl, by simp only [List.map_cons, List.map_nil, z4]⟩
   ·rw [e1]
    exact .inr ⟨hd, _, rfl⟩
  | false =>
  rw [if_neg Bool.false_ne_true, if_neg Bool.false_ne_true]
  have hS := statementS_sm h hx hG gG hp
  rcases e : statementS V G p with ⟨a0, c0⟩ | ⟨n, q⟩
  ·rw [e] at hS
   intro x0
   obtain ⟨q0, h0, y0, e1⟩ := hS x0
   rw [e1]
   exact ⟨q0, h0, y0, rfl⟩
  rw [e] at hS
  rcases hS with ⟨n', e1, z⟩ | ⟨hd, a0, e1⟩
  case' inr => rw [e1]; exact SimB.dp hx hd
  rw [e1]
  clear e1
  dsimp only
  have hg := statementS_go gG _ _ _ e
  have hS := ih f' q hg.2 (by omega) (by omega)
  rcases e4 : stmts V G f q with ⟨a0, c0⟩ | ⟨l, t⟩
  ·rw [e4] at hS
   intro x0
   obtain ⟨q0, h0, y0, e1⟩ := hS x0
   rw [e1]
   exact ⟨q0, h0, y0, rfl⟩
  rw [e4] at hS
  intro ht
  rcases hS ht with ⟨l', e1, z4⟩ | ⟨hd, a0, e1⟩
  ·rw [e1]
   exact .inl ⟨_, rfl, by simp only [List.map_cons, z, z4]⟩
  ·rw [e1]
   exact .inr ⟨hd, _, rfl⟩
theorem blockE_sm {p : Nat} (hp : p ≤ V.L.length) : SimB V V' ex dp d V.L.length tz (blockE V G p) (blockE V' G' (p + d)) := by
 have hlen := h.len
 unfold blockE
 have hS := stmts_sm h hx hG gG (V.L.length + 1) (V'.L.length + 1) p hp (by omega) (by omega)
 rcases e4 : stmts V G (V.L.length + 1) p with ⟨a0, c0⟩ | ⟨l, t⟩
 ·rw [e4] at hS
  intro x0
  obtain ⟨q0, h0, y0, e1⟩ := hS x0
  rw [e1]
  exact ⟨q0, h0, y0, rfl⟩
 rw [e4] at hS
 intro ht
 rcases hS ht with ⟨l', e1, z4⟩ | ⟨hd, a0, e1⟩
 ·rw [e1]
  exact .inl ⟨_, rfl, tz_nd z4⟩
 ·rw [e1]
  exact .inr ⟨hd, _, rfl⟩
end
/-- Levels: the second's may be deeper (dp) or not. -/
theorem lev_sm {V V' : Env} {d : Nat} {ex dp : Bool} (h : Sm V V' d ex) (hx : ex = true → dp = false) : ∀ n n', (ex = true → n = n') → (dp = false → n ≤ n') → LSim V V' d ex dp (lev V n) (lev V' n') := by
 intro n
 induction n with
 | zero =>
  intro n' h1 h2
  refine ⟨fun _ p hp => ?_, fun p hp => ?_, fun _ _ p hp => ?_, fun p hp => ?_, (fun e => by cases e), (fun e => by rw [← h1 e]; rfl)⟩
  all_goals
   intro e
   rw [← h1 e]
   exact ⟨_, rfl, (by first | exact .inl rfl | exact .inr rfl), rfl⟩
 | succ n ih =>
  intro n' h1 h2
  cases n' with
  | zero =>
   have hd : dp = true := by cases hdp : dp with | true => rfl | false => exact absurd (h2 hdp) (by omega)
   exact ⟨fun _ p hp => SimR.dp hx hd, fun p hp => SimR.dp hx hd, fun _ _ p hp => SimR.dp hx hd, fun p hp => SimB.dp hx hd, fun _ => .inr hd, (fun e => by rw [hx e] at hd; cases hd)⟩
  | succ n' =>
   have hL := ih n' (fun e => by have := h1 e; omega) (fun e => by have := h2 e; omega)
   have gL := lev_go V n
   exact ⟨fun bd p hp => aboveE_sm h hx hL gL bd hp, fun p hp => suffE_sm h hx hL gL hp, fun a a' p hp => bodyE_sm h hx hL gL a a' hp, fun p hp => blockE_sm h hx hL gL hp, fun _ => .inl rfl, fun _ => rfl⟩
end Go.Proofs.YtgkgpjbbmnfnmaaGreatDoor

/- Whole sources: with other places; two joined; one in parentheses. -/
namespace Go.Proofs.YtgkgpjbbmnfnmaaGreatDoor
set_option linter.unusedSimpArgs false
set_option linter.unusedVariables false
set_option linter.unusedSectionVars false

theorem ended_len {V : Env} : V.ends V.L.length = true := by unfold Env.ends Env.ended; simp
/-- A whole source is a block of statements that ends with the tokens. -/
theorem whole_ok {V : Env} {x : Tr} (h : whole V = .ok x) : ∃ l, stmts V (lev V 39) (V.L.length + 1) 0 = .ok (l, V.L.length) ∧ x = nd 20 l (V.at 0) := by
 unfold whole at h
 have hb : (lev V 40).block 0 = blockE V (lev V 39) 0 := rfl
 rw [hb] at h
 unfold blockE at h
 rcases e : stmts V (lev V 39) (V.L.length + 1) 0 with e1 | ⟨l, q⟩
 ·rw [e] at h; cases h
 ·rw [e] at h
  dsimp only at h
  have hg := stmts_go (lev_go V 39) _ _ _ _ (Nat.zero_le _) e
  cases he : V.ended q with
  | false => rw [he] at h; cases h
  | true =>
   rw [he] at h
   have hq : V.L.length ≤ q := by simpa [Env.ended] using he
   have e2 : q = V.L.length := by omega
   subst e2
   exact ⟨l, rfl, (Except.ok.inj h).symm⟩
theorem whole_of {V : Env} {l : List Tr} {q : Nat} (h : stmts V (lev V 39) (V.L.length + 1) 0 = .ok (l, q)) (hq : V.L.length ≤ q) : whole V = .ok (nd 20 l (V.at 0)) := by
 unfold whole
 have hb : (lev V 40).block 0 = blockE V (lev V 39) 0 := rfl
 rw [hb]
 unfold blockE
 rw [h]
 dsimp only
 rw [if_pos (by simpa [Env.ended] using hq)]
/-- Other places: the same tree, or the same error. -/
theorem whole_sm {V V' : Env} (h : Sm V V' 0 true) : (∀ x, whole V = .ok x → ∃ x', whole V' = .ok x' ∧ tz x' = tz x) ∧ (∀ a c, whole V = .error (a, c) → (∃ q, a = V.at q) ∧ (c = 6 ∨ c = 14) ∧ ∃ a', whole V' = .error (a', c)) := by
 have hS : SimB V V' true false 0 V.L.length tz ((lev V 40).block 0) ((lev V' 40).block 0) := (lev_sm h (fun _ => rfl) 40 40 (fun _ => rfl) (fun _ => Nat.le_refl _)).block 0 (Nat.zero_le _)
 unfold whole
 rcases e : (lev V 40).block 0 with ⟨a0, c0⟩ | ⟨x, q⟩
 ·rw [e] at hS
  obtain ⟨q0, h0, y0, e1⟩ := hS rfl
  rw [e1]
  refine ⟨(fun x hx => by cases hx), fun a c hx => ?_⟩
  simp only [Except.error.injEq, Prod.mk.injEq] at hx
  exact ⟨⟨q0, by rw [← hx.1]; exact h0⟩, by rw [← hx.2]; exact y0, _, by rw [hx.2]⟩
 ·rw [e] at hS
  rcases hS (.inr rfl) with ⟨x', e1, z⟩ | ⟨hd, _⟩
  ·rw [e1]
   have he : V'.ended (q + 0) = V.ended q := by unfold Env.ended; rw [h.last rfl]; rfl
   dsimp only
   rw [he]
   cases V.ended q with
   | true =>
    refine ⟨fun y hy => ?_, (fun a c hy => by cases hy)⟩
    rw [if_pos rfl] at hy ⊢
    exact ⟨x', rfl, by rw [z, Except.ok.inj hy]⟩
   | false =>
    refine ⟨(fun y hy => by cases hy), fun a c hy => ?_⟩
    rw [if_neg (by decide)] at hy ⊢
    simp only [Except.error.injEq, Prod.mk.injEq] at hy
    exact ⟨⟨q, hy.1.symm⟩, .inl hy.2.symm, _, by rw [hy.2]⟩
  ·cases hd

theorem end_tk {V : Env} {p : Nat} (h : V.L.length ≤ p) : V.tk p = ⟨0, ⟨#[]⟩, 0, 0, ⟨#[]⟩, V.E, 0⟩ := by
 unfold Env.tk; rw [List.getD_eq_getElem?_getD, List.getElem?_eq_none h]; rfl
theorem Sm.self (V : Env) : Sm V V 0 true where
 len := Nat.le_refl _
 tok := fun p hp => ⟨rfl, rfl, rfl, rfl, rfl⟩
 last := fun _ => rfl
 bt := .inl (by rw [end_tk (by omega)])
 bk := by
  rw [end_tk (by omega)]
  exact ⟨show (0 : Int) ≠ 1 by decide, show (0 : Int) ≠ 3 by decide, show (0 : Int) ≠ 4 by decide⟩
/-- An error's place is a token's, or the end. -/
theorem whole_place {V : Env} {a c : Int} (h : whole V = .error (a, c)) : (∃ q, a = V.at q) ∧ (c = 6 ∨ c = 14) := ⟨((whole_sm (Sm.self V)).2 a c h).1, ((whole_sm (Sm.self V)).2 a c h).2.1⟩
theorem returned_k {V : Env} {G : Lev} {p : Nat} {n : Tr} {q : Nat} (h : returnedS V G p = .ok (n, q)) : n.k = 27 := by
 unfold returnedS at h
 split at h
 ·cases h
 ·simp only [Except.ok.injEq, Prod.mk.injEq] at h
  rw [← h.1]; rfl
/-- The first of two sources, and what stands behind it. -/
theorem stmts_front {V1 V : Env} {n n' : Nat} (h : Sm V1 V 0 false) (hn : n ≤ n') {l2 : List Tr} {r : Nat} (h2 : ∀ f, V.L.length < V1.L.length + f → ∃ l3, stmts V (lev V n') f V1.L.length = .ok (l3, r) ∧ l3.map tz = l2.map tz) :
  ∀ f f' p l, p ≤ V1.L.length → V1.L.length < p + f → V.L.length < p + f' → stmts V1 (lev V1 n) f p = .ok (l, V1.L.length) → (∀ x, l.getLast? = some x → x.k ≠ 27) →
   ∃ l', stmts V (lev V n') f' p = .ok (l', r) ∧ l'.map tz = (l ++ l2).map tz := by
 have hlen := h.len
 have hL := lev_sm (dp := false) h (fun _ => rfl) n n' (fun e => by cases e) (fun _ => hn)
 have gL := lev_go V1 n
 intro f
 induction f with
 | zero => intro f' p l hp h1; omega
 | succ f ih =>
  intro f' p l hp h1 h3 hs hr
  rcases Nat.lt_or_ge p V1.L.length with hlt | hge
  ·cases f' with
   | zero => omega
   | succ f' =>
   have i1 : V.ends p = V1.ends p := ends_sm (d := 0) h (.inl hlt)
   have i2 : V.is [59] p = V1.is [59] p := h.is (d := 0) hlt
   have i3 : V.is sReturn p = V1.is sReturn p := h.is (d := 0) hlt
   unfold stmts at hs ⊢
   rw [i1, i2, i3]
   cases c1 : V1.ends p with
   | true =>
    rw [c1, if_pos rfl] at hs
    simp only [Except.ok.injEq, Prod.mk.injEq] at hs
    omega
   | false =>
   rw [c1, if_neg Bool.false_ne_true] at hs
   rw [if_neg Bool.false_ne_true]
   cases c2 : V1.is [59] p with
   | true =>
    rw [c2, if_pos rfl] at hs
    rw [if_pos rfl]
    exact ih f' (p + 1) l (by omega) (by omega) (by omega) hs hr
   | false =>
   rw [c2, if_neg Bool.false_ne_true] at hs
   rw [if_neg Bool.false_ne_true]
   cases c3 : V1.is sReturn p with
   | true =>
    rw [c3, if_pos rfl] at hs
    rcases e : returnedS V1 (lev V1 n) p with e1 | ⟨x, q⟩
    ·rw [e] at hs; cases hs
    ·rw [e] at hs
     simp only [Except.ok.injEq, Prod.mk.injEq] at hs
     refine absurd (returned_k e) (hr x ?_)
     rw [← hs.1]; rfl
   | false =>
   rw [c3, if_neg Bool.false_ne_true] at hs
   rw [if_neg Bool.false_ne_true]
   have hS := statementS_sm h (fun _ => rfl) hL gL hp
   rcases e : statementS V1 (lev V1 n) p with e1 | ⟨x, q⟩
   ·rw [e] at hs; cases hs
   rw [e] at hs hS
   dsimp only at hs
   have hg := statementS_go gL _ _ _ e
   rcases hS with ⟨x', e1, z⟩ | ⟨hd, _⟩
   case' inr => cases hd
   rcases e4 : stmts V1 (lev V1 n) f q with e5 | ⟨l0, t⟩
   ·rw [e4] at hs; cases hs
   rw [e4] at hs
   simp only [Except.ok.injEq, Prod.mk.injEq] at hs
   obtain ⟨rfl, rfl⟩ := hs
   obtain ⟨l', e6, z6⟩ := ih f' q l0 hg.2 (by omega) (by omega) e4 (fun y hy => hr y (by
    rw [List.getLast?_cons, hy]; rfl))
   have e1' : statementS V (lev V n') p = .ok (x', q) := e1
   rw [e1']
   dsimp only
   rw [e6]
   exact ⟨x' :: l', rfl, by simp only [List.cons_append, List.map_cons, z, z6]⟩
  ·have e0 : p = V1.L.length := by omega
   subst e0
   unfold stmts at hs
   rw [ended_len, if_pos rfl] at hs
   simp only [Except.ok.injEq, Prod.mk.injEq] at hs
   rw [← hs.1]
   exact h2 f' h3
/-- Two sources with a semicolon between. -/
theorem whole_join {V1 V2 V : Env} (h1 : Sm V1 V 0 false) (h2 : Sm V2 V (V1.L.length + 1) true) (hc : V.is [59] V1.L.length = true) {l1 l2 : List Tr} {a1 a2 : Int}
  (e1 : whole V1 = .ok (nd 20 l1 a1)) (e2 : whole V2 = .ok (nd 20 l2 a2)) (hr : ∀ x, l1.getLast? = some x → x.k ≠ 27) : ∃ l a, whole V = .ok (nd 20 l a) ∧ l.map tz = (l1 ++ l2).map tz := by
 obtain ⟨m1, s1, x1⟩ := whole_ok e1
 obtain ⟨m2, s2, x2⟩ := whole_ok e2
 have y1 : l1 = m1 := by simp only [nd, Tr.mk.injEq] at x1; exact x1.2.2.2.2.2.1
 have y2 : l2 = m2 := by simp only [nd, Tr.mk.injEq] at x2; exact x2.2.2.2.2.2.1
 subst y1 y2
 have hlen2 := h2.last rfl
 have hL2 := lev_sm (dp := false) h2 (fun _ => rfl) 39 39 (fun _ => rfl) (fun _ => Nat.le_refl _)
 have gL2 := lev_go V2 39
 have hb : ∀ f, V.L.length < (V1.L.length + 1) + f → ∃ l2', stmts V (lev V 39) f (V1.L.length + 1) = .ok (l2', V.L.length) ∧ l2'.map tz = l2.map tz := by
  intro f hf
  have := stmts_sm h2 (fun _ => rfl) hL2 gL2 (V2.L.length + 1) f 0 (Nat.zero_le _) (by omega) (by omega)
  rw [s2, Nat.zero_add] at this
  rcases this (.inr rfl) with ⟨l', e, z⟩ | ⟨hd, _⟩
  ·exact ⟨l', by rw [e]; congr 2; omega, z⟩
  ·cases hd
 have hlt := is_lt hc (by decide)
 -- the semicolon is passed over
 have hend : V.ends V1.L.length = false := by
  have ht : (V.tk V1.L.length).t.data.toList = [59] := by simpa [Env.is] using hc
  unfold Env.ends Env.ended Env.is
  rw [ht]
  simp
  exact ⟨⟨⟨by omega, by decide⟩, by decide⟩, by decide⟩
 have hm : ∀ f, V.L.length < V1.L.length + f → ∃ l3, stmts V (lev V 39) f V1.L.length = .ok (l3, V.L.length) ∧ l3.map tz = l2.map tz := by
  intro f hf
  cases f with
  | zero => omega
  | succ f =>
   unfold stmts
   rw [hend, if_neg Bool.false_ne_true, hc, if_pos rfl]
   exact hb f (by omega)
 obtain ⟨l', e7, z7⟩ := stmts_front h1 (Nat.le_refl 39) hm (V1.L.length + 1) (V.L.length + 1) 0 l1 (Nat.zero_le _) (by omega) (by omega) s1 hr
 exact ⟨_, _, whole_of e7 (Nat.le_refl _), z7⟩
end Go.Proofs.YtgkgpjbbmnfnmaaGreatDoor
