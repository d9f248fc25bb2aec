/- Joined: PA PB PC PD PE PF. -/
import Derived.Test.YtmoiikpjegbokaaGreatDoorGN
import Derived.Test.YtmoiikpjegbokaaGreatDoorGS
set_option linter.unusedSimpArgs false
set_option linter.unusedVariables false
/- What is printed is parsed as it was: tools. -/
namespace Go.Proofs.YtmoiikpjegbokaaGreatDoor
open List renaming length_append → lla
open List renaming length_cons → llc
open Bool renaming false_ne_true → fnt
open List renaming map_cons → lmc
set_option linter.unusedSectionVars false
def Con (kd : ByteArray → Tk) (V : Env) : Prop := ∀ p, p < V.L.length → np (V.tk p) = kd (V.tk p).t
def At (V : Env) (p : Nat) (ts : List ByteArray) : Prop := ∀ i (h : i < ts.length), p + i < V.L.length ∧ (V.tk (p + i)).t = ts[i]
theorem At.nil (V : Env) (p : Nat) : At V p [] := fun i h => by simp at h
theorem At.left {V : Env} {p : Nat} {a b : List ByteArray} (h : At V p (a ++ b)) : At V p a := by
  intro i hi;have := h i (by rw [lla]; omega);rw [List.getElem_append_left hi] at this;exact this
theorem At.right {V : Env} {p : Nat} {a b : List ByteArray} (h : At V p (a ++ b)) : At V (p + a.length) b := by
  intro i hi;have := h (a.length + i) (by rw [lla]; omega);rw [List.getElem_append_right (by omega)] at this;simp only [Nat.add_sub_cancel_left, ← Nat.add_assoc] at this;exact this
theorem At.head {V : Env} {p : Nat} {t : ByteArray} {r : List ByteArray} (h : At V p (t :: r)) : p < V.L.length ∧ (V.tk p).t = t := h 0 (by simp)
theorem At.tail {V : Env} {p : Nat} {t : ByteArray} {r : List ByteArray} (h : At V p (t :: r)) : At V (p + 1) r := At.right (a := [t]) h
theorem At.is {V : Env} {p : Nat} {t : ByteArray} {r : List ByteArray} (h : At V p (t :: r)) (s : List UInt8) : V.is s p = (t.data.toList == s) := by
  unfold Env.is; rw [h.head.2]
theorem At.lt {V : Env} {p : Nat} {ts : List ByteArray} (h : At V p ts) (h0 : ts ≠ []) : p + ts.length ≤ V.L.length := by
  have hl : 0 < ts.length := List.length_pos_iff.2 h0;have := (h (ts.length - 1) (by omega)).1;omega
def fixL : List (List UInt8) := [sOr, sAnd, sFunction, sEnd, sElse, sElseif, sThen, sDo, sReturn, sLocal, sIf, sWhile, sFor, sBreak, sNil, sTrue, sFalse, sNot, [47, 47], [46, 46], [61, 61], [126, 61], [60, 61], [62, 61], [43], [45], [42], [47], [37], [60], [62], [61], [40], [41], [123], [125], [91], [93], [44], [59], [46], [35]]
structure KdOK (kd : ByteArray → Tk) (nt : Int → Int → ByteArray) (qt : ByteArray → ByteArray) (P : Int → Int → Prop) : Prop where
  fix : ∀ t : ByteArray, t.data.toList ∈ fixL → (kd t).k = 2 ∨ (kd t).k = 5
  num : ∀ vt vn, P vt vn → (kd (nt vt vn)).k = 3 ∧ (kd (nt vt vn)).vt = vt ∧ (kd (nt vt vn)).vn = vn
  quote : ∀ t : ByteArray, t.size ≤ 9000 → (kd (qt t)).k = 4 ∧ (kd (qt t)).sy = t
def OkG {α β : Type} (z : α → β) (R : PR α) (x : α) (q : Nat) : Prop := (∃ x', R = .ok (x', q) ∧ z x' = z x) ∨ ∃ a, R = .error (a, 14)
theorem OkG.bind {α β γ δ : Type} {z : α → γ} {y : β → δ} {R : PR α} {x : α} {q : Nat} (h : OkG z R x q) {F : PR α → PR β} (hF : ∀ e, F (.error e) = .error e) {u : β} {r : Nat} (hK : ∀ x', z x' = z x → OkG y (F (.ok (x', q))) u r) : OkG y (F R) u r := by
  rcases h with ⟨x', rfl, hz⟩ | ⟨a, rfl⟩
  · exact hK x' hz
  · exact .inr ⟨a, hF _⟩
section
variable {kd : ByteArray → Tk} {nt : Int → Int → ByteArray} {qt : ByteArray → ByteArray} {P : Int → Int → Prop} (K : KdOK kd nt qt P)
theorem con_k {V : Env} (hV : Con kd V) {p : Nat} (hp : p < V.L.length) : (V.tk p).k = (kd (V.tk p).t).k ∧ (V.tk p).vt = (kd (V.tk p).t).vt ∧ (V.tk p).vn = (kd (V.tk p).t).vn ∧ (V.tk p).sy = (kd (V.tk p).t).sy := by
  have := hV p hp;rw [← this];exact ⟨rfl, rfl, rfl, rfl⟩
include K
theorem not_fix {V : Env} (hV : Con kd V) {p : Nat} (hp : p < V.L.length) (hk : (V.tk p).k ≠ 2 ∧ (V.tk p).k ≠ 5) {s : List UInt8} (hs : s ∈ fixL) : V.is s p = false := by
  cases h : V.is s p with
  | false => rfl
  | true =>
    have e : (V.tk p).t.data.toList = s := by simpa [Env.is] using h
    have := K.fix (V.tk p).t (by rw [e]; exact hs);rw [← (con_k hV hp).1] at this;rcases this with h' | h'
    · exact absurd h' hk.1
    · exact absurd h' hk.2
theorem fix_k {V : Env} (hV : Con kd V) {p : Nat} (hp : p < V.L.length) (hs : (V.tk p).t.data.toList ∈ fixL) : ((V.tk p).k == 1) = false ∧ ((V.tk p).k == 3) = false ∧ ((V.tk p).k == 4) = false := by
  have := K.fix (V.tk p).t hs;rw [← (con_k hV hp).1] at this;rcases this with h | h <;> rw [h] <;> decide
end
def fo (V : Env) (q : Nat) : Prop := V.is [46] q = false ∧ V.is [91] q = false ∧ V.is [40] q = false
def fe (V : Env) (q : Nat) : Prop := fo V q ∧ bindOf (V.tk q).t.data.toList = 0
def closL : List (List UInt8) := [[41], [93], [125], [59], [44], [61], sThen, sDo, sEnd, sElse, sElseif]
theorem fe_of {V : Env} {q : Nat} {t : ByteArray} {r : List ByteArray} (h : At V q (t :: r)) (ht : t.data.toList ∈ closL) : fe V q := by
  have h1 := h.is;have key : ∀ s ∈ closL, (s == [46]) = false ∧ (s == [91]) = false ∧ (s == [40]) = false ∧ bindOf s = 0 := by decide
  obtain ⟨a, b, c, d⟩ := key _ ht;unfold fe fo;rw [h1, h1, h1, h.head.2];exact ⟨⟨a, b, c⟩, d⟩
def stopL : List (List UInt8) := [[41], [93], [125], [59], [44], [61], [91], sThen, sDo, sEnd, sElse, sElseif, sReturn]
end Go.Proofs.YtmoiikpjegbokaaGreatDoor
/- What is printed is parsed as it was: expressions. -/
namespace Go.Proofs.YtmoiikpjegbokaaGreatDoor
open List renaming length_append → lla
open List renaming length_cons → llc
open Bool renaming false_ne_true → fnt
open List renaming map_cons → lmc
set_option linter.unusedSectionVars false
def HdG (V : Env) (n p : Nat) (x : Tr) (g : Bool) (q : Nat) : Prop := (∃ a, suffE V (lev V n) p = .error (a, 14)) ∨ ∃ x' f, tz x' = tz x ∧ V.L.length < q + f ∧ suffE V (lev V n) p = sufs V (lev V n) (V.at p) f x' g q
structure EP (kd : ByteArray → Tk) (nt : Int → Int → ByteArray) (qt : ByteArray → ByteArray) (x : Tr) : Prop where
  first : ∃ h r, prT nt qt x = h :: r ∧ h.data.toList ∉ stopL
  op : ∀ V, Con kd V → ∀ n p, At V p (prT nt qt x) → fo V (p + (prT nt qt x).length) → OkG tz (operandE V (lev V n) p) x (p + (prT nt qt x).length)
  look : ∀ V, Con kd V → ∀ p, At V p (prT nt qt x) → V.is [61] (p + (prT nt qt x).length) = false → (V.isName p && V.is [61] (p + 1)) = false
  head : x.k = 6 ∨ x.k = 10 ∨ x.k = 11 → ∀ V, Con kd V → ∀ n p, At V p (prT nt qt x) → HdG V n p x false (p + (prT nt qt x).length)
  front : x.k = 6 ∨ x.k = 10 ∨ x.k = 11 → ∀ V, Con kd V → ∀ p, At V p (prT nt qt x) → (V.isName p || V.is [40] p) = true
theorem bins_stop {V : Env} {G : Lev} {bd f : Nat} {n : Tr} {q : Nat} (hb : bindOf (V.tk q).t.data.toList = 0) : bins V G bd f n q = .ok (n, q) := by
  cases f with
  | zero => rfl
  | succ f => unfold bins; dsimp only; rw [hb, if_pos (Nat.zero_le _)]
theorem sufs_stop {V : Env} {G : Lev} {a : Int} {f : Nat} {n : Tr} {g : Bool} {q : Nat} (h : fo V q) : sufs V G a f n g q = .ok ((n, g), q) := by
  cases f with
  | zero => rfl
  | succ f => unfold sufs; rw [h.1, h.2.1, h.2.2]; rfl
theorem stop_fix : ∀ s ∈ stopL, s ∈ fixL := by decide
theorem un_fix : ∀ s ∈ unS, s ∈ fixL := by decide
theorem bin_fix {s : List UInt8} (h : 0 < bindOf s) : s ∈ fixL ∧ s ≠ [46] ∧ s ≠ [91] ∧ s ≠ [40] := by
  unfold bindOf at h;by_cases h1 : (s == sOr) = true
  · rw [eq_of_beq h1]; decide
  rw [if_neg h1] at h;by_cases h2 : (s == sAnd) = true
  · rw [eq_of_beq h2]; decide
  rw [if_neg h2] at h;by_cases h3 : (s == [60] || s == [62] || s == [60, 61] || s == [62, 61] || s == [126, 61] || s == [61, 61]) = true
  · simp only [Bool.or_eq_true, beq_iff_eq] at h3;rcases h3 with ((((h3 | h3) | h3) | h3) | h3) | h3 <;> rw [h3] <;> decide
  rw [if_neg h3] at h;by_cases h4 : (s == [46, 46]) = true
  · rw [eq_of_beq h4]; decide
  rw [if_neg h4] at h;by_cases h5 : (s == [43] || s == [45]) = true
  · simp only [Bool.or_eq_true, beq_iff_eq] at h5;rcases h5 with h5 | h5 <;> rw [h5] <;> decide
  rw [if_neg h5] at h;by_cases h6 : (s == [42] || s == [47] || s == [47, 47] || s == [37]) = true
  · simp only [Bool.or_eq_true, beq_iff_eq] at h6;rcases h6 with ((h6 | h6) | h6) | h6 <;> rw [h6] <;> decide
  rw [if_neg h6] at h;exact absurd h (by decide)
section
variable {kd : ByteArray → Tk} {nt : Int → Int → ByteArray} {qt : ByteArray → ByteArray} {P : Int → Int → Prop} (K : KdOK kd nt qt P)
theorem EP.above {x : Tr} (h : EP kd nt qt x) {V : Env} (hV : Con kd V) (n bd p : Nat) (hA : At V p (prT nt qt x)) (hf : fe V (p + (prT nt qt x).length)) : OkG tz ((lev V n).above bd p) x (p + (prT nt qt x).length) := by
  cases n with
  | zero => exact .inr ⟨_, rfl⟩
  | succ n =>
    show OkG tz (aboveE V (lev V n) bd p) x _;unfold aboveE;rcases h.op V hV n p hA hf.1 with ⟨x', e, z⟩ | ⟨a, e⟩
    · rw [e];dsimp only;rw [bins_stop hf.2];exact .inl ⟨x', rfl, z⟩
    · rw [e]; exact .inr ⟨a, rfl⟩
theorem need_at {V : Env} {p : Nat} {t : ByteArray} {r : List ByteArray} (h : At V p (t :: r)) {s : List UInt8} (hs : t.data.toList = s) : V.need s p = .ok ((), p + 1) := by
  unfold Env.need;rw [h.is, hs, if_pos (by simp)]
include K
theorem operand_suff {V : Env} (hV : Con kd V) {p : Nat} (hp : p < V.L.length) (hk : (V.isName p || V.is [40] p) = true) (G : Lev) : operandE V G p = match suffE V G p with
    | .error e => .error e
    | .ok ((n, _), q) => .ok (n, q) := by
  have key : ((V.tk p).k == 3) = false ∧ ((V.tk p).k == 4) = false ∧ ∀ s ∈ fixL, s ≠ [40] → V.is s p = false := by
    rw [Bool.or_eq_true] at hk;rcases hk with hk | hk
    · have h1 : (V.tk p).k = 1 := by simpa [Env.isName] using hk
      refine ⟨by rw [h1]; rfl, by rw [h1]; rfl, fun s hs _ => not_fix K hV hp (by rw [h1]; decide) hs⟩
    · have e : (V.tk p).t.data.toList = [40] := by simpa [Env.is] using hk
      obtain ⟨_, a, b⟩ := fix_k K hV hp (by rw [e]; decide);refine ⟨a, b, fun s hs hne => ?_⟩;unfold Env.is;rw [e];exact beq_eq_false_iff_ne.2 (Ne.symm hne)
  obtain ⟨k3, k4, kf⟩ := key;unfold operandE;dsimp only
  rw [k3, if_neg fnt, k4, if_neg fnt, kf sNil (by decide) (by decide), if_neg fnt, kf sTrue (by decide) (by decide), if_neg fnt, kf sFalse (by decide) (by decide), if_neg fnt,
    kf sFunction (by decide) (by decide), if_neg fnt, kf [123] (by decide) (by decide), if_neg fnt, kf sNot (by decide) (by decide), kf [35] (by decide) (by decide), kf [45] (by decide) (by decide), Bool.or_false, Bool.or_false, if_neg fnt]
  rcases suffE V G p with e | ⟨⟨n, g⟩, q⟩ <;> rfl
theorem op_of_head {V : Env} (hV : Con kd V) {n p q : Nat} {x : Tr} {g : Bool} (hp : p < V.L.length) (hk : (V.isName p || V.is [40] p) = true) (h : HdG V n p x g q) (hf : fo V q) : OkG tz (operandE V (lev V n) p) x q := by
  rw [operand_suff K hV hp hk];rcases h with ⟨a, e⟩ | ⟨x', f, z, _, e⟩
  · rw [e]; exact .inr ⟨a, rfl⟩
  · rw [e, sufs_stop hf]; exact .inl ⟨x', rfl, z⟩
omit K in
theorem par_head {V : Env} {n p q : Nat} {x : Tr} (h0 : V.is [40] p = true) (hin : OkG tz ((lev V n).above 0 (p + 1)) x q) (hc : At V q [⟨#[41]⟩]) : HdG V n p x true (q + 1) := by
  unfold HdG suffE stemE;rw [h0, if_pos rfl];rcases hin with ⟨x', e, z⟩ | ⟨a, e⟩
  · rw [e];dsimp only;rw [need_at hc rfl];exact .inr ⟨x', _, z, by omega, rfl⟩
  · rw [e]; exact .inl ⟨a, rfl⟩
theorem EP.name {t : ByteArray} (ht : (kd t).k = 1) (a : Int) : EP kd nt qt (.mk 6 t 0 0 0 [] a) := by
  have hp : prT nt qt (.mk 6 t 0 0 0 [] a) = [t] := rfl
  have hk : ∀ V, Con kd V → ∀ p, At V p [t] → (V.tk p).k = 1 := fun V hV p hA => by
    rw [(con_k hV hA.head.1).1, hA.head.2]; exact ht
  have hh : ∀ V, Con kd V → ∀ n p, At V p [t] → HdG V n p (.mk 6 t 0 0 0 [] a) false (p + 1) := fun V hV n p hA => by
    have h1 := hk V hV p hA;have h40 := not_fix K hV hA.head.1 (by rw [h1]; decide) (s := [40]) (by decide);unfold HdG suffE stemE;rw [h40, if_neg fnt];unfold Env.name;rw [show V.isName p = true by unfold Env.isName; rw [h1]; rfl, if_pos rfl, hA.head.2];exact .inr ⟨_, V.L.length + 1, tz_mk rfl, by omega, rfl⟩
  have hn : ∀ V, Con kd V → ∀ p, At V p [t] → (V.isName p || V.is [40] p) = true := fun V hV p hA => by
    unfold Env.isName; rw [hk V hV p hA]; rfl
  refine ⟨⟨t, [], hp, fun h => ?_⟩, ?_, ?_, ?_, ?_⟩
  · have := K.fix t (stop_fix _ h);rw [ht] at this;rcases this with h | h <;> cases h
  · rw [hp]; exact fun V hV n p hA hf => op_of_head K hV hA.head.1 (hn V hV p hA) (hh V hV n p hA) hf
  · rw [hp]; exact fun V hV p hA hf => by rw [show p + 1 = p + [t].length from rfl, hf, Bool.and_false]
  · rw [hp]; exact fun _ V hV n p hA => hh V hV n p hA
  · rw [hp]; exact fun _ V hV p hA => hn V hV p hA
theorem EP.tok {x : Tr} {t : ByteArray} (hp : prT nt qt x = [t]) (hk : x.k ≠ 6 ∧ x.k ≠ 10 ∧ x.k ≠ 11) (hs : t.data.toList ∉ stopL) (ho : ∀ V, Con kd V → ∀ G p, At V p [t] → ∃ x', operandE V G p = .ok (x', p + 1) ∧ tz x' = tz x) : EP kd nt qt x := by
  refine ⟨⟨t, [], hp, hs⟩, ?_, ?_, fun h => ?_, fun h => ?_⟩
  · rw [hp]; exact fun V hV n p hA hf => .inl (ho V hV _ p hA)
  · rw [hp]; exact fun V hV p hA hf => by rw [show p + 1 = p + [t].length from rfl, hf, Bool.and_false]
  · rcases h with h | h | h <;> simp_all
  · rcases h with h | h | h <;> simp_all
theorem EP.num {vt vn : Int} (h : P vt vn) (a : Int) : EP kd nt qt (.mk 4 ⟨#[]⟩ vt vn 0 [] a) := by
  obtain ⟨k1, k2, k3⟩ := K.num vt vn h;refine EP.tok K (t := nt vt vn) rfl ⟨show (4 : Int) ≠ 6 by decide, show (4 : Int) ≠ 10 by decide, show (4 : Int) ≠ 11 by decide⟩ (fun h => ?_) (fun V hV G p hA => ?_)
  · have := K.fix _ (stop_fix _ h);rw [k1] at this;rcases this with h | h <;> cases h
  · obtain ⟨c1, c2, c3, c4⟩ := con_k hV hA.head.1;rw [hA.head.2] at c1 c2 c3;unfold operandE;dsimp only;rw [show ((V.tk p).k == 3) = true by rw [c1, k1]; rfl, if_pos rfl, c2, c3, k2, k3];exact ⟨_, rfl, tz_mk rfl⟩
theorem EP.text {t : ByteArray} (h : t.size ≤ 9000) (a : Int) : EP kd nt qt (.mk 5 t 0 0 0 [] a) := by
  obtain ⟨k1, k2⟩ := K.quote t h;refine EP.tok K (t := qt t) rfl ⟨show (5 : Int) ≠ 6 by decide, show (5 : Int) ≠ 10 by decide, show (5 : Int) ≠ 11 by decide⟩ (fun h => ?_) (fun V hV G p hA => ?_)
  · have := K.fix _ (stop_fix _ h);rw [k1] at this;rcases this with h | h <;> cases h
  · obtain ⟨c1, c2, c3, c4⟩ := con_k hV hA.head.1;rw [hA.head.2] at c1 c4;unfold operandE;dsimp only;rw [show ((V.tk p).k == 3) = false by rw [c1, k1]; rfl, if_neg fnt, show ((V.tk p).k == 4) = true by rw [c1, k1]; rfl, if_pos rfl, c4, k2];exact ⟨_, rfl, tz_mk rfl⟩
theorem EP.word {k : Int} (h : k = 1 ∨ k = 2 ∨ k = 3) (a : Int) : EP kd nt qt (nd k [] a) := by
  have key : ∀ (s : List UInt8) (x : Tr), s = sNil ∨ s = sTrue ∨ s = sFalse → prT nt qt x = [⟨s.toArray⟩] → (x.k ≠ 6 ∧ x.k ≠ 10 ∧ x.k ≠ 11) →
      (∀ V (G : Lev) p, ((V.tk p).k == 3) = false → ((V.tk p).k == 4) = false → At V p [⟨s.toArray⟩] → ∃ x', operandE V G p = .ok (x', p + 1) ∧ tz x' = tz x) → EP kd nt qt x := by
    intro s x hs hp hk ho;refine EP.tok K hp hk ?_ (fun V hV G p hA => ?_)
    · rcases hs with rfl | rfl | rfl <;> decide
    · obtain ⟨_, a, b⟩ := fix_k K hV hA.head.1 (by rw [hA.head.2]; rcases hs with rfl | rfl | rfl <;> decide);exact ho V G p a b hA
  rcases h with rfl | rfl | rfl
  · refine key sNil _ (.inl rfl) rfl ⟨show (1 : Int) ≠ 6 by decide, show (1 : Int) ≠ 10 by decide, show (1 : Int) ≠ 11 by decide⟩ (fun V G p a b hA => ?_);unfold operandE; dsimp only;rw [a, if_neg fnt, b, if_neg fnt, hA.is, if_pos (by decide)];exact ⟨_, rfl, tz_mk rfl⟩
  · refine key sTrue _ (.inr (.inl rfl)) rfl ⟨show (2 : Int) ≠ 6 by decide, show (2 : Int) ≠ 10 by decide, show (2 : Int) ≠ 11 by decide⟩ (fun V G p a b hA => ?_);unfold operandE; dsimp only;rw [a, if_neg fnt, b, if_neg fnt, hA.is, if_neg (by decide), hA.is, if_pos (by decide)];exact ⟨_, rfl, tz_mk rfl⟩
  · refine key sFalse _ (.inr (.inr rfl)) rfl ⟨show (3 : Int) ≠ 6 by decide, show (3 : Int) ≠ 10 by decide, show (3 : Int) ≠ 11 by decide⟩ (fun V G p a b hA => ?_);unfold operandE; dsimp only;rw [a, if_neg fnt, b, if_neg fnt, hA.is, if_neg (by decide), hA.is, if_neg (by decide), hA.is, if_pos (by decide)];exact ⟨_, rfl, tz_mk rfl⟩
theorem EP.par {x : Tr} {ts : List ByteArray} (hp : prT nt qt x = ⟨#[40]⟩ :: (ts ++ [⟨#[41]⟩])) (hk : x.k ≠ 6 ∧ x.k ≠ 10 ∧ x.k ≠ 11) (ho : ∀ V, Con kd V → ∀ n p, At V p (ts ++ [⟨#[41]⟩]) → OkG tz ((lev V n).above 0 p) x (p + ts.length)) : EP kd nt qt x := by
  refine ⟨⟨_, _, hp, by decide⟩, ?_, ?_, fun h => ?_, fun h => ?_⟩
  · rw [hp];intro V hV n p hA hf;have e : p + (⟨#[40]⟩ :: (ts ++ [⟨#[41]⟩]) : List ByteArray).length = p + 1 + ts.length + 1 := by simp only [llc, lla, List.length_nil]; omega
    rw [e] at hf ⊢;have h40 : V.is [40] p = true := by rw [hA.is]; rfl
    exact op_of_head K hV hA.head.1 (by rw [h40, Bool.or_true]) (par_head h40 (ho V hV n (p + 1) hA.tail) hA.tail.right) hf
  · rw [hp];intro V hV p hA _;have h1 : V.isName p = false := (fix_k K hV hA.head.1 (by rw [hA.head.2]; decide)).1;rw [h1, Bool.false_and]
  · rcases h with h | h | h <;> simp_all
  · rcases h with h | h | h <;> simp_all
theorem EP.un {t : ByteArray} {x : Tr} (ht : t.data.toList ∈ unS) (h : EP kd nt qt x) (a : Int) : EP kd nt qt (.mk 9 t 0 0 0 [x] a) := by
  refine EP.par K (ts := t :: prT nt qt x) rfl ⟨show (9 : Int) ≠ 6 by decide, show (9 : Int) ≠ 10 by decide, show (9 : Int) ≠ 11 by decide⟩ (fun V hV n p hA => ?_);cases n with
  | zero => exact .inr ⟨_, rfl⟩
  | succ n =>
    rw [List.cons_append] at hA;obtain ⟨_, k3, k4⟩ := fix_k K hV hA.head.1 (by rw [hA.head.2]; exact un_fix _ ht)
    have hi : ∀ s, s ∈ [sNil, sTrue, sFalse, sFunction, [123]] → V.is s p = false := fun s hs => by
      rw [hA.is];have : ∀ u ∈ unS, ∀ s ∈ [sNil, sTrue, sFalse, sFunction, [123]], (u == s) = false := by decide
      exact this _ ht _ hs
    have hu : (V.is sNot p || V.is [35] p || V.is [45] p) = true := by
      rw [hA.is, hA.is, hA.is];have : ∀ u ∈ unS, (u == sNot || u == [35] || u == [45]) = true := by decide
      exact this _ ht
    have hab := h.above hV n 7 (p + 1) hA.tail.left (fe_of hA.tail.right (by decide));show OkG tz (aboveE V (lev V n) 0 p) _ _;unfold aboveE operandE;dsimp only;rw [k3, if_neg fnt, k4, if_neg fnt, hi sNil (by decide), if_neg fnt, hi sTrue (by decide), if_neg fnt, hi sFalse (by decide), if_neg fnt, hi sFunction (by decide), if_neg fnt, hi [123] (by decide), if_neg fnt, hu, if_pos rfl];rcases hab with ⟨x', e, z⟩ | ⟨b, e⟩
    · rw [e];dsimp only;rw [bins_stop (fe_of hA.tail.right (by decide)).2, hA.head.2];exact .inl ⟨_, by rw [show p + 1 + (prT nt qt x).length = p + (t :: prT nt qt x).length by simp only [llc]; omega], tz_mk (by simp only [lmc, List.map_nil, z])⟩
    · rw [e]; exact .inr ⟨b, rfl⟩
theorem EP.bin {t : ByteArray} {x y : Tr} (ht : 0 < bindOf t.data.toList) (hx : EP kd nt qt x) (hy : EP kd nt qt y) (a : Int) : EP kd nt qt (.mk 8 t 0 0 0 [x, y] a) := by
  refine EP.par K (ts := prT nt qt x ++ (t :: prT nt qt y)) (show [⟨#[40]⟩] ++ prT nt qt x ++ [t] ++ prT nt qt y ++ [⟨#[41]⟩] = _ by simp) ⟨show (8 : Int) ≠ 6 by decide, show (8 : Int) ≠ 10 by decide, show (8 : Int) ≠ 11 by decide⟩ (fun V hV n p hA => ?_);cases n with
  | zero => exact .inr ⟨_, rfl⟩
  | succ n =>
    rw [List.append_assoc, List.cons_append] at hA;have hT := hA.right;obtain ⟨hf, f1, f2, f3⟩ := bin_fix ht;have hfo : fo V (p + (prT nt qt x).length) := ⟨by rw [hT.is]; exact beq_eq_false_iff_ne.2 f1, by rw [hT.is]; exact beq_eq_false_iff_ne.2 f2, by rw [hT.is]; exact beq_eq_false_iff_ne.2 f3⟩;have h1 := hx.op V hV n p hA.left hfo;have hab := fun bd => hy.above hV n bd (p + (prT nt qt x).length + 1) hT.tail.left (fe_of hT.tail.right (by decide))
    show OkG tz (aboveE V (lev V n) 0 p) _ _;unfold aboveE;rcases h1 with ⟨x', e, z⟩ | ⟨b, e⟩
    · rw [e];dsimp only;unfold bins;dsimp only;rw [hT.head.2, if_neg (by omega)];rcases hab (if (t.data.toList == [46, 46]) = true then bindOf t.data.toList - 1 else bindOf t.data.toList) with ⟨y', e2, z2⟩ | ⟨b, e2⟩
      · rw [e2];dsimp only;rw [bins_stop (fe_of hT.tail.right (by decide)).2];exact .inl ⟨_, by rw [show p + (prT nt qt x).length + 1 + (prT nt qt y).length = p + (prT nt qt x ++ (t :: prT nt qt y)).length by simp only [lla, llc]; omega], tz_mk (by simp only [lmc, List.map_nil, z, z2])⟩
      · rw [e2]; exact .inr ⟨b, rfl⟩
    · rw [e]; exact .inr ⟨b, rfl⟩
end
end Go.Proofs.YtmoiikpjegbokaaGreatDoor
/- What is printed is parsed as it was: lists, suffixes, tables, functions. -/
namespace Go.Proofs.YtmoiikpjegbokaaGreatDoor
open List renaming length_append → lla
open List renaming length_cons → llc
open Bool renaming false_ne_true → fnt
open List renaming map_cons → lmc
set_option linter.unusedSectionVars false
theorem commaP_two (x y : List ByteArray) (r : List (List ByteArray)) : commaP (x :: y :: r) = x ++ (⟨#[44]⟩ :: commaP (y :: r)) := by simp [commaP]
theorem commaP_one (x : List ByteArray) : commaP [x] = x := by simp [commaP]
theorem mem_clos {V : Env} {q : Nat} {r : List ByteArray} : At V q (⟨#[44]⟩ :: r) → fe V q := fun h => fe_of h (by decide)
theorem sep_at {nt : Int → Int → ByteArray} {qt : ByteArray → ByteArray} {V : Env} {f : Nat → PR Tr} : ∀ (l : List Tr) (fuel p : Nat), l ≠ [] → (∀ x ∈ l, prT nt qt x ≠ [] ∧ ∀ q, At V q (prT nt qt x) → fe V (q + (prT nt qt x).length) → OkG tz (f q) x (q + (prT nt qt x).length)) →
    At V p (commaP (l.map (prT nt qt))) → fe V (p + (commaP (l.map (prT nt qt))).length) → V.is [44] (p + (commaP (l.map (prT nt qt))).length) = false → V.L.length < p + fuel → OkG (List.map tz) (V.sep f fuel p) l (p + (commaP (l.map (prT nt qt))).length)
  | [], _, _, h, _, _, _, _, _ => absurd rfl h
  | [x], fuel, p, _, hx, hA, hf, hc, hn => by
    rw [lmc, List.map_nil, commaP_one] at hA hf hc ⊢;have hS := (hx x (by simp)).2 p hA hf;rcases hS with ⟨x', e, z⟩ | ⟨a, e⟩
    · cases fuel with
      | zero => unfold Env.sep; rw [e]; exact .inl ⟨[x'], rfl, by simp [z]⟩
      | succ fuel => unfold Env.sep; rw [e]; dsimp only; rw [hc, if_neg fnt]; exact .inl ⟨[x'], rfl, by simp [z]⟩
    · cases fuel with
      | zero => unfold Env.sep; rw [e]; exact .inr ⟨a, rfl⟩
      | succ fuel => unfold Env.sep; rw [e]; exact .inr ⟨a, rfl⟩
  | x :: y :: r, fuel, p, _, hx, hA, hf, hc, hn => by
    have e0 : commaP ((x :: y :: r).map (prT nt qt)) = prT nt qt x ++ (⟨#[44]⟩ :: commaP ((y :: r).map (prT nt qt))) := commaP_two _ _ _;have el : p + (commaP ((x :: y :: r).map (prT nt qt))).length = p + (prT nt qt x).length + 1 + (commaP ((y :: r).map (prT nt qt))).length := by rw [e0, lla, llc]; omega
    rw [el] at hf hc ⊢;rw [e0] at hA;have hR := hA.right;have hS := (hx x (by simp)).2 p hA.left (mem_clos hR);have hlt := hA.lt (by simp);rw [lla, llc] at hlt;cases fuel with
    | zero => omega
    | succ fuel =>
      unfold Env.sep;rcases hS with ⟨x', e, z⟩ | ⟨a, e⟩
      · rw [e];dsimp only;rw [hR.is, if_pos (by decide)];have ih := sep_at (nt := nt) (qt := qt) (f := f) (y :: r) fuel (p + (prT nt qt x).length + 1) (by simp) (fun u hu => hx u (List.mem_cons_of_mem _ hu)) hR.tail hf hc (by omega);rcases ih with ⟨l', e2, z2⟩ | ⟨a, e2⟩
        · rw [e2]; exact .inl ⟨x' :: l', rfl, by rw [lmc, z, z2]; rfl⟩
        · rw [e2]; exact .inr ⟨a, rfl⟩
      · rw [e]; exact .inr ⟨a, rfl⟩
section
variable {kd : ByteArray → Tk} {nt : Int → Int → ByteArray} {qt : ByteArray → ByteArray} {P : Int → Int → Prop} (K : KdOK kd nt qt P)
theorem EP.ne {x : Tr} (h : EP kd nt qt x) : prT nt qt x ≠ [] := by
  obtain ⟨t, r, e, _⟩ := h.first
  rw [e]; simp
theorem EP.not {x : Tr} (h : EP kd nt qt x) {V : Env} {p : Nat} {r : List ByteArray} (hA : At V p (prT nt qt x ++ r)) {s : List UInt8} (hs : s ∈ stopL) : V.is s p = false := by
  obtain ⟨t, u, e, hn⟩ := h.first
  rw [e, List.cons_append] at hA;rw [hA.is];exact beq_eq_false_iff_ne.2 (fun e2 => hn (by rw [e2]; exact hs))
theorem list_at {V : Env} (hV : Con kd V) {n p : Nat} {l : List Tr} (h0 : l ≠ []) (hx : ∀ x ∈ l, EP kd nt qt x) (hA : At V p (commaP (l.map (prT nt qt)))) (hf : fe V (p + (commaP (l.map (prT nt qt))).length)) (hc : V.is [44] (p + (commaP (l.map (prT nt qt))).length) = false) :
    OkG (List.map tz) (listE V (lev V n) p) l (p + (commaP (l.map (prT nt qt))).length) := by
  unfold listE;exact sep_at l _ p h0 (fun x hxl => ⟨(hx x hxl).ne, fun q hq hfq => (hx x hxl).above hV n 0 q hq hfq⟩) hA hf hc (by omega)
theorem list_not {V : Env} {p : Nat} {l : List Tr} (h0 : l ≠ []) (hx : ∀ x ∈ l, EP kd nt qt x) {r : List ByteArray} (hA : At V p (commaP (l.map (prT nt qt)) ++ r)) {s : List UInt8} (hs : s ∈ stopL) : V.is s p = false := by
  cases l with
  | nil => exact absurd rfl h0
  | cons x l =>
    rw [lmc] at hA;unfold commaP at hA;rw [List.append_assoc] at hA;exact (hx x (by simp)).not hA hs
include K
theorem EP.headp {x : Tr} (h : EP kd nt qt x) {V : Env} (hV : Con kd V) (n p : Nat) (hA : At V p (headP x.k (prT nt qt x))) :
    (∃ g, HdG V n p x g (p + (headP x.k (prT nt qt x)).length)) ∧ (V.isName p || V.is [40] p) = true ∧ p < V.L.length ∧ (V.is [61] (p + (headP x.k (prT nt qt x)).length) = false → (V.isName p && V.is [61] (p + 1)) = false) := by
  unfold headP at hA ⊢;by_cases hk : x.k = 6 ∨ x.k = 10 ∨ x.k = 11
  · rw [if_pos hk] at hA ⊢;obtain ⟨t, r, e, _⟩ := h.first
    exact ⟨⟨false, h.head hk V hV n p hA⟩, h.front hk V hV p hA, by rw [e] at hA; exact hA.head.1, h.look V hV p hA⟩
  · rw [if_neg hk] at hA ⊢;have hA' : At V p (⟨#[40]⟩ :: (prT nt qt x ++ [⟨#[41]⟩])) := by simpa using hA
    have h40 : V.is [40] p = true := by rw [hA'.is]; rfl
    have e : p + ([⟨#[40]⟩] ++ prT nt qt x ++ [⟨#[41]⟩] : List ByteArray).length = p + 1 + (prT nt qt x).length + 1 := by simp only [lla, llc, List.length_nil]; omega
    rw [e];refine ⟨⟨true, par_head h40 (h.above hV n 0 (p + 1) hA'.tail.left (fe_of hA'.tail.right (by decide))) hA'.tail.right⟩, by rw [h40, Bool.or_true], hA'.head.1, fun _ => ?_⟩;have h1 : V.isName p = false := (fix_k K hV hA'.head.1 (by rw [hA'.head.2]; decide)).1;rw [h1, Bool.false_and]
theorem EP.sufx {x z : Tr} {t : ByteArray} {ts : List ByteArray} (hx : EP kd nt qt x) (hp : prT nt qt z = headP x.k (prT nt qt x) ++ (t :: ts)) (hk : z.k = 10 ∨ z.k = 11) (ht : t.data.toList ≠ [61])
    (hs : ∀ V, Con kd V → ∀ n a f x' g q, tz x' = tz x → At V q (t :: ts) → V.L.length < q + f → (∃ b, sufs V (lev V n) a f x' g q = .error (b, 14)) ∨ ∃ z' f', tz z' = tz z ∧ V.L.length < q + (t :: ts).length + f' ∧ sufs V (lev V n) a f x' g q = sufs V (lev V n) a f' z' false (q + (t :: ts).length)) : EP kd nt qt z := by
  have hh : ∀ V, Con kd V → ∀ n p, At V p (prT nt qt z) → HdG V n p z false (p + (prT nt qt z).length) ∧ (V.isName p || V.is [40] p) = true ∧ p < V.L.length ∧ (V.isName p && V.is [61] (p + 1)) = false := fun V hV n p hA => by
    rw [hp] at hA ⊢;obtain ⟨⟨g, hg⟩, h1, h2, h3⟩ := hx.headp K hV n p hA.left;refine ⟨?_, h1, h2, h3 (by rw [hA.right.is]; exact beq_eq_false_iff_ne.2 ht)⟩;rw [lla, ← Nat.add_assoc];rcases hg with ⟨a, e⟩ | ⟨x', f, z1, hf, e⟩
    · exact .inl ⟨a, e⟩
    · rcases hs V hV n (V.at p) f x' g _ z1 hA.right hf with ⟨b, e2⟩ | ⟨z', f', z2, hf2, e2⟩
      · exact .inl ⟨b, by rw [e, e2]⟩
      · exact .inr ⟨z', f', z2, hf2, by rw [e, e2]⟩
  refine ⟨?_, fun V hV n p hA hf => op_of_head K hV (hh V hV n p hA).2.2.1 (hh V hV n p hA).2.1 (hh V hV n p hA).1 hf, fun V hV p hA _ => (hh V hV 0 p hA).2.2.2, fun _ V hV n p hA => (hh V hV n p hA).1, fun _ V hV p hA => (hh V hV 0 p hA).2.1⟩;rw [hp];unfold headP;split
  · obtain ⟨h, r, e, hn⟩ := hx.first
    exact ⟨h, r ++ (t :: ts), by rw [e, List.cons_append], hn⟩
  · exact ⟨⟨#[40]⟩, prT nt qt x ++ [⟨#[41]⟩] ++ (t :: ts), by simp, by decide⟩
omit K in
theorem sufs_succ (V : Env) (G : Lev) (a : Int) (f : Nat) (n : Tr) (g : Bool) (p : Nat) : sufs V G a (f + 1) n g p = if V.is [46] p then match V.key (p + 1) with
      | .error e => .error e
      | .ok (k, q) => sufs V G a f (nd 10 [n, k] a) false q
    else if V.is [91] p then match G.above 0 (p + 1) with
      | .error e => .error e
      | .ok (k, q) => match V.need [93] q with
        | .error e => .error e
        | .ok (_, r) => sufs V G a f (nd 10 [n, k] a) false r
    else if V.is [40] p then match argsE V G (p + 1) with
      | .error e => .error e
      | .ok (l, q) => sufs V G a f (nd 11 (n :: l) a) false q
    else .ok ((n, g), p) := rfl
theorem EP.index {x y : Tr} (hx : EP kd nt qt x) (hy : EP kd nt qt y) (a : Int) : EP kd nt qt (nd 10 [x, y] a) := by
  refine EP.sufx K hx (t := ⟨#[91]⟩) (ts := prT nt qt y ++ [⟨#[93]⟩]) (show headP x.k (prT nt qt x) ++ keyP (prT nt qt y) = _ by simp [keyP]) (.inl rfl) (by decide) (fun V hV n a f x' g q z hA hf => ?_);have hq := hA.head.1;cases f with
  | zero => omega
  | succ f =>
    have hl : q + (⟨#[91]⟩ :: (prT nt qt y ++ [⟨#[93]⟩]) : List ByteArray).length = q + 1 + (prT nt qt y).length + 1 := by simp only [llc, lla, List.length_nil]; omega
    rw [hl];rw [sufs_succ, hA.is, if_neg (by decide), hA.is, if_pos (by decide)];rcases hy.above hV n 0 (q + 1) hA.tail.left (fe_of hA.tail.right (by decide)) with ⟨y', e, z2⟩ | ⟨b, e⟩
    · rw [e];dsimp only;rw [need_at hA.tail.right rfl];refine .inr ⟨_, f, tz_nd ?_, by omega, rfl⟩;simp only [lmc, List.map_nil, z, z2]
    · rw [e]; exact .inl ⟨b, rfl⟩
theorem EP.call {x : Tr} {l : List Tr} (hx : EP kd nt qt x) (hl : ∀ y ∈ l, EP kd nt qt y) (a : Int) : EP kd nt qt (nd 11 (x :: l) a) := by
  refine EP.sufx K hx (t := ⟨#[40]⟩) (ts := commaP (l.map (prT nt qt)) ++ [⟨#[41]⟩]) (show headP x.k (prT nt qt x) ++ [⟨#[40]⟩] ++ commaP (prTs nt qt l) ++ [⟨#[41]⟩] = _ by rw [prTs_map]; simp) (.inr rfl) (by decide) (fun V hV n a f x' g q z hA hf => ?_);have hq := hA.head.1;cases f with
  | zero => omega
  | succ f =>
    have hle : q + (⟨#[40]⟩ :: (commaP (l.map (prT nt qt)) ++ [⟨#[41]⟩]) : List ByteArray).length = q + 1 + (commaP (l.map (prT nt qt))).length + 1 := by simp only [llc, lla, List.length_nil]; omega
    rw [hle];rw [sufs_succ, hA.is, if_neg (by decide), hA.is, if_neg (by decide), hA.is, if_pos (by decide)];have hB := hA.tail
    have hargs : OkG (List.map tz) (argsE V (lev V n) (q + 1)) l (q + 1 + (commaP (l.map (prT nt qt))).length + 1) := by
      unfold argsE;by_cases h0 : l = []
      · subst h0;rw [(show At V (q + 1) [⟨#[41]⟩] from hB).is, if_pos (by decide)];exact .inl ⟨[], rfl, rfl⟩
      · rw [list_not h0 hl hB (by decide), if_neg fnt];have hc := hB.right;rcases list_at hV (n := n) h0 hl hB.left (fe_of hc (by decide)) (by rw [hc.is]; rfl) with ⟨l', e, z2⟩ | ⟨b, e⟩
        · rw [e]; dsimp only;rw [need_at hc rfl];exact .inl ⟨l', rfl, z2⟩
        · rw [e]; exact .inr ⟨b, rfl⟩
    rcases hargs with ⟨l', e, z2⟩ | ⟨b, e⟩
    · rw [e];refine .inr ⟨_, f, tz_nd ?_, by omega, rfl⟩;rw [lmc, lmc, z, z2]
    · rw [e]; exact .inl ⟨b, rfl⟩
structure IP (kd : ByteArray → Tk) (nt : Int → Int → ByteArray) (qt : ByteArray → ByteArray) (x : Tr) : Prop where
  first : ∃ h r, prT nt qt x = h :: r ∧ h.data.toList ≠ [125]
  item : ∀ V, Con kd V → ∀ n p, At V p (prT nt qt x) → fe V (p + (prT nt qt x).length) → V.is [61] (p + (prT nt qt x).length) = false → OkG tz (itemE V (lev V n) p) x (p + (prT nt qt x).length)
theorem IP.item' {x : Tr} (h : EP kd nt qt x) (a : Int) : IP kd nt qt (nd 13 [x] a) := by
  have hp : prT nt qt (nd 13 [x] a) = prT nt qt x := rfl;refine ⟨?_, ?_⟩
  · rw [hp];obtain ⟨t, r, e, hn⟩ := h.first
    exact ⟨t, r, e, fun e2 => hn (by rw [e2]; decide)⟩
  · rw [hp];intro V hV n p hA hf h61;unfold itemE;have h91 : V.is [91] p = false := h.not (r := []) (by rw [List.append_nil]; exact hA) (by decide);rw [h91, h.look V hV p hA h61, if_pos (by decide)];rcases h.above hV n 0 p hA hf with ⟨x', e, z⟩ | ⟨b, e⟩
    · rw [e]; exact .inl ⟨_, rfl, tz_nd (by simp only [lmc, List.map_nil, z])⟩
    · rw [e]; exact .inr ⟨b, rfl⟩
theorem IP.pair {x y : Tr} (hx : EP kd nt qt x) (hy : EP kd nt qt y) (a : Int) : IP kd nt qt (nd 14 [x, y] a) := by
  have hp : prT nt qt (nd 14 [x, y] a) = ⟨#[91]⟩ :: (prT nt qt x ++ (⟨#[93]⟩ :: ⟨#[61]⟩ :: prT nt qt y)) := show keyP (prT nt qt x) ++ [⟨#[61]⟩] ++ prT nt qt y = _ by simp [keyP]
  refine ⟨⟨_, _, hp, by decide⟩, ?_⟩;rw [hp];intro V hV n p hA hf _;have hl : p + (⟨#[91]⟩ :: (prT nt qt x ++ (⟨#[93]⟩ :: ⟨#[61]⟩ :: prT nt qt y)) : List ByteArray).length = p + 1 + (prT nt qt x).length + 1 + 1 + (prT nt qt y).length := by simp only [llc, lla]; omega
  rw [hl] at hf ⊢;have hB := hA.tail.right;unfold itemE itemKeyE;rw [hA.is, show ((⟨#[91]⟩ : ByteArray).data.toList == [91]) = true from rfl, if_neg (by simp), if_pos rfl];rcases hx.above hV n 0 (p + 1) hA.tail.left (fe_of hB (by decide)) with ⟨x', e, z⟩ | ⟨b, e⟩
  · rw [e];dsimp only;rw [need_at hB rfl];dsimp only;rw [need_at hB.tail rfl];dsimp only;rcases hy.above hV n 0 _ hB.tail.tail hf with ⟨y', e2, z2⟩ | ⟨b, e2⟩
    · rw [e2]; exact .inl ⟨_, rfl, tz_nd (by simp only [lmc, List.map_nil, z, z2])⟩
    · rw [e2]; exact .inr ⟨b, rfl⟩
  · rw [e]; exact .inr ⟨b, rfl⟩
theorem items_at {V : Env} (hV : Con kd V) {n : Nat} : ∀ (l : List Tr) (fuel p : Nat) (r : List ByteArray), (∀ x ∈ l, IP kd nt qt x) → At V p (commaP (l.map (prT nt qt)) ++ (⟨#[125]⟩ :: r)) → V.L.length < p + fuel → OkG (List.map tz) (itemsE V (lev V n) fuel p) l (p + (commaP (l.map (prT nt qt))).length)
  | [], fuel, p, r, hx, hA, hn => by
    have hA' : At V p (⟨#[125]⟩ :: r) := hA;cases fuel with
    | zero => exact .inl ⟨[], rfl, rfl⟩
    | succ fuel => unfold itemsE; rw [hA'.is, if_pos (by decide)]; exact .inl ⟨[], rfl, rfl⟩
  | [x], fuel, p, r, hx, hA, hn => by
    rw [lmc, List.map_nil, commaP_one] at hA ⊢;obtain ⟨t, u, e0, hne⟩ := (hx x (by simp)).first
    have hp : p < V.L.length := by rw [e0] at hA; exact hA.head.1
    have hR := hA.right;cases fuel with
    | zero => omega
    | succ fuel =>
      unfold itemsE
      have h125 : V.is [125] p = false := by
        have hA' := hA;rw [e0, List.cons_append] at hA';rw [hA'.is]; exact beq_eq_false_iff_ne.2 hne
      rw [h125, if_neg fnt];rcases (hx x (by simp)).item V hV n p hA.left (fe_of hR (by decide)) (by rw [hR.is]; rfl) with ⟨x', e, z⟩ | ⟨b, e⟩
      · rw [e]; dsimp only;rw [hR.is, if_neg (by decide)];exact .inl ⟨[x'], rfl, by simp only [lmc, List.map_nil, z]⟩
      · rw [e]; exact .inr ⟨b, rfl⟩
  | x :: y :: m, fuel, p, r, hx, hA, hn => by
    have e1 : commaP ((x :: y :: m).map (prT nt qt)) = prT nt qt x ++ (⟨#[44]⟩ :: commaP ((y :: m).map (prT nt qt))) := commaP_two _ _ _;have el : p + (commaP ((x :: y :: m).map (prT nt qt))).length = p + (prT nt qt x).length + 1 + (commaP ((y :: m).map (prT nt qt))).length := by rw [e1, lla, llc]; omega
    rw [el];rw [e1, List.append_assoc, List.cons_append] at hA;obtain ⟨t, u, e0, hne⟩ := (hx x (by simp)).first
    have hp : p < V.L.length := by rw [e0] at hA; exact hA.head.1
    have hR := hA.right;cases fuel with
    | zero => omega
    | succ fuel =>
      unfold itemsE
      have h125 : V.is [125] p = false := by
        have hA' := hA;rw [e0, List.cons_append] at hA';rw [hA'.is]; exact beq_eq_false_iff_ne.2 hne
      rw [h125, if_neg fnt];rcases (hx x (by simp)).item V hV n p hA.left (fe_of hR (by decide)) (by rw [hR.is]; rfl) with ⟨x', e, z⟩ | ⟨b, e⟩
      · rw [e]; dsimp only;rw [hR.is, if_pos (by decide)];rcases items_at hV (n := n) (y :: m) fuel _ r (fun u hu => hx u (List.mem_cons_of_mem _ hu)) hR.tail (by omega) with ⟨l', e2, z2⟩ | ⟨b, e2⟩
        · rw [e2]; exact .inl ⟨x' :: l', rfl, by rw [lmc, z, z2]; rfl⟩
        · rw [e2]; exact .inr ⟨b, rfl⟩
      · rw [e]; exact .inr ⟨b, rfl⟩
theorem EP.table {l : List Tr} (hl : ∀ x ∈ l, IP kd nt qt x) (a : Int) : EP kd nt qt (nd 12 l a) := by
  have hp : prT nt qt (nd 12 l a) = ⟨#[123]⟩ :: (commaP (l.map (prT nt qt)) ++ [⟨#[125]⟩]) := show [⟨#[123]⟩] ++ commaP (prTs nt qt l) ++ [⟨#[125]⟩] = _ by rw [prTs_map]; simp
  refine ⟨⟨_, _, hp, by decide⟩, ?_, ?_, fun h => ?_, fun h => ?_⟩
  · rw [hp];intro V hV n p hA hf;have e : p + (⟨#[123]⟩ :: (commaP (l.map (prT nt qt)) ++ [⟨#[125]⟩]) : List ByteArray).length = p + 1 + (commaP (l.map (prT nt qt))).length + 1 := by simp only [llc, lla, List.length_nil]; omega
    rw [e];obtain ⟨_, k3, k4⟩ := fix_k K hV hA.head.1 (by rw [hA.head.2]; decide);unfold operandE;dsimp only;rw [k3, if_neg fnt, k4, if_neg fnt, hA.is, if_neg (by decide), hA.is, if_neg (by decide), hA.is, if_neg (by decide), hA.is, if_neg (by decide), hA.is, if_pos (by decide)];unfold tableE;rcases items_at K hV (n := n) l (V.L.length + 1) (p + 1) [] hl hA.tail (by omega) with ⟨l', e2, z⟩ | ⟨b, e2⟩
    · rw [e2]; dsimp only;rw [need_at hA.tail.right rfl];exact .inl ⟨_, rfl, tz_nd z⟩
    · rw [e2]; exact .inr ⟨b, rfl⟩
  · rw [hp];intro V hV p hA _;have h1 : V.isName p = false := (fix_k K hV hA.head.1 (by rw [hA.head.2]; decide)).1;rw [h1, Bool.false_and]
  · rcases h with h | h | h <;> exact absurd h (by show ¬ (12 : Int) = _; decide)
  · rcases h with h | h | h <;> exact absurd h (by show ¬ (12 : Int) = _; decide)
omit K in
def NP (kd : ByteArray → Tk) (x : Tr) : Prop := ∃ t a, x = .mk 6 t 0 0 0 [] a ∧ (kd t).k = 1
omit K in
def BP (kd : ByteArray → Tk) (nt : Int → Int → ByteArray) (qt : ByteArray → ByteArray) (x : Tr) : Prop := ∀ V, Con kd V → ∀ n p, At V p (prT nt qt x) → V.ends (p + (prT nt qt x).length) = true → OkG tz ((lev V n).block p) x (p + (prT nt qt x).length)
omit K in
theorem NP.at {x : Tr} (h : NP kd x) : prT nt qt x ≠ [] ∧ ∀ V, Con kd V → ∀ q, At V q (prT nt qt x) → V.isName q = true ∧ OkG tz (V.name q) x (q + (prT nt qt x).length) := by
  obtain ⟨t, a, rfl, hk⟩ := h;have hp : prT nt qt (.mk 6 t 0 0 0 [] a) = [t] := rfl;rw [hp];refine ⟨by simp, fun V hV q hA => ?_⟩
  have h1 : V.isName q = true := by
    unfold Env.isName;rw [(con_k hV hA.head.1).1, hA.head.2, hk]; rfl
  refine ⟨h1, ?_⟩;unfold Env.name;rw [h1, if_pos rfl, hA.head.2];exact .inl ⟨_, rfl, tz_mk rfl⟩
theorem nmt_not {V : Env} (hV : Con kd V) {q : Nat} (h : V.isName q = true) {s : List UInt8} (hs : s ∈ fixL) : V.is s q = false := by
  have h1 : (V.tk q).k = 1 := by simpa [Env.isName] using h
  exact not_fix K hV (kind_lt h (by decide)) (by rw [h1]; decide) hs
omit K in
theorem names_at {V : Env} (hV : Con kd V) {p : Nat} {l : List Tr} (h0 : l ≠ []) (hx : ∀ x ∈ l, NP kd x) (hA : At V p (commaP (l.map (prT nt qt)))) (hf : fe V (p + (commaP (l.map (prT nt qt))).length)) (hc : V.is [44] (p + (commaP (l.map (prT nt qt))).length) = false) :
    OkG (List.map tz) (V.names p) l (p + (commaP (l.map (prT nt qt))).length) := by
  unfold Env.names;exact sep_at l _ p h0 (fun x hxl => ⟨(NP.at (nt := nt) (qt := qt) (hx x hxl)).1, fun q hq _ => ((NP.at (hx x hxl)).2 V hV q hq).2⟩) hA hf hc (by omega)
theorem body_at {V : Env} (hV : Con kd V) {n p : Nat} {l : List Tr} {b : Tr} (hl : ∀ x ∈ l, NP kd x) (hb : BP kd nt qt b) (hA : At V p (bodyP ((l ++ [b]).map (prT nt qt)))) (a a' : Int) :
    OkG tz (bodyE V (lev V n) a p) (nd 7 (l ++ [b]) a') (p + (bodyP ((l ++ [b]).map (prT nt qt))).length) := by
  have hp : bodyP ((l ++ [b]).map (prT nt qt)) = ⟨#[40]⟩ :: (commaP (l.map (prT nt qt)) ++ (⟨#[41]⟩ :: (prT nt qt b ++ [⟨#[101, 110, 100]⟩]))) := by
    unfold bodyP; rw [List.map_append, lmc, List.map_nil]; simp
  rw [hp] at hA ⊢;have e : p + (⟨#[40]⟩ :: (commaP (l.map (prT nt qt)) ++ (⟨#[41]⟩ :: (prT nt qt b ++ [⟨#[101, 110, 100]⟩]))) : List ByteArray).length = p + 1 + (commaP (l.map (prT nt qt))).length + 1 + (prT nt qt b).length + 1 := by simp only [llc, lla, List.length_nil]; omega
  rw [e];have hB := hA.tail;have hC := hB.right;unfold bodyE;rw [need_at hA rfl];dsimp only
  have hpar : OkG (List.map tz) (paramsE V (p + 1)) l (p + 1 + (commaP (l.map (prT nt qt))).length) := by
    unfold paramsE;by_cases h0 : l = []
    · subst h0;rw [(show At V (p + 1) (⟨#[41]⟩ :: _) from hB).is, if_pos (by decide)];exact .inl ⟨[], rfl, rfl⟩
    · have h41 : V.is [41] (p + 1) = false := by
        cases l with
        | nil => exact absurd rfl h0
        | cons x m =>
          have hx := NP.at (nt := nt) (qt := qt) (hl x (by simp));rw [lmc] at hB;unfold commaP at hB;exact nmt_not K hV (hx.2 V hV (p + 1) hB.left.left).1 (by decide)
      rw [h41, if_neg fnt];exact names_at hV h0 hl hB.left (fe_of hC (by decide)) (by rw [hC.is]; rfl)
  rcases hpar with ⟨l', e2, z2⟩ | ⟨c, e2⟩
  · rw [e2]; dsimp only;rw [need_at hC rfl]; dsimp only;have hD := hC.tail;have hE := hD.right;rcases hb V hV n _ hD.left (by unfold Env.ends; rw [hE.is]; simp [sEnd]) with ⟨b', e3, z3⟩ | ⟨c, e3⟩
    · rw [e3]; dsimp only;rw [need_at (s := sEnd) hE rfl];exact .inl ⟨_, rfl, tz_nd (by rw [List.map_append, List.map_append, z2, lmc, lmc, z3])⟩
    · rw [e3]; exact .inr ⟨c, rfl⟩
  · rw [e2]; exact .inr ⟨c, rfl⟩
theorem EP.func {l : List Tr} {b : Tr} (hl : ∀ x ∈ l, NP kd x) (hb : BP kd nt qt b) (a : Int) : EP kd nt qt (nd 7 (l ++ [b]) a) := by
  have hp : prT nt qt (nd 7 (l ++ [b]) a) = ⟨#[102, 117, 110, 99, 116, 105, 111, 110]⟩ :: bodyP ((l ++ [b]).map (prT nt qt)) := show [⟨#[102, 117, 110, 99, 116, 105, 111, 110]⟩] ++ bodyP (prTs nt qt (l ++ [b])) = _ by rw [prTs_map]; rfl
  refine ⟨⟨_, _, hp, by decide⟩, ?_, ?_, fun h => ?_, fun h => ?_⟩
  · rw [hp];intro V hV n p hA hf;rw [llc, show p + ((bodyP ((l ++ [b]).map (prT nt qt))).length + 1) = p + 1 + (bodyP ((l ++ [b]).map (prT nt qt))).length by omega];obtain ⟨_, k3, k4⟩ := fix_k K hV hA.head.1 (by rw [hA.head.2]; decide);unfold operandE;dsimp only;rw [k3, if_neg fnt, k4, if_neg fnt, hA.is, if_neg (by decide), hA.is, if_neg (by decide), hA.is, if_neg (by decide), hA.is, if_pos (by decide)];exact body_at K hV hl hb hA.tail _ _
  · rw [hp];intro V hV p hA _;have h1 : V.isName p = false := (fix_k K hV hA.head.1 (by rw [hA.head.2]; decide)).1;rw [h1, Bool.false_and]
  · rcases h with h | h | h <;> exact absurd h (by show ¬ (7 : Int) = _; decide)
  · rcases h with h | h | h <;> exact absurd h (by show ¬ (7 : Int) = _; decide)
end
end Go.Proofs.YtmoiikpjegbokaaGreatDoor
/- What is printed is parsed as it was: statements, blocks. -/
namespace Go.Proofs.YtmoiikpjegbokaaGreatDoor
open List renaming length_append → lla
open List renaming length_cons → llc
open Bool renaming false_ne_true → fnt
open List renaming map_cons → lmc
set_option linter.unusedSectionVars false
def sNo : List (List UInt8) := [sEnd, sElse, sElseif, [59], sReturn]
structure SP (kd : ByteArray → Tk) (nt : Int → Int → ByteArray) (qt : ByteArray → ByteArray) (x : Tr) : Prop where
  ne : x.k ≠ 27 → prT nt qt x ≠ [] ∧ ∀ V, Con kd V → ∀ p, At V p (prT nt qt x) → ∀ s ∈ sNo, V.is s p = false
  st : x.k ≠ 27 → ∀ V, Con kd V → ∀ n p, At V p (prT nt qt x) → At V (p + (prT nt qt x).length) [⟨#[59]⟩] → OkG tz (statementS V (lev V n) p) x (p + (prT nt qt x).length)
  ret : x.k = 27 → ∃ r, prT nt qt x = ⟨#[114, 101, 116, 117, 114, 110]⟩ :: r ∧ ∀ V, Con kd V → ∀ n p, At V p (prT nt qt x) → At V (p + (prT nt qt x).length) [⟨#[59]⟩] → OkG tz (returnedS V (lev V n) p) x (p + (prT nt qt x).length + 1)
section
variable {kd : ByteArray → Tk} {nt : Int → Int → ByteArray} {qt : ByteArray → ByteArray} {P : Int → Int → Prop} (K : KdOK kd nt qt P)
theorem not_ends {V : Env} {p : Nat} (hp : p < V.L.length) (h : ∀ s ∈ sNo, V.is s p = false) : V.ends p = false := by
  unfold Env.ends Env.ended;rw [h sEnd (by decide), h sElse (by decide), h sElseif (by decide)];simp; omega
theorem semi_step {V : Env} {G : Lev} {f p : Nat} (h : At V p [⟨#[59]⟩]) : stmts V G (f + 1) p = stmts V G f (p + 1) := by
  have he : V.ends p = false := by
    unfold Env.ends Env.ended;rw [h.is, h.is, h.is];have := h.head.1;simp only [Bool.or_eq_false_iff, decide_eq_false_iff_not];exact ⟨⟨⟨by omega, by decide⟩, by decide⟩, by decide⟩
  show (if V.ends p then _ else _) = _;rw [he, if_neg fnt, h.is, if_pos (by decide)]
def semis (nt : Int → Int → ByteArray) (qt : ByteArray → ByteArray) (l : List Tr) : List ByteArray := (l.map (fun y => prT nt qt y ++ [⟨#[59]⟩])).flatten
theorem semis_cons (x : Tr) (l : List Tr) : semis nt qt (x :: l) = prT nt qt x ++ (⟨#[59]⟩ :: semis nt qt l) := by simp [semis]
theorem stmts_at {V : Env} (hV : Con kd V) {n : Nat} : ∀ (l : List Tr) (fuel p : Nat), (∀ x ∈ l, SP kd nt qt x) → (∀ x ∈ l.dropLast, x.k ≠ 27) → At V p (semis nt qt l) → V.ends (p + (semis nt qt l).length) = true → V.L.length < p + fuel → OkG (List.map tz) (stmts V (lev V n) fuel p) l (p + (semis nt qt l).length)
  | [], fuel, p, hx, hd, hA, he, hn => by
    cases fuel with
    | zero => exact .inl ⟨[], rfl, rfl⟩
    | succ fuel =>
      have he' : V.ends p = true := he;unfold stmts; rw [he', if_pos rfl]; exact .inl ⟨[], rfl, rfl⟩
  | x :: l, fuel, p, hx, hd, hA, he, hn => by
    have el : p + (semis nt qt (x :: l)).length = p + (prT nt qt x).length + 1 + (semis nt qt l).length := by rw [semis_cons, lla, llc]; omega
    rw [el] at he ⊢;rw [semis_cons] at hA;have hS := hx x (by simp);have h59 : At V (p + (prT nt qt x).length) [⟨#[59]⟩] := (At.left (a := [⟨#[59]⟩]) (b := semis nt qt l) hA.right);cases fuel with
    | zero => have := h59.head.1; omega
    | succ fuel =>
      by_cases hk : x.k = 27
      · have hl : l = [] := by
          cases l with
          | nil => rfl
          | cons y l => exact absurd hk (hd x (by simp))
        subst hl;obtain ⟨r, e, hr⟩ := hS.ret hk;have hA1 := hA.left;have hA0 : At V p (⟨#[114, 101, 116, 117, 114, 110]⟩ :: r) := by rw [← e]; exact hA1
        have hne := not_ends (V := V) (p := p) hA0.head.1
        have he1 : V.ends p = false := by
          unfold Env.ends Env.ended;rw [hA0.is, hA0.is, hA0.is];have := hA0.head.1;simp only [Bool.or_eq_false_iff, decide_eq_false_iff_not];exact ⟨⟨⟨by omega, by decide⟩, by decide⟩, by decide⟩
        unfold stmts;rw [he1, if_neg fnt, hA0.is, if_neg (by decide), hA0.is, if_pos (by decide)];rcases hr V hV n p hA1 h59 with ⟨x', e2, z⟩ | ⟨b, e2⟩
        · rw [e2]; exact .inl ⟨[x'], rfl, by simp only [lmc, List.map_nil, z]⟩
        · rw [e2]; exact .inr ⟨b, rfl⟩
      · obtain ⟨h0, hno⟩ := hS.ne hk;have hno := hno V hV p hA.left;have hlt := hA.left.lt h0;have hl0 : 0 < (prT nt qt x).length := List.length_pos_iff.2 h0;unfold stmts;rw [not_ends (by omega) hno, if_neg fnt, hno [59] (by decide), if_neg fnt, hno sReturn (by decide), if_neg fnt];rcases hS.st hk V hV n p hA.left h59 with ⟨x', e2, z⟩ | ⟨b, e2⟩
        · rw [e2]; dsimp only;cases fuel with
          | zero => omega
          | succ fuel =>
            rw [semi_step h59]
            rcases stmts_at hV (n := n) l fuel _ (fun u hu => hx u (List.mem_cons_of_mem _ hu)) (fun u hu => hd u (by
              cases l with
              | nil => simp at hu
              | cons y l => exact List.mem_cons_of_mem _ hu)) hA.right.tail he (by omega) with ⟨l', e3, z3⟩ | ⟨b, e3⟩
            · rw [e3]; exact .inl ⟨x' :: l', rfl, by rw [lmc, lmc, z, z3]⟩
            · rw [e3]; exact .inr ⟨b, rfl⟩
        · rw [e2]; exact .inr ⟨b, rfl⟩
theorem BP.block {l : List Tr} (hl : ∀ x ∈ l, SP kd nt qt x) (hd : ∀ x ∈ l.dropLast, x.k ≠ 27) (a : Int) : BP kd nt qt (nd 20 l a) := by
  have hp : prT nt qt (nd 20 l a) = semis nt qt l := show ((prTs nt qt l).map (fun y => y ++ [⟨#[59]⟩])).flatten = _ by rw [prTs_map, List.map_map]; rfl
  intro V hV n p;rw [hp];intro hA he;cases n with
  | zero => exact .inr ⟨_, rfl⟩
  | succ n =>
    show OkG tz (blockE V (lev V n) p) _ _;unfold blockE;rcases stmts_at hV (n := n) l (V.L.length + 1) p hl hd hA he (by omega) with ⟨l', e, z⟩ | ⟨b, e⟩
    · rw [e]; exact .inl ⟨_, rfl, tz_nd z⟩
    · rw [e]; exact .inr ⟨b, rfl⟩
theorem do_at {V : Env} (hV : Con kd V) {n p : Nat} {b : Tr} (hb : BP kd nt qt b) {r : List ByteArray} (hA : At V p (⟨#[100, 111]⟩ :: (prT nt qt b ++ (⟨#[101, 110, 100]⟩ :: r)))) : OkG tz (doS V (lev V n) p) b (p + 1 + (prT nt qt b).length + 1) := by
  have hE := hA.tail.right;unfold doS;rw [need_at (s := sDo) hA rfl];dsimp only;rcases hb V hV n _ hA.tail.left (by unfold Env.ends; rw [hE.is]; simp [sEnd]) with ⟨b', e, z⟩ | ⟨c, e⟩
  · rw [e]; dsimp only;rw [need_at (s := sEnd) hE rfl];exact .inl ⟨b', rfl, z⟩
  · rw [e]; exact .inr ⟨c, rfl⟩
theorem SP.word {x : Tr} {t : ByteArray} {r : List ByteArray} (hp : prT nt qt x = t :: r) (hk : x.k ≠ 27) (ht : ∀ s ∈ sNo, (t.data.toList == s) = false) (hs : ∀ V, Con kd V → ∀ n p, At V p (t :: r) → At V (p + (t :: r).length) [⟨#[59]⟩] → OkG tz (statementS V (lev V n) p) x (p + (t :: r).length)) : SP kd nt qt x := by
  refine ⟨fun _ => ?_, fun _ => ?_, fun h => absurd h hk⟩
  · rw [hp];exact ⟨by simp, fun V hV p hA s h => by rw [hA.is]; exact ht s h⟩
  · rw [hp]; exact hs
theorem SP.brk (a : Int) : SP kd nt qt (nd 28 [] a) := by
  refine SP.word (t := ⟨#[98, 114, 101, 97, 107]⟩) (r := []) rfl (show (28 : Int) ≠ 27 by decide) (by decide) (fun V hV n p hA h59 => ?_);unfold statementS;rw [hA.is, if_neg (by decide), hA.is, if_neg (by decide), hA.is, if_neg (by decide), hA.is, if_neg (by decide), hA.is, if_neg (by decide), hA.is, if_neg (by decide), hA.is, if_pos (by decide)];exact .inl ⟨_, rfl, tz_nd rfl⟩
theorem SP.group {b : Tr} (hb : BP kd nt qt b) (a : Int) : SP kd nt qt (nd 30 [b] a) := by
  refine SP.word (t := ⟨#[100, 111]⟩) (r := prT nt qt b ++ [⟨#[101, 110, 100]⟩]) (show doP (prT nt qt b) = _ by simp [doP]) (show (30 : Int) ≠ 27 by decide) (by decide) (fun V hV n p hA h59 => ?_);rw [show p + (⟨#[100, 111]⟩ :: (prT nt qt b ++ [⟨#[101, 110, 100]⟩]) : List ByteArray).length = p + 1 + (prT nt qt b).length + 1 by simp only [llc, lla, List.length_nil]; omega];unfold statementS;rw [hA.is, if_neg (by decide), hA.is, if_neg (by decide), hA.is, if_neg (by decide), hA.is, if_neg (by decide), hA.is, if_neg (by decide), hA.is, if_pos (by decide)];rcases do_at hV (n := n) hb hA with ⟨b', e, z⟩ | ⟨c, e⟩
  · rw [e]; exact .inl ⟨_, rfl, tz_nd (by simp only [lmc, List.map_nil, z])⟩
  · rw [e]; exact .inr ⟨c, rfl⟩
theorem SP.loop {x b : Tr} (hx : EP kd nt qt x) (hb : BP kd nt qt b) (a : Int) : SP kd nt qt (nd 25 [x, b] a) := by
  refine SP.word (t := ⟨#[119, 104, 105, 108, 101]⟩) (r := prT nt qt x ++ (⟨#[100, 111]⟩ :: (prT nt qt b ++ [⟨#[101, 110, 100]⟩]))) (show [⟨#[119, 104, 105, 108, 101]⟩] ++ prT nt qt x ++ doP (prT nt qt b) = _ by simp [doP]) (show (25 : Int) ≠ 27 by decide) (by decide) (fun V hV n p hA h59 => ?_);rw [show p + (⟨#[119, 104, 105, 108, 101]⟩ :: (prT nt qt x ++ (⟨#[100, 111]⟩ :: (prT nt qt b ++ [⟨#[101, 110, 100]⟩]))) : List ByteArray).length = p + 1 + (prT nt qt x).length + 1 + (prT nt qt b).length + 1 by simp only [llc, lla, List.length_nil]; omega];have hB := hA.tail.right;unfold statementS;rw [hA.is, if_neg (by decide), hA.is, if_neg (by decide), hA.is, if_neg (by decide), hA.is, if_pos (by decide)];unfold whileS;rcases hx.above hV n 0 _ hA.tail.left (fe_of hB (by decide)) with ⟨x', e, z⟩ | ⟨c, e⟩
  · rw [e]; dsimp only;rcases do_at hV (n := n) hb hB with ⟨b', e2, z2⟩ | ⟨c, e2⟩
    · rw [e2]; exact .inl ⟨_, rfl, tz_nd (by simp only [lmc, List.map_nil, z, z2])⟩
    · rw [e2]; exact .inr ⟨c, rfl⟩
  · rw [e]; exact .inr ⟨c, rfl⟩
theorem SP.ret' {l : List Tr} (hl : ∀ x ∈ l, EP kd nt qt x) (a : Int) : SP kd nt qt (nd 27 l a) := by
  have hp : prT nt qt (nd 27 l a) = ⟨#[114, 101, 116, 117, 114, 110]⟩ :: commaP (l.map (prT nt qt)) := show [⟨#[114, 101, 116, 117, 114, 110]⟩] ++ commaP (prTs nt qt l) = _ by rw [prTs_map]; rfl
  have hk : (nd 27 l a).k = 27 := rfl;refine ⟨fun h => absurd hk h, fun h => absurd hk h, fun _ => ⟨_, hp, ?_⟩⟩;rw [hp];intro V hV n p hA h59;rw [llc, show p + ((commaP (l.map (prT nt qt))).length + 1) = p + 1 + (commaP (l.map (prT nt qt))).length by omega] at h59 ⊢
  have hv : OkG (List.map tz) (valuesS V (lev V n) (p + 1)) l (p + 1 + (commaP (l.map (prT nt qt))).length) := by
    unfold valuesS;by_cases h0 : l = []
    · subst h0
      have h1 : V.is [59] (p + 1) = true := by
        have : At V (p + 1) [⟨#[59]⟩] := h59;rw [this.is]; rfl
      rw [h1];exact .inl ⟨[], rfl, rfl⟩
    · have hn : ∀ s ∈ stopL, V.is s (p + 1) = false := fun s hs => list_not h0 hl (r := []) (by rw [List.append_nil]; exact hA.tail) hs
      have hlt := hA.tail.lt (by
        cases l with
        | nil => exact absurd rfl h0
        | cons x l =>
          rw [lmc]; unfold commaP;intro e;exact (hl x (by simp)).ne (List.append_eq_nil_iff.1 e).1)
      have he : V.ends (p + 1) = false := by
        unfold Env.ends Env.ended;rw [hn sEnd (by decide), hn sElse (by decide), hn sElseif (by decide)];have := h59.head.1;simp; omega
      rw [hn [59] (by decide), he, if_pos (by decide)];exact list_at hV h0 hl hA.tail (fe_of h59 (by decide)) (by rw [h59.is]; rfl)
  unfold returnedS;rcases hv with ⟨l', e, z⟩ | ⟨c, e⟩
  · rw [e]; dsimp only;rw [h59.is, if_pos (by decide)];exact .inl ⟨_, rfl, tz_nd z⟩
  · rw [e]; exact .inr ⟨c, rfl⟩
end
end Go.Proofs.YtmoiikpjegbokaaGreatDoor
/- What is printed is parsed as it was: the other statements; whole sources. -/
namespace Go.Proofs.YtmoiikpjegbokaaGreatDoor
open List renaming length_append → lla
open List renaming length_cons → llc
open Bool renaming false_ne_true → fnt
open List renaming map_cons → lmc
set_option linter.unusedSectionVars false
theorem ok_deep (V : Env) : (lev V 0).ok = false := rfl
section
variable {kd : ByteArray → Tk} {nt : Int → Int → ByteArray} {qt : ByteArray → ByteArray} {P : Int → Int → Prop} (K : KdOK kd nt qt P)
theorem named_at {V : Env} (hV : Con kd V) {n p : Nat} {l : List Tr} {b nm : Tr} (K : KdOK kd nt qt P) (hl : ∀ x ∈ l, NP kd x) (hb : BP kd nt qt b) (hn : NP kd nm) (c : Int)
    (hA : At V p (⟨#[102, 117, 110, 99, 116, 105, 111, 110]⟩ :: (prT nt qt nm ++ bodyP ((l ++ [b]).map (prT nt qt))))) : OkG tzp (namedS V (lev V n) p) (nm, nd 7 (l ++ [b]) c) (p + 1 + (prT nt qt nm).length + (bodyP ((l ++ [b]).map (prT nt qt))).length) := by
  unfold namedS;cases n with
  | zero => rw [ok_deep, if_neg fnt]; exact .inr ⟨_, rfl⟩
  | succ n =>
    rw [show (lev V (n + 1)).ok = true from rfl, if_pos rfl, need_at (s := sFunction) hA rfl];dsimp only;rcases ((NP.at (nt := nt) (qt := qt) hn).2 V hV (p + 1) hA.tail.left).2 with ⟨n', e, z⟩ | ⟨d, e⟩
    · rw [e]; dsimp only;have hb := body_at K hV (n := n) hl hb hA.tail.right (V.at p) c;rcases hb with ⟨f', e2, z2⟩ | ⟨d, e2⟩
      · rw [show (lev V (n + 1)).body (V.at p) (p + 1 + (prT nt qt nm).length) = .ok (f', p + 1 + (prT nt qt nm).length + (bodyP ((l ++ [b]).map (prT nt qt))).length) from e2];exact .inl ⟨(n', f'), rfl, by simp only [tzp, z, z2]⟩
      · rw [show (lev V (n + 1)).body (V.at p) (p + 1 + (prT nt qt nm).length) = .error (d, 14) from e2];exact .inr ⟨d, rfl⟩
    · rw [e]; exact .inr ⟨d, rfl⟩
theorem SP.localf (K : KdOK kd nt qt P) {l : List Tr} {b nm : Tr} (hl : ∀ x ∈ l, NP kd x) (hb : BP kd nt qt b) (hn : NP kd nm) (a c : Int) : SP kd nt qt (nd 29 [nm, nd 7 (l ++ [b]) c] a) := by
  have hp : prT nt qt (nd 29 [nm, nd 7 (l ++ [b]) c] a) = ⟨#[108, 111, 99, 97, 108]⟩ :: ⟨#[102, 117, 110, 99, 116, 105, 111, 110]⟩ :: (prT nt qt nm ++ bodyP ((l ++ [b]).map (prT nt qt))) := by
    show [(⟨#[108, 111, 99, 97, 108]⟩ : ByteArray), ⟨#[102, 117, 110, 99, 116, 105, 111, 110]⟩] ++ prT nt qt nm ++ ([(⟨#[102, 117, 110, 99, 116, 105, 111, 110]⟩ : ByteArray)] ++ bodyP (prTs nt qt (l ++ [b]))).drop 1 = _;rw [prTs_map]; simp
  refine SP.word hp (show (29 : Int) ≠ 27 by decide) (by decide) (fun V hV n p hA h59 => ?_);simp only [llc, lla];rw [show p + ((prT nt qt nm).length + (bodyP ((l ++ [b]).map (prT nt qt))).length + 1 + 1) = p + 1 + 1 + (prT nt qt nm).length + (bodyP ((l ++ [b]).map (prT nt qt))).length by omega];unfold statementS;rw [hA.is, if_pos (by decide)];unfold localS;rw [hA.tail.is, if_pos (by decide)];rcases named_at hV (n := n) K hl hb hn c hA.tail with ⟨⟨n', f'⟩, e, z⟩ | ⟨d, e⟩
  · rw [e];simp only [tzp, Prod.mk.injEq] at z;exact .inl ⟨_, rfl, tz_nd (by simp only [lmc, List.map_nil, z.1, z.2])⟩
  · rw [e]; exact .inr ⟨d, rfl⟩
theorem prTs_app (l m : List Tr) : prTs nt qt (l ++ m) = l.map (prT nt qt) ++ m.map (prT nt qt) := by rw [prTs_map, List.map_append]
theorem SP.locals (K : KdOK kd nt qt P) {l m : List Tr} (h0 : l ≠ []) (hl : ∀ x ∈ l, NP kd x) (hm : ∀ x ∈ m, EP kd nt qt x) (a : Int) : SP kd nt qt (.mk 21 ⟨#[]⟩ 0 0 l.length (l ++ m) a) := by
  have hp : prT nt qt (.mk 21 ⟨#[]⟩ 0 0 l.length (l ++ m) a) = ⟨#[108, 111, 99, 97, 108]⟩ :: (commaP (l.map (prT nt qt)) ++ (if m = [] then [] else ⟨#[61]⟩ :: commaP (m.map (prT nt qt)))) := by
    show [(⟨#[108, 111, 99, 97, 108]⟩ : ByteArray)] ++ commaP ((prTs nt qt (l ++ m)).take (l.length : Int).toNat) ++ (if (l.length : Int).toNat < (prTs nt qt (l ++ m)).length then [⟨#[61]⟩] ++ commaP ((prTs nt qt (l ++ m)).drop (l.length : Int).toNat) else []) = _;rw [prTs_app, Int.toNat_natCast, List.take_left' (by simp), List.drop_left' (by simp), lla, List.length_map, List.length_map];cases m with
    | nil => simp
    | cons y m => rw [if_pos (by simp), if_neg (by simp)]; simp
  refine SP.word hp (show (21 : Int) ≠ 27 by decide) (by decide) (fun V hV n p hA h59 => ?_);have hB := hA.tail;have hnm : ∀ x ∈ l, prT nt qt x ≠ [] := fun x hx => (NP.at (nt := nt) (qt := qt) (hl x hx)).1
  have hfn : V.is sFunction (p + 1) = false := by
    cases l with
    | nil => exact absurd rfl h0
    | cons x l =>
      rw [lmc] at hB;unfold commaP at hB;exact nmt_not K hV ((NP.at (nt := nt) (qt := qt) (hl x (by simp))).2 V hV (p + 1) hB.left.left).1 (by decide)
  unfold statementS;rw [hA.is, if_pos (by decide)];unfold localS;rw [hfn, if_neg fnt];by_cases hm0 : m = []
  · subst hm0;rw [if_pos rfl, List.append_nil] at hB h59;rw [if_pos rfl, List.append_nil, List.append_nil];rw [llc, show p + ((commaP (l.map (prT nt qt))).length + 1) = p + 1 + (commaP (l.map (prT nt qt))).length by omega] at h59 ⊢;rcases names_at hV h0 hl hB (fe_of h59 (by decide)) (by rw [h59.is]; rfl) with ⟨l', e, z⟩ | ⟨d, e⟩
    · rw [e]; dsimp only;rw [h59.is, if_neg (by decide)];refine .inl ⟨_, rfl, ?_⟩;have hlen : l'.length = l.length := len_eq z;rw [hlen];exact tz_mk z
    · rw [e]; exact .inr ⟨d, rfl⟩
  · rw [if_neg hm0] at hB h59 ⊢;have e0 : p + (⟨#[108, 111, 99, 97, 108]⟩ :: (commaP (l.map (prT nt qt)) ++ (⟨#[61]⟩ :: commaP (m.map (prT nt qt)))) : List ByteArray).length = p + 1 + (commaP (l.map (prT nt qt))).length + 1 + (commaP (m.map (prT nt qt))).length := by simp only [llc, lla]; omega
    rw [e0] at h59 ⊢;have hC := hB.right;rcases names_at hV h0 hl hB.left (fe_of hC (by decide)) (by rw [hC.is]; rfl) with ⟨l', e, z⟩ | ⟨d, e⟩
    · rw [e]; dsimp only;rw [hC.is, if_pos (by decide)];rcases list_at hV (n := n) hm0 hm hC.tail (fe_of h59 (by decide)) (by rw [h59.is]; rfl) with ⟨m', e2, z2⟩ | ⟨d, e2⟩
      · rw [e2];refine .inl ⟨_, rfl, ?_⟩;have hlen : l'.length = l.length := len_eq z;rw [hlen];exact tz_mk (by rw [List.map_append, List.map_append, z, z2])
      · rw [e2]; exact .inr ⟨d, rfl⟩
    · rw [e]; exact .inr ⟨d, rfl⟩
theorem suff_at {x : Tr} (h : EP kd nt qt x) (hk : x.k = 6 ∨ x.k = 10 ∨ x.k = 11) {V : Env} (hV : Con kd V) (n p : Nat) (hA : At V p (prT nt qt x)) (hf : fo V (p + (prT nt qt x).length)) : OkG tzb ((lev V n).suff p) (x, false) (p + (prT nt qt x).length) := by
  cases n with
  | zero => exact .inr ⟨_, rfl⟩
  | succ n =>
    show OkG tzb (suffE V (lev V n) p) _ _;rcases h.head hk V hV n p hA with ⟨a, e⟩ | ⟨x', f, z, _, e⟩
    · rw [e]; exact .inr ⟨a, rfl⟩
    · rw [e, sufs_stop hf]; exact .inl ⟨(x', false), rfl, by simp only [tzb, z]⟩
def tgts (nt : Int → Int → ByteArray) (qt : ByteArray → ByteArray) (l : List Tr) : List ByteArray := (l.map (fun y => ⟨#[44]⟩ :: prT nt qt y)).flatten
theorem comma_tgts (x : Tr) (l : List Tr) : commaP ((x :: l).map (prT nt qt)) = prT nt qt x ++ tgts nt qt l := by
  rw [lmc];show prT nt qt x ++ ((l.map (prT nt qt)).map (fun y => (⟨#[44]⟩ : ByteArray) :: y)).flatten = _;rw [List.map_map]; rfl
theorem tgts_cons (x : Tr) (l : List Tr) : tgts nt qt (x :: l) = ⟨#[44]⟩ :: (prT nt qt x ++ tgts nt qt l) := by simp [tgts]
theorem fo_tgts {V : Env} {q : Nat} {l : List Tr} {r : List ByteArray} (hA : At V q (tgts nt qt l ++ (⟨#[61]⟩ :: r))) : fo V q := by
  cases l with
  | nil => exact (fe_of (t := ⟨#[61]⟩) (r := r) hA (by decide)).1
  | cons y l =>
    rw [tgts_cons, List.cons_append] at hA;exact (fe_of hA (by decide)).1
theorem isT {x x' : Tr} (z : tz x' = tz x) (hk : x.k = 6 ∨ x.k = 10) : isTarget x' false = true := by
  have := tz_eqk z;unfold isTarget;rw [this];rcases hk with h | h <;> rw [h] <;> rfl
theorem targets_at {V : Env} (hV : Con kd V) {n : Nat} : ∀ (l : List Tr) (fuel p : Nat) (r : List ByteArray), (∀ x ∈ l, EP kd nt qt x ∧ (x.k = 6 ∨ x.k = 10)) → At V p (tgts nt qt l ++ (⟨#[61]⟩ :: r)) → V.L.length < p + fuel → OkG (List.map tz) (targets V (lev V n) fuel p) l (p + (tgts nt qt l).length)
  | [], fuel, p, r, hx, hA, hn => by
    have hA' : At V p (⟨#[61]⟩ :: r) := hA;cases fuel with
    | zero => exact .inl ⟨[], rfl, rfl⟩
    | succ fuel => unfold targets; rw [hA'.is, if_neg (by decide)]; exact .inl ⟨[], rfl, rfl⟩
  | x :: l, fuel, p, r, hx, hA, hn => by
    have el : p + (tgts nt qt (x :: l)).length = p + 1 + (prT nt qt x).length + (tgts nt qt l).length := by rw [tgts_cons, llc, lla]; omega
    rw [el];rw [tgts_cons, List.cons_append, List.append_assoc] at hA;have hp := hA.head.1;cases fuel with
    | zero => omega
    | succ fuel =>
      unfold targets;rw [hA.is, if_pos (by decide)];obtain ⟨h1, h2⟩ := hx x (by simp);rcases suff_at h1 (h2.imp id .inl) hV n (p + 1) hA.tail.left (fo_tgts hA.tail.right) with ⟨⟨x', g⟩, e, z⟩ | ⟨b, e⟩
      · rw [e];simp only [tzb, Prod.mk.injEq] at z;obtain ⟨z, rfl⟩ := z;dsimp only;rw [isT z h2, if_pos rfl];rcases targets_at hV (n := n) l fuel _ r (fun u hu => hx u (List.mem_cons_of_mem _ hu)) hA.tail.right (by omega) with ⟨l', e2, z2⟩ | ⟨b, e2⟩
        · rw [e2]; exact .inl ⟨x' :: l', rfl, by rw [lmc, lmc, z, z2]⟩
        · rw [e2]; exact .inr ⟨b, rfl⟩
      · rw [e]; exact .inr ⟨b, rfl⟩
include K
theorem stat_coa {V : Env} (hV : Con kd V) {p : Nat} (hp : p < V.L.length) (hk : (V.isName p || V.is [40] p) = true) : (∀ s ∈ sNo, V.is s p = false) ∧ ∀ G, statementS V G p = callOrAssignS V G p := by
  have kf : ∀ s ∈ fixL, s ≠ [40] → V.is s p = false := by
    rw [Bool.or_eq_true] at hk;rcases hk with hk | hk
    · exact fun s hs _ => nmt_not K hV hk hs
    · have e : (V.tk p).t.data.toList = [40] := by simpa [Env.is] using hk
      intro s hs hne;unfold Env.is;rw [e];exact beq_eq_false_iff_ne.2 (Ne.symm hne)
  refine ⟨fun s hs => ?_, fun G => ?_⟩
  · have : ∀ s ∈ sNo, s ∈ fixL ∧ s ≠ [40] := by decide
    exact kf s (this s hs).1 (this s hs).2
  · unfold statementS
    rw [kf sLocal (by decide) (by decide), if_neg fnt, kf sFunction (by decide) (by decide), if_neg fnt, kf sIf (by decide) (by decide), if_neg fnt, kf sWhile (by decide) (by decide), if_neg fnt,
      kf sFor (by decide) (by decide), if_neg fnt, kf sDo (by decide) (by decide), if_neg fnt, kf sBreak (by decide) (by decide), if_neg fnt]
theorem coa_head {V : Env} {p : Nat} (hk : (V.isName p || V.is [40] p) = true) : (!V.isName p && !V.is [40] p) = false := by
  cases h1 : V.isName p with
  | true => rfl
  | false =>
    rw [h1] at hk;cases h2 : V.is [40] p with
    | true => rfl
    | false => rw [h2] at hk; cases hk
theorem SP.assign {x : Tr} {l m : List Tr} (hx : ∀ y ∈ x :: l, EP kd nt qt y ∧ (y.k = 6 ∨ y.k = 10)) (h0 : m ≠ []) (hm : ∀ y ∈ m, EP kd nt qt y) (c : Int) (hc : c = (l.length : Int) + 1) (a : Int) : SP kd nt qt (.mk 22 ⟨#[]⟩ 0 0 c (x :: (l ++ m)) a) := by
  subst hc
  have hp : prT nt qt (.mk 22 ⟨#[]⟩ 0 0 ((l.length : Int) + 1) (x :: (l ++ m)) a) = prT nt qt x ++ (tgts nt qt l ++ (⟨#[61]⟩ :: commaP (m.map (prT nt qt)))) := by
    show commaP ((prTs nt qt (x :: l ++ m)).take ((l.length : Int) + 1).toNat) ++ [⟨#[61]⟩] ++ commaP ((prTs nt qt (x :: l ++ m)).drop ((l.length : Int) + 1).toNat) = _;rw [prTs_app, show ((l.length : Int) + 1).toNat = l.length + 1 by omega, List.take_left' (by simp), List.drop_left' (by simp), comma_tgts];simp
  obtain ⟨hx1, hx2⟩ := hx x (by simp);have hx3 : x.k = 6 ∨ x.k = 10 ∨ x.k = 11 := hx2.imp id .inl;refine ⟨fun _ => ?_, fun _ => ?_, fun h => absurd h (by show ¬ (22 : Int) = 27; decide)⟩
  · rw [hp];refine ⟨fun e => hx1.ne (List.append_eq_nil_iff.1 e).1, fun V hV p hA => ?_⟩;have hA1 := hA.left;have hlt := hA1.lt hx1.ne;have hl0 : 0 < (prT nt qt x).length := List.length_pos_iff.2 hx1.ne;exact (stat_coa K hV (by omega) (hx1.front hx3 V hV p hA1)).1
  · rw [hp];intro V hV n p hA h59;have e0 : p + (prT nt qt x ++ (tgts nt qt l ++ (⟨#[61]⟩ :: commaP (m.map (prT nt qt))))).length = p + (prT nt qt x).length + (tgts nt qt l).length + 1 + (commaP (m.map (prT nt qt))).length := by simp only [lla, llc]; omega
    rw [e0] at h59 ⊢;have hA1 := hA.left;have hlt := hA1.lt hx1.ne;have hl0 : 0 < (prT nt qt x).length := List.length_pos_iff.2 hx1.ne;have hfr := hx1.front hx3 V hV p hA1;rw [(stat_coa K hV (by omega) hfr).2];unfold callOrAssignS;rw [coa_head K hfr, if_neg fnt];rcases suff_at hx1 hx3 hV n p hA1 (fo_tgts hA.right) with ⟨⟨x', g⟩, e, z⟩ | ⟨b, e⟩
    · rw [e];simp only [tzb, Prod.mk.injEq] at z;obtain ⟨z, rfl⟩ := z;dsimp only;have hk := tz_eqk z;rw [show (x'.k == 11 && !false) = false by rw [hk]; rcases hx2 with h | h <;> rw [h] <;> rfl, if_neg fnt, isT z hx2, if_pos rfl];rcases targets_at hV (n := n) l (V.L.length + 1) _ _ (fun u hu => hx u (List.mem_cons_of_mem _ hu)) hA.right (by omega) with ⟨l', e2, z2⟩ | ⟨b, e2⟩
      · rw [e2]; dsimp only;have hE := hA.right.right;rw [need_at (s := [61]) hE rfl]; dsimp only;rcases list_at hV (n := n) h0 hm hE.tail (fe_of h59 (by decide)) (by rw [h59.is]; rfl) with ⟨m', e3, z3⟩ | ⟨b, e3⟩
        · rw [e3];refine .inl ⟨_, rfl, ?_⟩;rw [len_eq z2];exact tz_mk (by rw [lmc, lmc, List.map_append, List.map_append, z, z2, z3])
        · rw [e3]; exact .inr ⟨b, rfl⟩
      · rw [e2]; exact .inr ⟨b, rfl⟩
    · rw [e]; exact .inr ⟨b, rfl⟩
theorem SP.callS {x : Tr} (hx : EP kd nt qt x) (hk : x.k = 11) (a : Int) : SP kd nt qt (nd 23 [x] a) := by
  have hp : prT nt qt (nd 23 [x] a) = prT nt qt x := rfl;have hx3 : x.k = 6 ∨ x.k = 10 ∨ x.k = 11 := .inr (.inr hk);have hl0 : 0 < (prT nt qt x).length := List.length_pos_iff.2 hx.ne;refine ⟨fun _ => ?_, fun _ => ?_, fun h => absurd h (by show ¬ (23 : Int) = 27; decide)⟩
  · rw [hp];refine ⟨hx.ne, fun V hV p hA => ?_⟩;have hlt := hA.lt hx.ne;exact (stat_coa K hV (by omega) (hx.front hx3 V hV p hA)).1
  · rw [hp];intro V hV n p hA h59;have hlt := hA.lt hx.ne;have hfr := hx.front hx3 V hV p hA;rw [(stat_coa K hV (by omega) hfr).2];unfold callOrAssignS;rw [coa_head K hfr, if_neg fnt];rcases suff_at hx hx3 hV n p hA (fe_of h59 (by decide)).1 with ⟨⟨x', g⟩, e, z⟩ | ⟨b, e⟩
    · rw [e];simp only [tzb, Prod.mk.injEq] at z;obtain ⟨z, rfl⟩ := z;dsimp only;rw [show (x'.k == 11 && !false) = true by rw [tz_eqk z, hk]; rfl, if_pos rfl];exact .inl ⟨_, rfl, tz_nd (by simp only [lmc, List.map_nil, z])⟩
    · rw [e]; exact .inr ⟨b, rfl⟩
omit K in
def condP (nt : Int → Int → ByteArray) (qt : ByteArray → ByteArray) (word : ByteArray) : List (Tr × Tr) → List ByteArray
  | [] => []
  | x :: r => word :: (prT nt qt x.1 ++ (⟨#[116, 104, 101, 110]⟩ :: (prT nt qt x.2 ++ condP nt qt ⟨#[101, 108, 115, 101, 105, 102]⟩ r)))
omit K in
def elseP (nt : Int → Int → ByteArray) (qt : ByteArray → ByteArray) : List Tr → List ByteArray
  | [] => []
  | b :: _ => ⟨#[101, 108, 115, 101]⟩ :: prT nt qt b
omit K in
theorem chP_eq (word : ByteArray) (m : List Tr) (hm : m = [] ∨ ∃ b, m = [b]) : ∀ l : List (Tr × Tr), chP word ((l.flatMap (fun x => [x.1, x.2]) ++ m).map (prT nt qt)) = condP nt qt word l ++ (elseP nt qt m ++ [⟨#[101, 110, 100]⟩])
  | [] => by
    rcases hm with rfl | ⟨b, rfl⟩
    · rfl
    · simp [chP, condP, elseP]
  | x :: r => by
    have hr := chP_eq ⟨#[101, 108, 115, 101, 105, 102]⟩ m hm r;rw [List.flatMap_cons];simp only [List.cons_append, List.nil_append, lmc, chP, hr, condP, List.append_assoc]
omit K in
theorem cond_ends {V : Env} {q : Nat} {m : List Tr} {l : List (Tr × Tr)} {r : List ByteArray} (hm : m = [] ∨ ∃ b, m = [b]) (hA : At V q (condP nt qt ⟨#[101, 108, 115, 101, 105, 102]⟩ l ++ (elseP nt qt m ++ (⟨#[101, 110, 100]⟩ :: r)))) : V.ends q = true := by
  unfold Env.ends;cases l with
  | cons x l =>
    rw [show V.is sElseif q = true by rw [(show At V q (⟨#[101, 108, 115, 101, 105, 102]⟩ :: _) from hA).is]; rfl]; simp
  | nil =>
    rcases hm with rfl | ⟨b, rfl⟩
    · rw [show V.is sEnd q = true by rw [(show At V q (⟨#[101, 110, 100]⟩ :: _) from hA).is]; rfl]; simp
    · rw [show V.is sElse q = true by rw [(show At V q (⟨#[101, 108, 115, 101]⟩ :: _) from hA).is]; rfl]; simp
omit K in
theorem choices_at {V : Env} (hV : Con kd V) {n : Nat} {m : List Tr} (hm : m = [] ∨ ∃ b, m = [b]) : ∀ (l : List (Tr × Tr)) (word : ByteArray) (fuel p : Nat) (r : List ByteArray), l ≠ [] → (∀ x ∈ l, EP kd nt qt x.1 ∧ BP kd nt qt x.2) → At V p (condP nt qt word l ++ (elseP nt qt m ++ (⟨#[101, 110, 100]⟩ :: r))) → V.L.length < p + fuel →
    OkG (List.map tz) (choices V (lev V n) fuel p) (l.flatMap (fun x => [x.1, x.2])) (p + (condP nt qt word l).length)
  | [], word, fuel, p, r, h0, hx, hA, hn => absurd rfl h0
  | x :: l, word, fuel, p, r, h0, hx, hA, hn => by
    have el : p + (condP nt qt word (x :: l)).length = p + 1 + (prT nt qt x.1).length + 1 + (prT nt qt x.2).length + (condP nt qt ⟨#[101, 108, 115, 101, 105, 102]⟩ l).length := by
      simp only [condP, llc, lla]; omega
    rw [el];simp only [condP, List.cons_append, List.append_assoc] at hA;have hp := hA.head.1;have hB := hA.tail.right;have hC := hB.tail.right;obtain ⟨hx1, hx2⟩ := hx x (by simp);cases fuel with
    | zero => omega
    | succ fuel =>
      unfold choices;rcases hx1.above hV n 0 _ hA.tail.left (fe_of hB (by decide)) with ⟨x', e, z⟩ | ⟨b, e⟩
      · rw [e]; dsimp only;rw [need_at (s := sThen) hB rfl]; dsimp only;rcases hx2 V hV n _ hB.tail.left (cond_ends hm hC) with ⟨b', e2, z2⟩ | ⟨b, e2⟩
        · rw [e2]; dsimp only;cases l with
          | nil =>
            have hi : V.is sElseif (p + 1 + (prT nt qt x.1).length + 1 + (prT nt qt x.2).length) = false := by
              rcases hm with rfl | ⟨b, rfl⟩
              · rw [(show At V _ (⟨#[101, 110, 100]⟩ :: _) from hC).is]; rfl
              · rw [(show At V _ (⟨#[101, 108, 115, 101]⟩ :: _) from hC).is]; rfl
            rw [hi, if_neg fnt];exact .inl ⟨[x', b'], rfl, by simp [z, z2]⟩
          | cons y l =>
            have hi : V.is sElseif (p + 1 + (prT nt qt x.1).length + 1 + (prT nt qt x.2).length) = true := by
              rw [(show At V _ (⟨#[101, 108, 115, 101, 105, 102]⟩ :: _) from hC).is]; rfl
            rw [hi, if_pos rfl];rcases choices_at hV (n := n) hm (y :: l) ⟨#[101, 108, 115, 101, 105, 102]⟩ fuel _ r (by simp) (fun u hu => hx u (List.mem_cons_of_mem _ hu)) hC (by omega) with ⟨l', e3, z3⟩ | ⟨b, e3⟩
            · rw [e3];refine .inl ⟨x' :: b' :: l', rfl, ?_⟩;rw [List.flatMap_cons];simp only [lmc, List.cons_append, List.nil_append, z, z2, z3]
            · rw [e3]; exact .inr ⟨b, rfl⟩
        · rw [e2]; exact .inr ⟨b, rfl⟩
      · rw [e]; exact .inr ⟨b, rfl⟩
omit K in
theorem SP.choice {l : List (Tr × Tr)} {m : List Tr} (h0 : l ≠ []) (hx : ∀ x ∈ l, EP kd nt qt x.1 ∧ BP kd nt qt x.2) (hm : m = [] ∨ ∃ b, BP kd nt qt b ∧ m = [b]) (a : Int) : SP kd nt qt (nd 24 (l.flatMap (fun x => [x.1, x.2]) ++ m) a) := by
  have hm' : m = [] ∨ ∃ b, m = [b] := hm.imp id (fun ⟨b, _, e⟩ => ⟨b, e⟩)
  have hp : prT nt qt (nd 24 (l.flatMap (fun x => [x.1, x.2]) ++ m) a) = condP nt qt ⟨#[105, 102]⟩ l ++ (elseP nt qt m ++ [⟨#[101, 110, 100]⟩]) := by
    show chP ⟨#[105, 102]⟩ (prTs nt qt (l.flatMap (fun x => [x.1, x.2]) ++ m)) = _;rw [prTs_map, chP_eq _ m hm']
  obtain ⟨u, hu⟩ : ∃ u, condP nt qt ⟨#[105, 102]⟩ l = ⟨#[105, 102]⟩ :: u := by
    cases l with
    | nil => exact absurd rfl h0
    | cons x l => exact ⟨_, rfl⟩
  refine SP.word (t := ⟨#[105, 102]⟩) (r := u ++ (elseP nt qt m ++ [⟨#[101, 110, 100]⟩])) (by rw [hp, hu, List.cons_append]) (show (24 : Int) ≠ 27 by decide) (by decide) (fun V hV n p hA h59 => ?_);have h2 := hA;rw [← List.cons_append, ← hu] at h2 ⊢;have e0 : p + (condP nt qt ⟨#[105, 102]⟩ l ++ (elseP nt qt m ++ [(⟨#[101, 110, 100]⟩ : ByteArray)])).length = p + (condP nt qt ⟨#[105, 102]⟩ l).length + (elseP nt qt m).length + 1 := by simp only [lla, llc, List.length_nil]; omega
  rw [e0];unfold statementS;rw [hA.is, if_neg (by decide), hA.is, if_neg (by decide), hA.is, if_pos (by decide)];unfold choiceS;rcases choices_at hV (n := n) hm' l ⟨#[105, 102]⟩ (V.L.length + 1) p [] h0 hx h2 (by omega) with ⟨l', e, z⟩ | ⟨b, e⟩
  · rw [e]; dsimp only;have hE := h2.right
    have hel : OkG (List.map tz) (elseS V (lev V n) l' (p + (condP nt qt ⟨#[105, 102]⟩ l).length)) (l.flatMap (fun x => [x.1, x.2]) ++ m) (p + (condP nt qt ⟨#[105, 102]⟩ l).length + (elseP nt qt m).length) := by
      unfold elseS;rcases hm with rfl | ⟨b, hb, rfl⟩
      · rw [(show At V _ [(⟨#[101, 110, 100]⟩ : ByteArray)] from hE).is, if_neg (by decide)];exact .inl ⟨l', rfl, by rw [List.append_nil]; exact z⟩
      · have hE1 : At V _ (⟨#[101, 108, 115, 101]⟩ :: (prT nt qt b ++ [⟨#[101, 110, 100]⟩])) := hE;rw [hE1.is, if_pos (by decide)];rw [show (p + (condP nt qt ⟨#[105, 102]⟩ l).length + (elseP nt qt [b]).length) = p + (condP nt qt ⟨#[105, 102]⟩ l).length + 1 + (prT nt qt b).length by simp only [elseP, llc]; omega];rcases hb V hV n _ hE1.tail.left (by unfold Env.ends; rw [hE1.tail.right.is]; simp [sEnd]) with ⟨b', e2, z2⟩ | ⟨c, e2⟩
        · rw [e2]; exact .inl ⟨l' ++ [b'], rfl, by rw [List.map_append, List.map_append, z, lmc, lmc, z2]⟩
        · rw [e2]; exact .inr ⟨c, rfl⟩
    rcases hel with ⟨m', e2, z2⟩ | ⟨b, e2⟩
    · rw [e2]; dsimp only;rw [need_at (s := sEnd) hE.right rfl];exact .inl ⟨_, rfl, tz_nd z2⟩
    · rw [e2]; exact .inr ⟨b, rfl⟩
  · rw [e]; exact .inr ⟨b, rfl⟩
omit K in
theorem SP.count {nm x y b : Tr} {l : List Tr} (hn : NP kd nm) (hx : EP kd nt qt x) (hy : EP kd nt qt y) (hl : l = [] ∨ ∃ z, EP kd nt qt z ∧ l = [z]) (hb : BP kd nt qt b) (a : Int) : SP kd nt qt (nd 26 (nm :: x :: y :: (l ++ [b])) a) := by
  have hp : prT nt qt (nd 26 (nm :: x :: y :: (l ++ [b])) a) = ⟨#[102, 111, 114]⟩ :: (prT nt qt nm ++ (⟨#[61]⟩ :: (prT nt qt x ++ (⟨#[44]⟩ :: (prT nt qt y ++ (tgts nt qt l ++ (⟨#[100, 111]⟩ :: (prT nt qt b ++ [⟨#[101, 110, 100]⟩])))))))) := by
    show [(⟨#[102, 111, 114]⟩ : ByteArray)] ++ (prTs nt qt (nm :: x :: y :: (l ++ [b]))).getD 0 [] ++ [⟨#[61]⟩] ++ commaP ((prTs nt qt (nm :: x :: y :: (l ++ [b]))).drop 1).dropLast ++ doP ((prTs nt qt (nm :: x :: y :: (l ++ [b]))).getLastD []) = _;rw [prTs_map];rcases hl with rfl | ⟨z, _, rfl⟩ <;> simp [commaP, doP, tgts]
  refine SP.word hp (show (26 : Int) ≠ 27 by decide) (by decide) (fun V hV n p hA h59 => ?_)
  have e0 : p + (⟨#[102, 111, 114]⟩ :: (prT nt qt nm ++ (⟨#[61]⟩ :: (prT nt qt x ++ (⟨#[44]⟩ :: (prT nt qt y ++ (tgts nt qt l ++ (⟨#[100, 111]⟩ :: (prT nt qt b ++ [⟨#[101, 110, 100]⟩])))))))) : List ByteArray).length = p + 1 + (prT nt qt nm).length + 1 + (prT nt qt x).length + 1 + (prT nt qt y).length + (tgts nt qt l).length + 1 + (prT nt qt b).length + 1 := by
    simp only [lla, llc, List.length_nil]; omega
  rw [e0];have h1 := hA.tail;have h2 := h1.right;have h3 := h2.tail.right;have h4 := h3.tail.right;have h5 := h4.right;unfold statementS;rw [hA.is, if_neg (by decide), hA.is, if_neg (by decide), hA.is, if_neg (by decide), hA.is, if_neg (by decide), hA.is, if_pos (by decide)];unfold countS;rcases ((NP.at (nt := nt) (qt := qt) hn).2 V hV (p + 1) h1.left).2 with ⟨n', e, z⟩ | ⟨c, e⟩
  · rw [e]; dsimp only;rw [need_at (s := [61]) h2 rfl]; dsimp only;rcases hx.above hV n 0 _ h2.tail.left (fe_of h3 (by decide)) with ⟨x', e2, z2⟩ | ⟨c, e2⟩
    · rw [e2]; dsimp only;rw [need_at (s := [44]) h3 rfl]; dsimp only
      have hfe : fe V (p + 1 + (prT nt qt nm).length + 1 + (prT nt qt x).length + 1 + (prT nt qt y).length) := by
        rcases hl with rfl | ⟨z, _, rfl⟩
        · exact fe_of (show At V _ (⟨#[100, 111]⟩ :: _) from h4) (by decide)
        · rw [tgts_cons] at h4; exact fe_of (show At V _ (⟨#[44]⟩ :: _) from h4) (by decide)
      rcases hy.above hV n 0 _ h3.tail.left hfe with ⟨y', e3, z3⟩ | ⟨c, e3⟩
      · rw [e3]; dsimp only
        have hst : OkG (List.map tz) (stepS V (lev V n) (p + 1 + (prT nt qt nm).length + 1 + (prT nt qt x).length + 1 + (prT nt qt y).length)) l (p + 1 + (prT nt qt nm).length + 1 + (prT nt qt x).length + 1 + (prT nt qt y).length + (tgts nt qt l).length) := by
          unfold stepS;rcases hl with rfl | ⟨w, hw, rfl⟩
          · rw [(show At V (p + 1 + (prT nt qt nm).length + 1 + (prT nt qt x).length + 1 + (prT nt qt y).length) (⟨#[100, 111]⟩ :: (prT nt qt b ++ [⟨#[101, 110, 100]⟩])) from h4).is, if_neg (by decide)];exact .inl ⟨[], rfl, rfl⟩
          · rw [tgts_cons] at h4 ⊢;have h4' : At V (p + 1 + (prT nt qt nm).length + 1 + (prT nt qt x).length + 1 + (prT nt qt y).length) (⟨#[44]⟩ :: (prT nt qt w ++ (⟨#[100, 111]⟩ :: (prT nt qt b ++ [⟨#[101, 110, 100]⟩])))) := by simpa [tgts] using h4
            rw [h4'.is, if_pos (by decide)];rw [show ∀ j, j + (⟨#[44]⟩ :: (prT nt qt w ++ tgts nt qt []) : List ByteArray).length = j + 1 + (prT nt qt w).length from fun j => by simp [tgts]; omega];rcases hw.above hV n 0 _ h4'.tail.left (fe_of h4'.tail.right (by decide)) with ⟨w', e4, z4⟩ | ⟨c, e4⟩
            · rw [e4]; exact .inl ⟨[w'], rfl, by simp only [lmc, List.map_nil, z4]⟩
            · rw [e4]; exact .inr ⟨c, rfl⟩
        rcases hst with ⟨l', e4, z4⟩ | ⟨c, e4⟩
        · rw [e4]; dsimp only;rcases do_at hV (n := n) hb h5 with ⟨b', e5, z5⟩ | ⟨c, e5⟩
          · rw [e5];exact .inl ⟨_, rfl, tz_nd (by simp only [lmc, List.map_append, List.map_nil, z, z2, z3, z4, z5])⟩
          · rw [e5]; exact .inr ⟨c, rfl⟩
        · rw [e4]; exact .inr ⟨c, rfl⟩
      · rw [e3]; exact .inr ⟨c, rfl⟩
    · rw [e2]; exact .inr ⟨c, rfl⟩
  · rw [e]; exact .inr ⟨c, rfl⟩
end
end Go.Proofs.YtmoiikpjegbokaaGreatDoor
/- What is printed of a source's tree is parsed as it was. -/
namespace Go.Proofs.YtmoiikpjegbokaaGreatDoor
open List renaming length_append → lla
open List renaming length_cons → llc
open Bool renaming false_ne_true → fnt
open List renaming map_cons → lmc
set_option linter.unusedSectionVars false
section
variable {kd : ByteArray → Tk} {nt : Int → Int → ByteArray} {qt : ByteArray → ByteArray} {P : Int → Int → Prop} (K : KdOK kd nt qt P)
include K
theorem NP.ep {x : Tr} (h : NP kd x) : EP kd nt qt x := by
  obtain ⟨t, a, rfl, hk⟩ := h;exact EP.name K hk a
theorem pp_clo {V : Env} (hV : Con kd V) (hs : ∀ X ∈ V.L, X.t.size ≤ 8192 ∧ X.sy.size ≤ 8192) (hn : ∀ X ∈ V.L, X.k = 3 → P X.vt X.vn) : Clo V (NP kd) (EP kd nt qt) (IP kd nt qt) (SP kd nt qt) (BP kd nt qt) where
  name := fun X hX hk a => ⟨X.t, a, rfl, by
    obtain ⟨i, hi, rfl⟩ := List.getElem_of_mem hX;have := con_k hV hi;have e : V.tk i = V.L[i] := by unfold Env.tk; rw [List.getD_eq_getElem?_getD, List.getElem?_eq_getElem hi]; rfl
    rw [e] at this;rw [← this.1]; exact hk⟩
  ofN := fun x h => h.ep K
  key := fun X hX hk a => EP.text K (by have := (hs X hX).1; omega) a
  num := fun X hX hk a => EP.num K (hn X hX hk) a
  text := fun X hX hk a => EP.text K (by have := (hs X hX).2; omega) a
  word := fun k a hk => EP.word K hk a
  func := fun l b a h1 _ h3 => EP.func K h1 h3 a
  un := fun t x a h1 h2 => EP.un K h1 h2 a
  bin := fun t x y a h1 h2 h3 => EP.bin K h1 h2 h3 a
  index := fun x y a h1 h2 => EP.index K h1 h2 a
  call := fun x l a h1 h2 _ => EP.call K h1 h2 a
  table := fun l a h1 _ => EP.table K h1 a
  item := fun x a h => IP.item' K h a
  pair := fun x y a h1 h2 => IP.pair K h1 h2 a
  block := fun l a h1 h2 _ => BP.block h1 h2 a
  ret := fun l a h1 _ => SP.ret' h1 a
  locals := fun l m a h0 h1 h2 _ _ => SP.locals K h0 h1 h2 a
  localf := fun l b n a c h1 _ h3 h4 => SP.localf K h1 h3 h4 a c
  func2 := fun l b n a c h1 _ h3 h4 => by
    have hn := h4.ep K;have hk : n.k = 6 := by obtain ⟨t, a, rfl, _⟩ := h4; rfl
    exact SP.assign K (x := n) (l := []) (m := [nd 7 (l ++ [b]) c]) (by simpa using ⟨hn, .inl hk⟩) (by simp) (by simpa using EP.func K h1 h3 c) 1 (by simp) a
  assign := fun n l m a h1 h0 h2 _ _ => SP.assign K h1 h0 h2 _ rfl a
  callS := fun x a h1 h2 => SP.callS K h1 h2 a
  choice := fun l a h0 h1 m hm _ => SP.choice h0 h1 hm a
  loop := fun x b a h1 h2 => SP.loop h1 h2 a
  count := fun n x y l b a h1 h2 h3 h4 h5 => SP.count h1 h2 h3 h4 h5 a
  brk := fun a => SP.brk a
  group := fun b a h => SP.group h a
omit K in
theorem whole_pr {V' : Env} (hV' : Con kd V') {x : Tr} (hb : BP kd nt qt x) (ht : V'.L.map Tk.t = prT nt qt x) : (∃ x', whole V' = .ok x' ∧ tz x' = tz x) ∨ ∃ a, whole V' = .error (a, 14) := by
  have hl : V'.L.length = (prT nt qt x).length := by rw [← ht]; simp
  have hA : At V' 0 (prT nt qt x) := fun i hi => by
    refine ⟨by omega, ?_⟩;have e : V'.tk (0 + i) = V'.L[i]'(by omega) := by unfold Env.tk; rw [Nat.zero_add, List.getD_eq_getElem?_getD, List.getElem?_eq_getElem (by omega)]; rfl
    rw [e];have := congrArg (fun z => z[i]?) ht;simpa [hi, show i < V'.L.length by omega] using this
  have he : V'.ends (0 + (prT nt qt x).length) = true := by
    unfold Env.ends Env.ended;simp [hl]
  unfold whole;rcases hb V' hV' 40 0 hA he with ⟨x', e, z⟩ | ⟨a, e⟩
  · rw [e]; dsimp only;rw [show V'.ended (0 + (prT nt qt x).length) = true by unfold Env.ended; simp [hl], if_pos rfl];exact .inl ⟨x', rfl, z⟩
  · rw [e]; exact .inr ⟨a, rfl⟩
theorem again_whole {V V' : Env} (hV : Con kd V) (hV' : Con kd V') (hs : ∀ X ∈ V.L, X.t.size ≤ 8192 ∧ X.sy.size ≤ 8192) (hn : ∀ X ∈ V.L, X.k = 3 → P X.vt X.vn) {x : Tr} (h : whole V = .ok x) (ht : V'.L.map Tk.t = prT nt qt x) :
    (∃ x', whole V' = .ok x' ∧ tz x' = tz x) ∨ ∃ a, whole V' = .error (a, 14) := whole_pr hV' (whole_c (pp_clo K hV hs hn) h) ht
end
mutual
theorem prT_tz (nt : Int → Int → ByteArray) (qt : ByteArray → ByteArray) : ∀ x : Tr, prT nt qt (tz x) = prT nt qt x
  | .mk k t vt vn c l a => by
    simp only [tz, prT, prTs_tz nt qt l]
    congr 1
    rw [tzs_map, List.map_map];exact List.map_congr_left (fun y _ => tz_k y)
theorem prTs_tz (nt : Int → Int → ByteArray) (qt : ByteArray → ByteArray) : ∀ l : List Tr, prTs nt qt (tzs l) = prTs nt qt l
  | [] => rfl
  | x :: r => by simp only [tzs, prTs, prT_tz nt qt x, prTs_tz nt qt r]
end
theorem prT_alike {nt : Int → Int → ByteArray} {qt : ByteArray → ByteArray} {x y : Tr} (h : tz x = tz y) : prT nt qt x = prT nt qt y := by
  rw [← prT_tz nt qt x, h, prT_tz nt qt y]
end Go.Proofs.YtmoiikpjegbokaaGreatDoor
