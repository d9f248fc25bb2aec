/- Joined: TC TD RG. -/
import Derived.Test.YtgkgpjbbmnfnmaaGreatDoorTB
import Derived.Test.YtgkgpjbbmnfnmaaGreatDoorGA
/- item; binding. -/
namespace Go.Proofs.YtgkgpjbbmnfnmaaGreatDoor
open Go.RowKit
set_option linter.unusedSimpArgs false
set_option linter.unusedVariables false

theorem item_any {w : World} {c : Nat} {V : Env} {p : Nat} {G : Lev} {lv : Nat} (hG : LevIs V G lv) (h : Ps w c V p) :
  Calls Tryz.prog 200 #[.pointer (some ⟨c, 0, none⟩), .int .i64 (lv : Int)] w (PRes c V w (itemE V G p)) := by
 cases hb : V.is [91] p with
 | true =>
  have e : itemE V G p = match itemKeyE V G p with
   | .error e => .error e
   | .ok (k, q) => match V.need [61] q with
    | .error e => .error e
    | .ok (_, r) => match G.above 0 r with
     | .error e => .error e
     | .ok (x, s) => .ok (nd 14 [k, x] (V.at p), s) := by unfold itemE; rw [hb]; rfl
  rw [e]
  exact item_pair hG h (.inl hb)
 | false =>
  by_cases hn : V.isName p = true ∧ V.is [61] (p + 1) = true
  ·have e : itemE V G p = match itemKeyE V G p with
    | .error e => .error e
    | .ok (k, q) => match V.need [61] q with
     | .error e => .error e
     | .ok (_, r) => match G.above 0 r with
      | .error e => .error e
      | .ok (x, s) => .ok (nd 14 [k, x] (V.at p), s) := by unfold itemE; rw [hb, hn.1, hn.2]; rfl
   rw [e]
   exact item_pair hG h (.inr ⟨hb, hn.1, hn.2⟩)
  ·have hn' : V.isName p = false ∨ V.is [61] (p + 1) = false := by
    cases h1 : V.isName p with
    | false => exact .inl rfl
    | true =>
     cases h2 : V.is [61] (p + 1) with
     | false => exact .inr rfl
     | true => exact absurd ⟨h1, h2⟩ hn
   have e : itemE V G p = match G.above 0 p with
    | .error e => .error e
    | .ok (x, q) => .ok (nd 13 [x] (V.at p), q) := by
    unfold itemE
    rw [hb]
    rcases hn' with h1 | h1 <;> rw [h1] <;> simp <;> cases G.above 0 p <;> rfl
   rw [e]
   exact item_val hG h hb hn'

theorem bytes_eq (s : ByteArray) (l : List UInt8) : (s.toList == (⟨l.toArray⟩ : ByteArray).toList) = (s.data.toList == l) := by
 rw [ByteArray.toList_eq, ByteArray.toList_eq]
theorem bytes_eq2 (s : ByteArray) (l : List UInt8) : (s.toList == l) = (s.data.toList == l) := by
 rw [ByteArray.toList_eq]

set_option maxRecDepth 20000 in
set_option maxHeartbeats 8000000 in
theorem binding_any (s : ByteArray) (w : World) : Calls Tryz.prog 198 #[.string s] w fun r w' => r = .returned (.int .i64 (bindOf s.data.toList : Int)) ∧ w' = w := by
 unfold bindOf sOr sAnd
 cases h0 : s.data.toList == [111, 114] with
 | true =>
  have a0 : (s.toList == (⟨#[111, 114]⟩ : ByteArray).toList) = true := by rw [← h0]; exact bytes_eq s [111, 114]
  have b0 : (s.toList == [111, 114]) = true := by rw [← h0]; exact bytes_eq2 s [111, 114]
  simp only [h0, Bool.false_or, Bool.or_false, Bool.true_or, Bool.or_true, if_true, if_false, Bool.false_eq_true, ↓reduceIte]
  go_enter Tryz.func198, Tryz.ntmps198
  go_wp2_with fail
  go_ret
  exact ⟨rfl, rfl⟩
 | false =>
 have a0 : (s.toList == (⟨#[111, 114]⟩ : ByteArray).toList) = false := by rw [← h0]; exact bytes_eq s [111, 114]
 have b0 : (s.toList == [111, 114]) = false := by rw [← h0]; exact bytes_eq2 s [111, 114]
 cases h1 : s.data.toList == [97, 110, 100] with
 | true =>
  have a1 : (s.toList == (⟨#[97, 110, 100]⟩ : ByteArray).toList) = true := by rw [← h1]; exact bytes_eq s [97, 110, 100]
  have b1 : (s.toList == [97, 110, 100]) = true := by rw [← h1]; exact bytes_eq2 s [97, 110, 100]
  simp only [h0, h1, Bool.false_or, Bool.or_false, Bool.true_or, Bool.or_true, if_true, if_false, Bool.false_eq_true, ↓reduceIte]
  go_enter Tryz.func198, Tryz.ntmps198
  go_wp2_with fail
  go_ret
  exact ⟨rfl, rfl⟩
 | false =>
 have a1 : (s.toList == (⟨#[97, 110, 100]⟩ : ByteArray).toList) = false := by rw [← h1]; exact bytes_eq s [97, 110, 100]
 have b1 : (s.toList == [97, 110, 100]) = false := by rw [← h1]; exact bytes_eq2 s [97, 110, 100]
 cases h2 : s.data.toList == [60] with
 | true =>
  have a2 : (s.toList == (⟨#[60]⟩ : ByteArray).toList) = true := by rw [← h2]; exact bytes_eq s [60]
  have b2 : (s.toList == [60]) = true := by rw [← h2]; exact bytes_eq2 s [60]
  simp only [h0, h1, h2, Bool.false_or, Bool.or_false, Bool.true_or, Bool.or_true, if_true, if_false, Bool.false_eq_true, ↓reduceIte]
  go_enter Tryz.func198, Tryz.ntmps198
  go_wp2_with fail
  go_ret
  exact ⟨rfl, rfl⟩
 | false =>
 have a2 : (s.toList == (⟨#[60]⟩ : ByteArray).toList) = false := by rw [← h2]; exact bytes_eq s [60]
 have b2 : (s.toList == [60]) = false := by rw [← h2]; exact bytes_eq2 s [60]
 cases h3 : s.data.toList == [62] with
 | true =>
  have a3 : (s.toList == (⟨#[62]⟩ : ByteArray).toList) = true := by rw [← h3]; exact bytes_eq s [62]
  have b3 : (s.toList == [62]) = true := by rw [← h3]; exact bytes_eq2 s [62]
  simp only [h0, h1, h2, h3, Bool.false_or, Bool.or_false, Bool.true_or, Bool.or_true, if_true, if_false, Bool.false_eq_true, ↓reduceIte]
  go_enter Tryz.func198, Tryz.ntmps198
  go_wp2_with fail
  go_ret
  exact ⟨rfl, rfl⟩
 | false =>
 have a3 : (s.toList == (⟨#[62]⟩ : ByteArray).toList) = false := by rw [← h3]; exact bytes_eq s [62]
 have b3 : (s.toList == [62]) = false := by rw [← h3]; exact bytes_eq2 s [62]
 cases h4 : s.data.toList == [60, 61] with
 | true =>
  have a4 : (s.toList == (⟨#[60, 61]⟩ : ByteArray).toList) = true := by rw [← h4]; exact bytes_eq s [60, 61]
  have b4 : (s.toList == [60, 61]) = true := by rw [← h4]; exact bytes_eq2 s [60, 61]
  simp only [h0, h1, h2, h3, h4, Bool.false_or, Bool.or_false, Bool.true_or, Bool.or_true, if_true, if_false, Bool.false_eq_true, ↓reduceIte]
  go_enter Tryz.func198, Tryz.ntmps198
  go_wp2_with fail
  go_ret
  exact ⟨rfl, rfl⟩
 | false =>
 have a4 : (s.toList == (⟨#[60, 61]⟩ : ByteArray).toList) = false := by rw [← h4]; exact bytes_eq s [60, 61]
 have b4 : (s.toList == [60, 61]) = false := by rw [← h4]; exact bytes_eq2 s [60, 61]
 cases h5 : s.data.toList == [62, 61] with
 | true =>
  have a5 : (s.toList == (⟨#[62, 61]⟩ : ByteArray).toList) = true := by rw [← h5]; exact bytes_eq s [62, 61]
  have b5 : (s.toList == [62, 61]) = true := by rw [← h5]; exact bytes_eq2 s [62, 61]
  simp only [h0, h1, h2, h3, h4, h5, Bool.false_or, Bool.or_false, Bool.true_or, Bool.or_true, if_true, if_false, Bool.false_eq_true, ↓reduceIte]
  go_enter Tryz.func198, Tryz.ntmps198
  go_wp2_with fail
  go_ret
  exact ⟨rfl, rfl⟩
 | false =>
 have a5 : (s.toList == (⟨#[62, 61]⟩ : ByteArray).toList) = false := by rw [← h5]; exact bytes_eq s [62, 61]
 have b5 : (s.toList == [62, 61]) = false := by rw [← h5]; exact bytes_eq2 s [62, 61]
 cases h6 : s.data.toList == [126, 61] with
 | true =>
  have a6 : (s.toList == (⟨#[126, 61]⟩ : ByteArray).toList) = true := by rw [← h6]; exact bytes_eq s [126, 61]
  have b6 : (s.toList == [126, 61]) = true := by rw [← h6]; exact bytes_eq2 s [126, 61]
  simp only [h0, h1, h2, h3, h4, h5, h6, Bool.false_or, Bool.or_false, Bool.true_or, Bool.or_true, if_true, if_false, Bool.false_eq_true, ↓reduceIte]
  go_enter Tryz.func198, Tryz.ntmps198
  go_wp2_with fail
  go_ret
  exact ⟨rfl, rfl⟩
 | false =>
 have a6 : (s.toList == (⟨#[126, 61]⟩ : ByteArray).toList) = false := by rw [← h6]; exact bytes_eq s [126, 61]
 have b6 : (s.toList == [126, 61]) = false := by rw [← h6]; exact bytes_eq2 s [126, 61]
 cases h7 : s.data.toList == [61, 61] with
 | true =>
  have a7 : (s.toList == (⟨#[61, 61]⟩ : ByteArray).toList) = true := by rw [← h7]; exact bytes_eq s [61, 61]
  have b7 : (s.toList == [61, 61]) = true := by rw [← h7]; exact bytes_eq2 s [61, 61]
  simp only [h0, h1, h2, h3, h4, h5, h6, h7, Bool.false_or, Bool.or_false, Bool.true_or, Bool.or_true, if_true, if_false, Bool.false_eq_true, ↓reduceIte]
  go_enter Tryz.func198, Tryz.ntmps198
  go_wp2_with fail
  go_ret
  exact ⟨rfl, rfl⟩
 | false =>
 have a7 : (s.toList == (⟨#[61, 61]⟩ : ByteArray).toList) = false := by rw [← h7]; exact bytes_eq s [61, 61]
 have b7 : (s.toList == [61, 61]) = false := by rw [← h7]; exact bytes_eq2 s [61, 61]
 cases h8 : s.data.toList == [46, 46] with
 | true =>
  have a8 : (s.toList == (⟨#[46, 46]⟩ : ByteArray).toList) = true := by rw [← h8]; exact bytes_eq s [46, 46]
  have b8 : (s.toList == [46, 46]) = true := by rw [← h8]; exact bytes_eq2 s [46, 46]
  simp only [h0, h1, h2, h3, h4, h5, h6, h7, h8, Bool.false_or, Bool.or_false, Bool.true_or, Bool.or_true, if_true, if_false, Bool.false_eq_true, ↓reduceIte]
  go_enter Tryz.func198, Tryz.ntmps198
  go_wp2_with fail
  go_ret
  exact ⟨rfl, rfl⟩
 | false =>
 have a8 : (s.toList == (⟨#[46, 46]⟩ : ByteArray).toList) = false := by rw [← h8]; exact bytes_eq s [46, 46]
 have b8 : (s.toList == [46, 46]) = false := by rw [← h8]; exact bytes_eq2 s [46, 46]
 cases h9 : s.data.toList == [43] with
 | true =>
  have a9 : (s.toList == (⟨#[43]⟩ : ByteArray).toList) = true := by rw [← h9]; exact bytes_eq s [43]
  have b9 : (s.toList == [43]) = true := by rw [← h9]; exact bytes_eq2 s [43]
  simp only [h0, h1, h2, h3, h4, h5, h6, h7, h8, h9, Bool.false_or, Bool.or_false, Bool.true_or, Bool.or_true, if_true, if_false, Bool.false_eq_true, ↓reduceIte]
  go_enter Tryz.func198, Tryz.ntmps198
  go_wp2_with fail
  go_ret
  exact ⟨rfl, rfl⟩
 | false =>
 have a9 : (s.toList == (⟨#[43]⟩ : ByteArray).toList) = false := by rw [← h9]; exact bytes_eq s [43]
 have b9 : (s.toList == [43]) = false := by rw [← h9]; exact bytes_eq2 s [43]
 cases h10 : s.data.toList == [45] with
 | true =>
  have a10 : (s.toList == (⟨#[45]⟩ : ByteArray).toList) = true := by rw [← h10]; exact bytes_eq s [45]
  have b10 : (s.toList == [45]) = true := by rw [← h10]; exact bytes_eq2 s [45]
  simp only [h0, h1, h2, h3, h4, h5, h6, h7, h8, h9, h10, Bool.false_or, Bool.or_false, Bool.true_or, Bool.or_true, if_true, if_false, Bool.false_eq_true, ↓reduceIte]
  go_enter Tryz.func198, Tryz.ntmps198
  go_wp2_with fail
  go_ret
  exact ⟨rfl, rfl⟩
 | false =>
 have a10 : (s.toList == (⟨#[45]⟩ : ByteArray).toList) = false := by rw [← h10]; exact bytes_eq s [45]
 have b10 : (s.toList == [45]) = false := by rw [← h10]; exact bytes_eq2 s [45]
 cases h11 : s.data.toList == [42] with
 | true =>
  have a11 : (s.toList == (⟨#[42]⟩ : ByteArray).toList) = true := by rw [← h11]; exact bytes_eq s [42]
  have b11 : (s.toList == [42]) = true := by rw [← h11]; exact bytes_eq2 s [42]
  simp only [h0, h1, h2, h3, h4, h5, h6, h7, h8, h9, h10, h11, Bool.false_or, Bool.or_false, Bool.true_or, Bool.or_true, if_true, if_false, Bool.false_eq_true, ↓reduceIte]
  go_enter Tryz.func198, Tryz.ntmps198
  go_wp2_with fail
  go_ret
  exact ⟨rfl, rfl⟩
 | false =>
 have a11 : (s.toList == (⟨#[42]⟩ : ByteArray).toList) = false := by rw [← h11]; exact bytes_eq s [42]
 have b11 : (s.toList == [42]) = false := by rw [← h11]; exact bytes_eq2 s [42]
 cases h12 : s.data.toList == [47] with
 | true =>
  have a12 : (s.toList == (⟨#[47]⟩ : ByteArray).toList) = true := by rw [← h12]; exact bytes_eq s [47]
  have b12 : (s.toList == [47]) = true := by rw [← h12]; exact bytes_eq2 s [47]
  simp only [h0, h1, h2, h3, h4, h5, h6, h7, h8, h9, h10, h11, h12, Bool.false_or, Bool.or_false, Bool.true_or, Bool.or_true, if_true, if_false, Bool.false_eq_true, ↓reduceIte]
  go_enter Tryz.func198, Tryz.ntmps198
  go_wp2_with fail
  go_ret
  exact ⟨rfl, rfl⟩
 | false =>
 have a12 : (s.toList == (⟨#[47]⟩ : ByteArray).toList) = false := by rw [← h12]; exact bytes_eq s [47]
 have b12 : (s.toList == [47]) = false := by rw [← h12]; exact bytes_eq2 s [47]
 cases h13 : s.data.toList == [47, 47] with
 | true =>
  have a13 : (s.toList == (⟨#[47, 47]⟩ : ByteArray).toList) = true := by rw [← h13]; exact bytes_eq s [47, 47]
  have b13 : (s.toList == [47, 47]) = true := by rw [← h13]; exact bytes_eq2 s [47, 47]
  simp only [h0, h1, h2, h3, h4, h5, h6, h7, h8, h9, h10, h11, h12, h13, Bool.false_or, Bool.or_false, Bool.true_or, Bool.or_true, if_true, if_false, Bool.false_eq_true, ↓reduceIte]
  go_enter Tryz.func198, Tryz.ntmps198
  go_wp2_with fail
  go_ret
  exact ⟨rfl, rfl⟩
 | false =>
 have a13 : (s.toList == (⟨#[47, 47]⟩ : ByteArray).toList) = false := by rw [← h13]; exact bytes_eq s [47, 47]
 have b13 : (s.toList == [47, 47]) = false := by rw [← h13]; exact bytes_eq2 s [47, 47]
 cases h14 : s.data.toList == [37] with
 | true =>
  have a14 : (s.toList == (⟨#[37]⟩ : ByteArray).toList) = true := by rw [← h14]; exact bytes_eq s [37]
  have b14 : (s.toList == [37]) = true := by rw [← h14]; exact bytes_eq2 s [37]
  simp only [h0, h1, h2, h3, h4, h5, h6, h7, h8, h9, h10, h11, h12, h13, h14, Bool.false_or, Bool.or_false, Bool.true_or, Bool.or_true, if_true, if_false, Bool.false_eq_true, ↓reduceIte]
  go_enter Tryz.func198, Tryz.ntmps198
  go_wp2_with fail
  go_ret
  exact ⟨rfl, rfl⟩
 | false =>
 have a14 : (s.toList == (⟨#[37]⟩ : ByteArray).toList) = false := by rw [← h14]; exact bytes_eq s [37]
 have b14 : (s.toList == [37]) = false := by rw [← h14]; exact bytes_eq2 s [37]
 simp only [h0, h1, h2, h3, h4, h5, h6, h7, h8, h9, h10, h11, h12, h13, h14, Bool.false_or, Bool.or_false, if_false, Bool.false_eq_true, ↓reduceIte]
 go_enter Tryz.func198, Tryz.ntmps198
 go_wp2_with fail
 go_ret
 exact ⟨rfl, rfl⟩
end Go.Proofs.YtgkgpjbbmnfnmaaGreatDoor

/- A node is put behind a row, in a region that draws its order. -/
namespace Go.Proofs.YtgkgpjbbmnfnmaaGreatDoor
open Go.RowKit
set_option linter.unusedSimpArgs false
set_option linter.unusedVariables false

theorem app_node {o : Oper} {a : Act} {K : Act → World → Prop} {Q : Exit → Act → World → Prop} {w : World} (s x : Operand) (ho : o.op = .call { callee := .builtin .append, args := #[s, x], argTypes := #[41, 41] })
  {B : Nat} {v : Value} {l : List Tr} {y : Tr} {cs : List Value} (hs : a.eval s = v) (hb : Bld B w v l) (hy : NodeIs (Out B v) w y cs) (hone : ∀ u ∈ cs, u.oneCell' = true) (b : Nat) (hx : a.eval x = .slice (some ⟨b, 0, none⟩) 1 1)
  (hbk : w.heap[b]? = some (nb cs)) (hl : l.length ≤ 10000) (hB : B ≤ w.heap.size) (h : ∀ v' w', Bld B w' v' (l ++ [y]) → w.grownBy w' v.ownBlock → (∃ ao n cap, v' = .slice ao n cap) → K (a.put o.dst v') w') : o.wp Tryz.prog a w K Q := by
 obtain ⟨i0, hi, hz0, hz1, hz2⟩ := info_parts infoN
 obtain ⟨css, hce, hown, hcn⟩ := hb.ex
 obtain ⟨v', w', hr, h2, h3, h4, h5⟩ := run_append_own_at (P := Tryz.prog) w B 41 o.type 43 i0 (.agg #[.int .i64 0, .string ⟨#[]⟩, .int .i64 0, .int .i64 0, .int .i64 0, .slice none 0 0, .int .i64 0]) 7 80 Tryz.underlying41 hi hz0 hz1 hz2 rfl (by decide) v l.length css.flatten hown ⟨b, 0, none⟩ 1 1 cs (by rw [hy.len])
  (World.news_of_block hbk) hone (by unfold maxLen; omega) (by omega) hB
 unfold Oper.wp execOp
 simp only [ho, resolve, invoke, builtin, Sem.run_bind, Sem.run_pure, Result.andThen_ok, List.map_toArray, List.map_cons, List.map_nil, hs, hx, hr]
 refine h v' w' (hb.snoc hce hcn hy h2 h3 ?_) h3 ?_
 ·rcases h5 with h | h
  ·exact .inl h
  ·refine .inr (fun k e => ?_)
   rw [h] at e
   injection e with e
   exact Nat.le_of_eq e
 ·rcases h2.2 with ⟨hv, _⟩ | ⟨g, cap, cur, hv, _⟩
  ·exact ⟨_, _, _, hv⟩
  ·exact ⟨_, _, _, hv⟩
end Go.Proofs.YtgkgpjbbmnfnmaaGreatDoor

/- Shorter words for regions that draw their order; the state of a box that a list is gathered in. -/
namespace Go.Proofs.YtgkgpjbbmnfnmaaGreatDoor
open Go.RowKit
set_option linter.unusedSimpArgs false
set_option linter.unusedVariables false

/-- A box T of kind K in which a list is gathered, the parser c and the result's box ahead of it. -/
def FTs (K ap : Int) (c T : Nat) (V : Env) (w W : World) (q : Nat) (sv : Value) (D : List Tr) : Prop := T + 1 ≤ W.heap.size ∧ Kept (fun b => b = c) w W ∧ Ps W c V q ∧ W.heap[w.heap.size]? = some (nb nz) ∧ W.heap[T]? = some (nb (ncs K ⟨#[]⟩ 0 0 0 sv ap)) ∧ Bld (T + 1) W sv D
section
variable {K ap : Int} {c T : Nat} {V : Env} {w W W' : World} {q q1 : Nat} {sv sv' : Value} {D D' : List Tr}
theorem ft_no (h : FTs K ap c T V w W q sv D) (hk : Kept No W W') (hc : c < T + 1) : FTs K ap c T V w W' q sv D := by
  obtain ⟨h1, h2, h3, h4, h5, h6⟩ := h
  exact ⟨Nat.le_trans h1 hk.size, h2.trans hk.no, h3.no hk, hk.heap h4 id, hk.heap h5 id, h6.go hc hk.no⟩
theorem ft_drew (h : FTs K ap c T V w W q sv D) (hc : c < T + 1) : FTs K ap c T V w W.drew q sv D := ft_no h (Kept.refl No W).drew hc
theorem ft_al {x : Tr} {cs cs' : List Value} (h : FTs K ap c T V w W q sv D ∧ NodeIs (Out (T + 1) sv) W x cs) (hc : c < T + 1) : FTs K ap c T V w (W.alloc (nb cs')) q sv D ∧ NodeIs (Out (T + 1) sv) (W.alloc (nb cs')) x cs :=
  ⟨ft_no h.1 ((Kept.refl No W).alloc _) hc, NodeIs.kept ((Kept.refl No W).alloc _).no _ _ h.2⟩
theorem ft_call (h : FTs K ap c T V w W q sv D) (hk : Kept (fun b => b = c) W W') (hp : Ps W' c V q1) {x : Tr} {cs : List Value} (hy : NodeIs (fun b => b < W.heap.size) W' x cs) (hc : c < T + 1) (n1 : ¬ w.heap.size = c) (n2 : ¬ T = c) :
    FTs K ap c T V w W' q1 sv D ∧ NodeIs (Out (T + 1) sv) W' x cs := by
  obtain ⟨h1, h2, h3, h4, h5, h6⟩ := h
  refine ⟨⟨Nat.le_trans h1 hk.size, h2.trans hk, hp, hk.heap h4 n1, hk.heap h5 n2, h6.go hc hk⟩, NodeIs.mono ?_ _ _ hy⟩
  rintro b (hb | hb)
  · exact Nat.lt_of_lt_of_le hb h1
  · exact (h6.own_lt b hb).2
theorem ft_gr (h : FTs K ap c T V w W q sv D) (hg : W.grownBy W' sv.ownBlock) (hb : Bld (T + 1) W' sv' D') (hc : c < T + 1) (hw : w.heap.size < T + 1) : T + 1 ≤ W'.heap.size ∧ Kept (fun b => b = c) w W' ∧ Ps W' c V q ∧ W'.heap[w.heap.size]? = some (nb nz) ∧ W'.heap[T]? = some (nb (ncs K ⟨#[]⟩ 0 0 0 sv ap)) ∧ Bld (T + 1) W' sv' D' := by
  have hol := fun k e => h.2.2.2.2.2.own_lt k e
  refine ⟨Nat.le_trans h.1 hg.size, h.2.1.grown hg (fun k e => .inr (by have := (hol k e).1; omega)), h.2.2.1.low (fun k hk => ?_), ?_, ?_, hb⟩
  · exact hg.block k (Nat.lt_of_le_of_lt hk h.2.2.1.lt) (fun e => by have := (hol k e.symm).1; omega)
  · exact (hg.block w.heap.size (Nat.lt_of_lt_of_le hw h.1) (fun e => by have := (hol w.heap.size e.symm).1; omega)).trans h.2.2.2.1
  · exact (hg.block T (Nat.lt_of_lt_of_le (show T < T + 1 by omega) h.1) (fun e => by have := (hol T e.symm).1; omega)).trans h.2.2.2.2.1
theorem ft_set (h : T + 1 ≤ W.heap.size ∧ Kept (fun b => b = c) w W ∧ Ps W c V q ∧ W.heap[w.heap.size]? = some (nb nz) ∧ W.heap[T]? = some (nb (ncs K ⟨#[]⟩ 0 0 0 sv ap)) ∧ Bld (T + 1) W sv' D') (hc : c < T) (hw : w.heap.size < T) : FTs K ap c T V w (W.setCell ⟨T, 5, none⟩ sv') q sv' D' := by
  have hks : Kept (fun b => b = T) W (W.setCell ⟨T, 5, none⟩ sv') := (Kept.refl _ W).set T 5 _ (.inl rfl)
  exact ⟨Nat.le_trans h.1 hks.size, h.2.1.set _ _ _ (Or.inr (by omega)), h.2.2.1.low (fun k hk => set_low _ _ _ (by omega)), set_other h.2.2.2.1 _ _ (by omega), set_same h.2.2.2.2.1 _ _, h.2.2.2.2.2.go (show T < T + 1 by omega) hks⟩
end
end Go.Proofs.YtgkgpjbbmnfnmaaGreatDoor
