import Derived.Test.YtmoiikpjegbokaaGreatDoorGT
import Derived.Test.YtmoiikpjegbokaaGreatDoorM7
/- Two sources joined; a source behind =, with parentheses and without. -/
namespace Go.Proofs.YtmoiikpjegbokaaGreatDoor
open Go.RowKit
set_option linter.unusedSimpArgs false
set_option linter.unusedVariables false

theorem sgF_semi (r : List UInt8) : sgF (59 :: r) sgs = some [59] := by rfl
theorem sgF_open (r : List UInt8) : sgF (40 :: r) sgs = some [40] := by rfl
theorem sgF_shut (r : List UInt8) : sgF (41 :: r) sgs = some [41] := by rfl
theorem sgF_is (r : List UInt8) : sgF (61 :: 32 :: r) sgs = some [61] := by rfl
/-- A sign at a place. -/
theorem sign_tk {s : ByteArray} (hs : s.size ≤ 8192) {k : Nat} {c : UInt8} {r : List UInt8} (h : (bl s).drop k = c :: r) (h1 : isLt c = false) (h2 : isDg c = false) (h3 : ¬ c.toNat = 34) (hg : sgF (c :: r) sgs = some [c]) :
    k < s.size ∧ tkAt s k hs = (⟨5, ⟨#[c]⟩, 0, 0, ⟨#[]⟩, (k : Nat), ((k + 1 : Nat) : Int)⟩, 0) := by
  have hk : k < s.size := by
    have := congrArg List.length h
    rw [List.length_drop, bl_len, List.length_cons] at this
    omega
  have hc : s[k] = c := by rw [bl_drop s hk] at h; exact (List.cons.inj h).1
  have e := tk_sign hk hs (by rw [hc]; exact h1) (by rw [hc]; exact h2) (by rw [hc]; exact h3)
  rw [h, hg] at e
  refine ⟨hk, ?_⟩
  rw [e]
  have hx : s.extract k (k + 1) = ⟨#[c]⟩ := by
    apply bl_inj
    rw [bl_cut, h]; rfl
  show ((⟨5, s.extract k (k + 1), 0, 0, ⟨#[]⟩, k, (k + 1 : Nat)⟩ : Tk), (0 : Int)) = _
  rw [hx]
/-- The name x at the beginning. -/
theorem x_tk {s : ByteArray} (hs : s.size ≤ 8192) {r : List UInt8} (h : bl s = 120 :: 32 :: r) : 0 < s.size ∧ tkAt s 0 hs = (⟨1, ⟨#[120]⟩, 0, 0, ⟨#[]⟩, (0 : Nat), ((0 + 1 : Nat) : Int)⟩, 0) := by
  have hk : 0 < s.size := by
    have := congrArg List.length h
    rw [bl_len, List.length_cons] at this
    omega
  have hc : s[0] = 120 := by have := bl_drop s hk; rw [List.drop_zero, h] at this; exact (List.cons.inj this).1.symm
  have hn : nameL ((bl s).drop 0) = 1 := by rw [List.drop_zero, h]; rfl
  have e := tk_name hk hs (by rw [hc]; decide)
  have hx : s.extract 0 (0 + 1) = ⟨#[120]⟩ := by
    apply bl_inj
    rw [bl_cut, List.drop_zero, h]; rfl
  refine ⟨hk, ?_⟩
  rw [e]
  unfold nmT nmK
  rw [hn, hx, bl_getD s hk, hc]
  rfl
/-- Two sources with a semicolon between. -/
theorem join_lx {s t u : ByteArray} {hs : s.size ≤ 8192} {ht : t.size ≤ 8192} (hu : u.size ≤ 8192) (hb : bl u = bl s ++ 10 :: 59 :: bl t) {L M : List Tk} (hL : Lx s hs (skipB false (bl s)) none L) (hM : Lx t ht (skipB false (bl t)) none M) :
    ∃ Y M', Lx u hu (skipB false (bl u)) none (L ++ Y :: M') ∧ Y.k = 5 ∧ Y.t.data.toList = [59] ∧ M'.map np = M.map np := by
  have hz : u.size = s.size + 2 + t.size := by
    have := congrArg List.length hb
    rw [bl_len, List.length_append, bl_len, List.length_cons, List.length_cons, bl_len] at this
    omega
  have hd1 : (bl u).drop (s.size + 1) = 59 :: bl t := by
    rw [hb, ← List.drop_drop, List.drop_left' (bl_len s)]; rfl
  have hd2 : ∀ j, (bl u).drop (s.size + 2 + j) = (bl t).drop j := fun j => by
    rw [← List.drop_drop, show s.size + 2 = s.size + 1 + 1 from rfl, ← List.drop_drop, hd1]; rfl
  obtain ⟨e', he', h2⟩ := hM.shift hu (s.size + 2) (by omega) hd2
  have : e' = none := by cases e' with | none => rfl | some _ => cases he'
  subst this
  obtain ⟨hk, h1⟩ := sign_tk hu hd1 (by decide) (by decide) (by decide) (sgF_semi _)
  refine ⟨⟨5, ⟨#[59]⟩, 0, 0, ⟨#[]⟩, ((s.size + 1 : Nat) : Int), ((s.size + 1 + 1 : Nat) : Int)⟩, M.map (shp (s.size + 2)), hL.app0 hu hb ?_, rfl, rfl, shp_np (s.size + 2) M⟩
  have hsk : s.size + skipB false (10 :: 59 :: bl t) = s.size + 1 := by
    have : skipB false (10 :: 59 :: bl t) = 1 + skipB false (59 :: bl t) := rfl
    rw [this]
    have : skipB false (59 :: bl t) = 0 := rfl
    rw [this]
  rw [hsk]
  refine lx_more (E := s.size + 2) (k' := s.size + 2 + skipB false (bl t)) hk h1 rfl (by omega) (by omega) ?_ h2
  rw [show (bl u).drop (s.size + 2) = bl t from hd2 0]
/-- What comes of two sources, joined. -/
theorem joins_R {s t u : ByteArray} (hb : bl u = bl s ++ 10 :: 59 :: bl t) {R1 R2 R : Except (Int × Int) Tr} (h1 : PsR s R1) (h2 : PsR t R2) (hR : PsR u R) {l1 l2 : List Tr} {a1 a2 : Int} (e1 : R1 = .ok (nd 20 l1 a1)) (e2 : R2 = .ok (nd 20 l2 a2))
    (hr : ∀ x, l1.getLast? = some x → x.k ≠ 27) : (¬ u.size ≤ 8192 → cdOf R = 3) ∧ (u.size ≤ 8192 → ∃ l a, R = .ok (nd 20 l a) ∧ l.map tz = (l1 ++ l2).map tz) := by
  rcases hR with ⟨hu, rfl⟩ | ⟨hu, e, K, hK, rfl⟩
  · exact ⟨fun _ => rfl, fun h => absurd h hu⟩
  · refine ⟨fun h => absurd hu h, fun _ => ?_⟩
    rcases h1 with ⟨_, rfl⟩ | ⟨hs, f1, L, hL, rfl⟩
    · cases e1
    rcases h2 with ⟨_, rfl⟩ | ⟨ht, f2, M, hM, rfl⟩
    · cases e2
    cases f1 with
    | some _ => cases e1
    | none =>
    cases f2 with
    | some _ => cases e2
    | none =>
    dsimp only at e1 e2
    obtain ⟨Y, M', hJ, y1, y2, hm⟩ := join_lx hu hb hL hM
    obtain ⟨rfl, rfl⟩ := hK.det hJ
    dsimp only
    refine whole_join (V1 := ⟨L, (s.size : Int)⟩) (V2 := ⟨M, (t.size : Int)⟩) (V := ⟨L ++ Y :: M', (u.size : Int)⟩) ?_ ?_ ?_ e1 e2 hr
    · exact sm_mk (A := []) (M := L) (B := Y :: M') rfl rfl (by simp) (.inr ⟨Y, M', rfl, y1, .inl y2⟩)
    · have := sm_mk (V := ⟨M, (t.size : Int)⟩) (V' := ⟨L ++ Y :: M', (u.size : Int)⟩) (A := L ++ [Y]) (M := M') (B := []) (ex := true) (by simp) hm (fun _ => rfl) (.inl rfl)
      rw [List.length_append] at this
      exact this
    · unfold Env.is
      have := tk_get (V := ⟨L ++ Y :: M', (u.size : Int)⟩) (A := L) (M := [Y]) (B := M') (by simp) 0 (by simp)
      rw [Nat.zero_add] at this
      rw [this, List.getElem_cons_zero, y2]
      rfl
/-- A source behind x =. -/
theorem plain_lx {s u : ByteArray} (hu : u.size ≤ 8192) (hb : bl u = 120 :: 32 :: 61 :: 32 :: bl s) : ∃ hs : s.size ≤ 8192, ∃ e e' L X Y M, Lx s hs (skipB false (bl s)) e L ∧ Lx u hu (skipB false (bl u)) e' (X :: Y :: M) ∧ e'.isSome = e.isSome ∧ M.map np = L.map np ∧
    X.t.data.toList = [120] ∧ X.k = 1 ∧ Y.t.data.toList = [61] := by
  have hz : u.size = 4 + s.size := by
    have := congrArg List.length hb
    rw [bl_len] at this
    simp only [List.length_cons, bl_len] at this
    omega
  have hs : s.size ≤ 8192 := by omega
  obtain ⟨e, L, hL⟩ := Lx.all s hs (s.size - skipB false (bl s)) (skipB false (bl s)) (Nat.le_refl _)
  have hd : ∀ j, (bl u).drop (4 + j) = (bl s).drop j := fun j => by rw [← List.drop_drop, hb]; rfl
  obtain ⟨e', he', h2⟩ := hL.shift hu 4 hz hd
  obtain ⟨k0, h0⟩ := x_tk hu hb
  obtain ⟨k1, h1⟩ := sign_tk (k := 2) (c := 61) hu (by rw [hb]; rfl) (by decide) (by decide) (by decide) (sgF_is _)
  refine ⟨hs, e, e', L, ⟨1, ⟨#[120]⟩, 0, 0, ⟨#[]⟩, ((0 : Nat) : Int), ((0 + 1 : Nat) : Int)⟩, ⟨5, ⟨#[61]⟩, 0, 0, ⟨#[]⟩, ((2 : Nat) : Int), ((2 + 1 : Nat) : Int)⟩, L.map (shp 4), hL, ?_, he', shp_np 4 L, ?_, ?_, ?_⟩
  · rw [show skipB false (bl u) = 0 by rw [hb]; rfl]
    refine lx_more (E := 1) (k' := 2) k0 h0 rfl (by omega) (by omega) (by rw [hb]; rfl) ?_
    refine lx_more (E := 3) (k' := 4 + skipB false (bl s)) k1 h1 rfl (by omega) (by omega) ?_ h2
    rw [show (bl u).drop 3 = 32 :: bl s by rw [hb]; rfl]
    have : skipB false (32 :: bl s) = 1 + skipB false (bl s) := rfl
    rw [this]; omega
  · rfl
  · rfl
  · rfl
/-- .. in parentheses. -/
theorem par_lx {s u : ByteArray} {hs : s.size ≤ 8192} (hu : u.size ≤ 8192) (hb : bl u = 120 :: 32 :: 61 :: 32 :: 40 :: (bl s ++ [10, 41])) {L : List Tk} (hL : Lx s hs (skipB false (bl s)) none L) : ∃ X Y Z M W, Lx u hu (skipB false (bl u)) none (X :: Y :: Z :: (M ++ [W])) ∧ M.map np = L.map np ∧
    X.t.data.toList = [120] ∧ X.k = 1 ∧ Y.t.data.toList = [61] ∧ Z.t.data.toList = [40] ∧ Z.k = 5 ∧ W.t.data.toList = [41] ∧ W.k = 5 := by
  have hz : u.size = 7 + s.size := by
    have := congrArg List.length hb
    rw [bl_len] at this
    simp only [List.length_cons, List.length_append, List.length_nil, bl_len] at this
    omega
  obtain ⟨v, hv⟩ : ∃ v : ByteArray, bl v = bl s ++ 10 :: [41] := ⟨⟨(bl s ++ 10 :: [41]).toArray⟩, by simp [bl]⟩
  have hvz : v.size = s.size + 2 := by
    have := congrArg List.length hv
    rw [bl_len, List.length_append, bl_len] at this
    simpa using this
  have hv8 : v.size ≤ 8192 := by omega
  obtain ⟨k5, h5⟩ := sign_tk (s := v) (k := s.size + 1) (c := 41) (r := []) hv8 (by rw [hv, ← List.drop_drop, List.drop_left' (bl_len s)]; rfl) (by decide) (by decide) (by decide) (sgF_shut _)
  have hV := hL.app0 hv8 hv (e := none) (M := [⟨5, ⟨#[41]⟩, 0, 0, ⟨#[]⟩, ((s.size + 1 : Nat) : Int), ((s.size + 1 + 1 : Nat) : Int)⟩]) (by
    have hsk : s.size + skipB false (10 :: [41]) = s.size + 1 := rfl
    rw [hsk]
    refine lx_more (E := s.size + 2) (k' := s.size + 2) k5 h5 rfl (by omega) (by omega) ?_ (.done _ (by omega))
    rw [List.drop_eq_nil_of_le (by rw [bl_len]; omega)]; rfl)
  have hd : ∀ j, (bl u).drop (5 + j) = (bl v).drop j := fun j => by rw [← List.drop_drop, hb, hv]; rfl
  obtain ⟨e', he', h2⟩ := hV.shift hu 5 (by omega) hd
  have : e' = none := by cases e' with | none => rfl | some _ => cases he'
  subst this
  obtain ⟨k0, h0⟩ := x_tk hu hb
  obtain ⟨k1, h1⟩ := sign_tk (k := 2) (c := 61) hu (by rw [hb]; rfl) (by decide) (by decide) (by decide) (sgF_is _)
  obtain ⟨k3, h3⟩ := sign_tk (k := 4) (c := 40) hu (by rw [hb]; rfl) (by decide) (by decide) (by decide) (sgF_open _)
  rw [List.map_append, List.map_cons, List.map_nil] at h2
  refine ⟨⟨1, ⟨#[120]⟩, 0, 0, ⟨#[]⟩, ((0 : Nat) : Int), ((0 + 1 : Nat) : Int)⟩, ⟨5, ⟨#[61]⟩, 0, 0, ⟨#[]⟩, ((2 : Nat) : Int), ((2 + 1 : Nat) : Int)⟩, ⟨5, ⟨#[40]⟩, 0, 0, ⟨#[]⟩, ((4 : Nat) : Int), ((4 + 1 : Nat) : Int)⟩, L.map (shp 5), shp 5 ⟨5, ⟨#[41]⟩, 0, 0, ⟨#[]⟩, ((s.size + 1 : Nat) : Int), ((s.size + 1 + 1 : Nat) : Int)⟩, ?_, shp_np 5 L, ?_, ?_, ?_, ?_, ?_, ?_, ?_⟩
  · rw [show skipB false (bl u) = 0 by rw [hb]; rfl]
    refine lx_more (E := 1) (k' := 2) k0 h0 rfl (by omega) (by omega) (by rw [hb]; rfl) ?_
    refine lx_more (E := 3) (k' := 4) k1 h1 rfl (by omega) (by omega) (by rw [hb]; rfl) ?_
    refine lx_more (E := 5) (k' := 5 + skipB false (bl v)) k3 h3 rfl (by omega) (by omega) ?_ h2
    rw [show (bl u).drop 5 = bl v from hd 0]
  all_goals rfl
/-- What comes of both. -/
theorem groups_R {s u v : ByteArray} (hb : bl u = 120 :: 32 :: 61 :: 32 :: bl s) (hc : bl v = 120 :: 32 :: 61 :: 32 :: 40 :: (bl s ++ [10, 41])) {R1 R2 : Except (Int × Int) Tr} (h1 : PsR u R1) (h2 : PsR v R2) {l1 l2 : List Tr} {a1 a2 : Int}
    (e1 : R1 = .ok (nd 20 l1 a1)) (e2 : R2 = .ok (nd 20 l2 a2)) {k k' : Int} {t t' : ByteArray} {vt vt' vn vn' c c' : Int} {m m' : List Tr} {b b' : Int} (q1 : l1 = [.mk k t vt vn c m b]) (q2 : l2 = [.mk k' t' vt' vn' c' m' b']) (m1 : m.length = 2) (m2 : m'.length = 2) :
    tz (nd 20 l2 a2) = tz (nd 20 l1 a1) := by
  rcases h1 with ⟨_, rfl⟩ | ⟨hu, f1, K1, hK1, rfl⟩
  · cases e1
  rcases h2 with ⟨_, rfl⟩ | ⟨hv, f2, K2, hK2, rfl⟩
  · cases e2
  cases f1 with
  | some _ => cases e1
  | none =>
  cases f2 with
  | some _ => cases e2
  | none =>
  dsimp only at e1 e2
  obtain ⟨hs, e, e', L, X, Y, M, g1, g2, g3, g4, g5, g6, g7⟩ := plain_lx hu hb
  obtain ⟨rfl, rfl⟩ := hK1.det g2
  have : e = none := by cases e with | none => rfl | some _ => cases g3
  subst this
  obtain ⟨X', Y', Z', M', W', p1, p2, p3, p4, p5, p6, p7, p8, p9⟩ := par_lx hv hc g1
  obtain ⟨_, rfl⟩ := hK2.det p1
  obtain ⟨x, y, rfl⟩ : ∃ x y, m = [x, y] := by
    match m, m1 with
    | [x, y], _ => exact ⟨x, y, rfl⟩
  obtain ⟨x', y', rfl⟩ : ∃ x y, m' = [x, y] := by
    match m', m2 with
    | [x, y], _ => exact ⟨x, y, rfl⟩
  subst q1 q2
  have hl : M'.length = L.length := by simpa using congrArg List.length p2
  have hA : Sm ⟨L, (s.size : Int)⟩ ⟨X :: Y :: M, (u.size : Int)⟩ 2 true := sm_mk (A := [X, Y]) (M := M) (B := []) (by simp) g4 (fun _ => rfl) (.inl rfl)
  have hB : Sm ⟨L, (s.size : Int)⟩ ⟨X' :: Y' :: Z' :: (M' ++ [W']), (v.size : Int)⟩ 3 false := sm_mk (A := [X', Y', Z']) (M := M') (B := [W']) (by simp) p2 (by simp) (.inr ⟨W', [], rfl, p9, .inr p8⟩)
  refine groups (T := ⟨L, (s.size : Int)⟩) (x := x) (y := y) hA hB g5 ?_ ?_ p3 ?_ ?_ p6 ?_ ?_ ?_ e1 e2
  · show (X.k == 1) = true
    rw [g6]; rfl
  · show (Y.t.data.toList == [61]) = true
    rw [g7]; rfl
  · show (X'.k == 1) = true
    rw [p4]; rfl
  · show (Y'.t.data.toList == [61]) = true
    rw [p5]; rfl
  · show Z'.k ≠ 3 ∧ Z'.k ≠ 4
    rw [p7]; decide
  · have := tk_get (V := ⟨X' :: Y' :: Z' :: (M' ++ [W']), (v.size : Int)⟩) (A := X' :: Y' :: Z' :: M') (M := [W']) (B := []) (by simp) 0 (by simp)
    unfold Env.is
    rw [show (⟨L, (s.size : Int)⟩ : Env).L.length + 3 = 0 + (X' :: Y' :: Z' :: M').length by simp [hl], this, List.getElem_cons_zero, p8]
    rfl
  · show (X' :: Y' :: Z' :: (M' ++ [W'])).length = L.length + 4
    simp [hl]
end Go.Proofs.YtmoiikpjegbokaaGreatDoor
