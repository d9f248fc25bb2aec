/- Tokens with gaps between them are the same tokens. -/
import Derived.Test.YtidokamfppdnaaaDoorF5
import Derived.Test.YtidokamfppdnaaaDoorG2
namespace Go.Proofs.YtidokamfppdnaaaDoor
open Go.RowKit
set_option linter.unusedSimpArgs false
set_option linter.unusedVariables false

theorem skipB_zero {c : UInt8} {r : List UInt8} : skipB false (c :: r) = 0 ↔ isBl c = false ∧ ¬ (c.toNat = 45 ∧ r.head?.map UInt8.toNat = some 45) := by
  unfold skipB
  cases h : isBl c with
  | true => simp
  | false =>
    rw [if_neg (by decide)]
    by_cases h2 : c.toNat = 45 ∧ r.head?.map UInt8.toNat = some 45
    · rw [if_pos h2]; simp [h2]
    · rw [if_neg h2]; simp only [h2, not_false_eq_true, and_self]
/-- A token that was cut somewhere. -/
def Cutd (X : Tk) : Prop := ∃ (s : ByteArray) (hs : s.size ≤ 8192) (k n : Nat), k < s.size ∧ skipB false ((bl s).drop k) = 0 ∧ tkAt s k hs = (X, 0) ∧ X.e = ((k + n : Nat) : Int) ∧ 0 < n ∧ k + n ≤ s.size ∧ bl X.t = ((bl s).drop k).take n
theorem Lx.cutd {s : ByteArray} {hs : s.size ≤ 8192} {k : Nat} {e : Option (Nat × Int)} {L : List Tk} (h : Lx s hs k e L) : skipB false ((bl s).drop k) = 0 → ∀ X ∈ L, Cutd X := by
  induction h with
  | done k h => simp
  | bad k x h1 h2 h3 => simp
  | more k E X e L h1 h2 h3 h4 h5 h6 h7 ih =>
    intro h0 Y hY
    obtain ⟨n, K, vt, vn, sy, n1, n2, _, _, hF⟩ := tk_ok s h1 hs h2
    have hX : tkAt s k hs = (X, 0) := by rw [← h3, ← h2]
    rw [h3] at hF
    rcases List.mem_cons.1 hY with rfl | hY
    · exact ⟨s, hs, k, n, h1, h0, hX, by rw [hF], n1, n2, by rw [hF]; exact bl_cut _ _ _⟩
    · exact ih (by rw [← List.drop_drop]; exact skipB_twice _ _) Y hY
theorem beh_head {t : List UInt8} (h : Beh t) : t.head?.map UInt8.toNat ≠ some 45 := by
  rcases h with rfl | ⟨c, r, rfl, hc⟩
  · simp
  · have := (isBl_iff c).1 hc
    simp; omega
theorem skip_tok {X : Tk} (h : Cutd X) {t : List UInt8} (ht : Beh t) : skipB false (bl X.t ++ t) = 0 := by
  obtain ⟨s, hs, k, n, h1, h2, h3, h4, h5, h6, h7⟩ := h
  rw [bl_drop s h1] at h2
  obtain ⟨z1, z2⟩ := skipB_zero.1 h2
  rw [h7, bl_drop s h1]
  obtain ⟨m, rfl⟩ : ∃ m, n = m + 1 := ⟨n - 1, by omega⟩
  rw [List.take_succ_cons, List.cons_append]
  refine skipB_zero.2 ⟨z1, fun h => z2 ⟨h.1, ?_⟩⟩
  have h := h.2
  cases m with
  | zero => rw [List.take_zero, List.nil_append] at h; exact absurd h (beh_head ht)
  | succ m =>
    cases hr : (bl s).drop (k + 1) with
    | nil => rw [hr] at h; rw [List.take_nil, List.nil_append] at h; exact absurd h (beh_head ht)
    | cons d r => rw [hr] at h; rw [List.take_succ_cons, List.cons_append] at h; exact h

/-- Tokens and the gaps behind them. -/
inductive Gl : List Tk → List UInt8 → Prop
  | nil : Gl [] []
  | cons (X : Tk) (L : List Tk) (g r : List UInt8) : Cutd X → Beh (g ++ r) → skipB false (g ++ r) = g.length → Gl L r → Gl (X :: L) (bl X.t ++ (g ++ r))
theorem Gl.skip {L : List Tk} {r : List UInt8} (h : Gl L r) : skipB false r = 0 := by
  cases h with
  | nil => rfl
  | cons X L g r h1 h2 h3 h4 => exact skip_tok h1 h2
theorem Gl.lx {L : List Tk} {r : List UInt8} (h : Gl L r) : ∀ (s : ByteArray) (hs : s.size ≤ 8192) (k : Nat), (bl s).drop k = r → k ≤ s.size → ∃ L', Lx s hs k none L' ∧ L'.map np = L.map np := by
  induction h with
  | nil =>
    intro s hs k hd hk
    have := congrArg List.length hd
    rw [List.length_drop, bl_len] at this
    exact ⟨[], .done k (by simp at this; omega), rfl⟩
  | cons X L g r h1 h2 h3 h4 ih =>
    intro s' hs' k' hd hk'
    obtain ⟨s, hs, k, n, c1, c2, c3, c4, c5, c6, c7⟩ := h1
    have hl := congrArg List.length hd
    have hn : (bl X.t).length = n := by rw [c7, List.length_take, List.length_drop, bl_len]; omega
    rw [List.length_drop, bl_len, List.length_append, List.length_append, hn] at hl
    have hlt' : k' < s'.size := by omega
    have ht := tk_glue (s' := s') (k' := k') h2 c1 hlt' hs hs' (by rw [hd, c7]) c3 c4
    have hd2 : (bl s').drop (k' + n) = g ++ r := by rw [← List.drop_drop, hd]; exact List.drop_left' hn
    have hd3 : (bl s').drop (k' + n + g.length) = r := by rw [← List.drop_drop, hd2]; exact List.drop_left
    obtain ⟨L', hL, hm⟩ := ih s' hs' (k' + n + g.length) hd3 (by omega)
    refine ⟨_ :: L', lx_more (E := k' + n) (k' := k' + n + g.length) (by omega) ht rfl (by omega) (by omega) (by rw [hd2, h3]) hL, ?_⟩
    rw [List.map_cons, List.map_cons, hm]; rfl

/-- Tokens that are joined. -/
def jB : List Tk → List UInt8
  | [] => []
  | [X] => bl X.t
  | X :: Y :: L => bl X.t ++ (32 :: jB (Y :: L))
theorem jB_snoc (X : Tk) : ∀ L : List Tk, L ≠ [] → jB (L ++ [X]) = jB L ++ (32 :: bl X.t)
  | [], h => absurd rfl h
  | [Y], _ => rfl
  | Y :: Z :: L, _ => by
    have := jB_snoc X (Z :: L) (by simp)
    show bl Y.t ++ (32 :: jB ((Z :: L) ++ [X])) = _
    rw [this]
    show _ = (bl Y.t ++ (32 :: jB (Z :: L))) ++ _
    simp
theorem Gl.join : ∀ L : List Tk, (∀ X ∈ L, Cutd X) → Gl L (jB L)
  | [], _ => .nil
  | [X], h => by
    have := Gl.cons X [] [] [] (h X (by simp)) (.inl rfl) rfl .nil
    rwa [show bl X.t ++ ([] ++ []) = jB [X] by simp [jB]] at this
  | X :: Y :: L, h => by
    have h2 := Gl.join (Y :: L) (fun Z hZ => h Z (List.mem_cons_of_mem _ hZ))
    exact Gl.cons X (Y :: L) [32] _ (h X (by simp)) (.inr ⟨32, _, rfl, by decide⟩) (by
      show skipB false (32 :: jB (Y :: L)) = 1
      unfold skipB
      rw [if_pos (by decide), h2.skip]) h2
/-- The five gaps. -/
def gp : Nat → List UInt8
  | 0 => [32]
  | 1 => [10]
  | 2 => [9, 13, 32]
  | 3 => [32, 45, 45, 32, 97, 32, 34, 98, 10]
  | _ => [10, 45, 45, 10]
theorem gp_skip (k : Nat) (r : List UInt8) : skipB false (gp k ++ r) = (gp k).length + skipB false r := by
  unfold gp
  split <;> simp [skipB, isBl] <;> omega
theorem gp_beh (k : Nat) (r : List UInt8) : Beh (gp k ++ r) := by
  unfold gp
  split <;> exact .inr ⟨_, _, rfl, by decide⟩
/-- Tokens with these gaps behind them. -/
def bB : List Tk → Nat → List UInt8
  | [], _ => []
  | X :: L, k => bl X.t ++ (gp (k % 5) ++ bB L (k + 1))
theorem bB_snoc (X : Tk) : ∀ (L : List Tk) (k : Nat), bB (L ++ [X]) k = bB L k ++ (bl X.t ++ gp ((k + L.length) % 5))
  | [], k => by simp [bB]
  | Y :: L, k => by
    have := bB_snoc X L (k + 1)
    show bl Y.t ++ (gp (k % 5) ++ bB (L ++ [X]) (k + 1)) = _
    rw [this]
    simp [bB, Nat.add_assoc, Nat.add_comm 1]
theorem Gl.blanks : ∀ (L : List Tk) (k : Nat), (∀ X ∈ L, Cutd X) → Gl L (bB L k)
  | [], _, _ => .nil
  | X :: L, k, h => by
    have h2 := Gl.blanks L (k + 1) (fun Z hZ => h Z (List.mem_cons_of_mem _ hZ))
    exact Gl.cons X L _ _ (h X (by simp)) (gp_beh _ _) (by rw [gp_skip, h2.skip]; rfl) h2
theorem again_lx {L : List Tk} (h : ∀ X ∈ L, Cutd X) (s : ByteArray) (hs : s.size ≤ 8192) (hb : bl s = jB L) : ∃ L', Lx s hs (skipB false (bl s)) none L' ∧ L'.map np = L.map np := by
  have hg := Gl.join L h
  have h0 : skipB false (bl s) = 0 := by rw [hb]; exact hg.skip
  rw [h0]
  exact hg.lx s hs 0 (by rw [List.drop_zero, hb]) (by omega)
theorem blanks_lx {L : List Tk} (h : ∀ X ∈ L, Cutd X) (k : Nat) (s : ByteArray) (hs : s.size ≤ 8192) (hb : bl s = gp (k % 5) ++ bB L k) : ∃ L', Lx s hs (skipB false (bl s)) none L' ∧ L'.map np = L.map np := by
  have hg := Gl.blanks L k h
  have h0 : skipB false (bl s) = (gp (k % 5)).length := by rw [hb, gp_skip, hg.skip]; rfl
  have hl := bl_len s
  rw [hb, List.length_append] at hl
  rw [h0]
  exact hg.lx s hs _ (by rw [hb]; exact List.drop_left) (by omega)
end Go.Proofs.YtidokamfppdnaaaDoor
