/- Joined: F1 F2 F3 F4 F5 F6. -/
import Derived.Test.YtmoiikpjegbokaaGreatDoorGD
set_option linter.unusedSimpArgs false
set_option linter.unusedVariables false
/- What a token hangs on: its own bytes, and what follows. -/
namespace Go.Proofs.YtmoiikpjegbokaaGreatDoor
open List renaming cons_append → lca
open List renaming nil_append → lna
open Go.RowKit
theorem skipB_twice : ∀ (b : Bool) (l : List UInt8), skipB false (l.drop (skipB b l)) = 0
  | b, [] => by simp [skipB]
  | true, c :: r => by
    have h1 := skipB_twice false r;have h2 := skipB_twice true r;by_cases hc : c.toNat = 10
    · rw [show skipB true (c :: r) = 1 + skipB false r by rw [skipB, if_pos hc], Nat.add_comm, List.drop_succ_cons]; exact h1
    · rw [show skipB true (c :: r) = 1 + skipB true r by rw [skipB, if_neg hc], Nat.add_comm, List.drop_succ_cons]; exact h2
  | false, c :: r => by
    have h1 := skipB_twice false r;have h2 := skipB_twice true r;by_cases hc : isBl c = true
    · rw [show skipB false (c :: r) = 1 + skipB false r by rw [skipB, if_pos hc], Nat.add_comm, List.drop_succ_cons]; exact h1
    · by_cases hd : c.toNat = 45 ∧ r.head?.map UInt8.toNat = some 45
      · rw [show skipB false (c :: r) = 1 + skipB true r by rw [skipB, if_neg hc, if_pos hd], Nat.add_comm, List.drop_succ_cons]; exact h2
      · have e : skipB false (c :: r) = 0 := by rw [skipB, if_neg hc, if_neg hd]
        rw [e, List.drop_zero, e]
theorem bl_inj {s t : ByteArray} (h : bl s = bl t) : s = t := by
  have : s.data = t.data := Array.toList_inj.1 h;cases s; cases t; simp at this; rw [this]
theorem bl_cut (s : ByteArray) (k n : Nat) : bl (s.extract k (k + n)) = ((bl s).drop k).take n := by
  rw [bl_ext, List.drop_take]; congr 1; omega
theorem rd_congr {t t' : ByteArray} (h : t' = t) (hz : t.size ≤ 140737488351232) (hz' : t'.size ≤ 140737488351232) : (rd t' hz').1 = (rd t hz).1 := by subst h; rfl
theorem ext_bd (s : ByteArray) (hs : s.size ≤ 8192) (a b : Nat) : (s.extract a b).size ≤ 140737488351232 := by rw [ByteArray.size_extract]; omega
theorem tk_numX {s : ByteArray} {k : Nat} (hk : k < s.size) (hs : s.size ≤ 8192) (h1 : isLt s[k] = false) (h2 : isDg s[k] = true) : tkAt s k hs = nuX s k hs := by
  rcases tk_num hk hs h1 h2 with h | ⟨h, h'⟩
  · exact h
  · unfold nuX at h h';rw [bl_getD s hk, h2, if_pos rfl] at h h';dsimp only at h h';rw [if_pos h] at h';exact absurd (show (3 : Int) = 0 from h') (by decide)
theorem Lx.place {s : ByteArray} {hs : s.size ≤ 8192} {k : Nat} {e : Option (Nat × Int)} {L : List Tk} (h : Lx s hs k e L) : ∀ Y ∈ L, (k : Int) ≤ Y.a := by
  induction h with
  | done k h => simp
  | bad k x h1 h2 h3 => simp
  | more k E X e L h1 h2 h3 h4 h5 h6 h7 ih =>
    intro Y hY;rcases List.mem_cons.1 hY with rfl | hY
    · obtain ⟨n, K, vt, vn, sy, _, _, _, _, he⟩ := tk_ok s h1 hs h2;rw [← h3, he]; exact Int.le_refl _
    · have := ih Y hY; omega
theorem isBl_iff (c : UInt8) : isBl c = true ↔ c.toNat = 9 ∨ c.toNat = 10 ∨ c.toNat = 13 ∨ c.toNat = 32 := by
  unfold isBl; simp; try omega
def Beh (t : List UInt8) : Prop := t = [] ∨ ∃ c r, t = c :: r ∧ isBl c = true
theorem bl_nm {c : UInt8} (h : isBl c = true) : isNm c = false := by
  have h' := (isBl_iff c).1 h
  have hc : c = 9 ∨ c = 10 ∨ c = 13 ∨ c = 32 := by
    rcases h' with h | h | h | h
    · exact .inl (UInt8.toNat_inj.1 h)
    · exact .inr (.inl (UInt8.toNat_inj.1 h))
    · exact .inr (.inr (.inl (UInt8.toNat_inj.1 h)))
    · exact .inr (.inr (.inr (UInt8.toNat_inj.1 h)))
  rcases hc with rfl | rfl | rfl | rfl <;> decide
theorem bl_46 {c : UInt8} (h : isBl c = true) : ¬ c.toNat = 46 := by
  have h' := (isBl_iff c).1 h;omega
theorem nameL_beh {t : List UInt8} (h : Beh t) : nameL t = 0 := by
  rcases h with rfl | ⟨c, r, rfl, hc⟩
  · rfl
  · rw [nameL, if_neg (by rw [bl_nm hc]; decide)]
theorem numL_beh {t : List UInt8} (h : Beh t) : numL t = 0 := by
  rcases h with rfl | ⟨c, r, rfl, hc⟩
  · rfl
  · cases r with
    | nil => simp [numL, bl_nm hc]
    | cons d r => rw [numL, if_neg (by rw [bl_nm hc]; decide), if_neg (fun h => bl_46 hc h.1)]
theorem nameL_glue {t : List UInt8} (h : Beh t) : ∀ l : List UInt8, nameL (l.take (nameL l) ++ t) = nameL l
  | [] => by simp [nameL_beh h, nameL]
  | c :: r => by
    by_cases hc : isNm c = true
    · have e : nameL (c :: r) = nameL r + 1 := by rw [nameL, if_pos hc]; omega
      rw [e, List.take_succ_cons, lca, nameL, if_pos hc, nameL_glue h r]; omega
    · have e : nameL (c :: r) = 0 := by rw [nameL, if_neg hc]
      rw [e, List.take_zero, lna, nameL_beh h]
theorem numL_step {c : UInt8} (hc : isNm c = true) (l : List UInt8) : numL (c :: l) = 1 + numL l := by
  cases l with
  | nil => simp [numL, hc]
  | cons d r => rw [numL, if_pos hc]
theorem numL_glue {t : List UInt8} (h : Beh t) : ∀ l : List UInt8, numL (l.take (numL l) ++ t) = numL l
  | [] => by simp [numL_beh h, numL]
  | [c] => by
    by_cases hc : isNm c = true
    · rw [show numL [c] = 1 by simp [numL, hc]];simp only [List.take_succ_cons, List.take_zero, lca, lna];rw [numL_step hc, numL_beh h]
    · rw [show numL [c] = 0 by simp [numL, hc], List.take_zero, lna, numL_beh h]
  | c :: d :: r => by
    have h1 := numL_glue h (d :: r);have h2 := numL_glue h r;by_cases hc : isNm c = true
    · rw [numL_step hc, Nat.add_comm, List.take_succ_cons, lca, numL_step hc, h1]; omega
    · by_cases hd : c.toNat = 46 ∧ isDg d = true
      · have e : numL (c :: d :: r) = numL r + 2 := by rw [numL, if_neg hc, if_pos hd]; omega
        rw [e, List.take_succ_cons, List.take_succ_cons, lca, lca, numL, if_neg hc, if_pos hd, h2]; omega
      · have e : numL (c :: d :: r) = 0 := by rw [numL, if_neg hc, if_neg hd]
        rw [e, List.take_zero, lna, numL_beh h]
theorem qL_glue (t : List UInt8) : ∀ (l : List UInt8) (n : Nat), qL l = some n → qL (l.take (n + 1) ++ t) = some n
  | [], n, h => by cases h
  | c :: r, n, h => by
    rw [List.take_succ_cons, lca];unfold qL at h ⊢;split at h
    · rename_i hc; rw [if_pos hc]; exact h
    · rename_i hc;rw [if_neg hc];obtain ⟨k, hk, rfl⟩ := Option.map_eq_some_iff.1 h;rw [qL_glue t r k hk]; rfl
theorem cut_glue {s s' : ByteArray} {k k' n : Nat} {t : List UInt8} (hn : k + n ≤ s.size) (h : (bl s').drop k' = ((bl s).drop k).take n ++ t) : s'.extract k' (k' + n) = s.extract k (k + n) := by
  apply bl_inj
  rw [bl_cut, bl_cut, h];exact List.take_left' (by rw [List.length_take, List.length_drop, bl_len]; omega)
theorem head_glue {s s' : ByteArray} {k k' n : Nat} {t : List UInt8} (hk : k < s.size) (hk' : k' < s'.size) (hn : 0 < n) (h : (bl s').drop k' = ((bl s).drop k).take n ++ t) : s'[k'] = s[k] := by
  rw [bl_drop s hk, bl_drop s' hk'] at h;cases n with
  | zero => omega
  | succ n => rw [List.take_succ_cons, lca] at h; exact (List.cons.inj h).1
theorem bl_four {c : UInt8} (h : isBl c = true) : c = 9 ∨ c = 10 ∨ c = 13 ∨ c = 32 := by
  rcases (isBl_iff c).1 h with h | h | h | h
  · exact .inl (UInt8.toNat_inj.1 h)
  · exact .inr (.inl (UInt8.toNat_inj.1 h))
  · exact .inr (.inr (.inl (UInt8.toNat_inj.1 h)))
  · exact .inr (.inr (.inr (UInt8.toNat_inj.1 h)))
theorem sgF_glue (g : List UInt8) (hg : g ∈ sgs) {t : List UInt8} (h : Beh t) : sgF (g ++ t) sgs = some g := by
  unfold sgs at hg;simp only [List.mem_cons, List.not_mem_nil, or_false] at hg;rcases h with rfl | ⟨c, r, rfl, hc⟩
  · rcases hg with rfl | rfl | rfl | rfl | rfl | rfl | rfl | rfl | rfl | rfl | rfl | rfl | rfl | rfl | rfl | rfl | rfl | rfl | rfl | rfl | rfl | rfl | rfl | rfl <;> rfl
  · rcases bl_four hc with rfl | rfl | rfl | rfl <;> rcases hg with rfl | rfl | rfl | rfl | rfl | rfl | rfl | rfl | rfl | rfl | rfl | rfl | rfl | rfl | rfl | rfl | rfl | rfl | rfl | rfl | rfl | rfl | rfl | rfl <;> rfl
theorem tk_glue {s s' : ByteArray} {k k' n : Nat} {t : List UInt8} (ht0 : Beh t) (hk : k < s.size) (hk' : k' < s'.size) (hs : s.size ≤ 8192) (hs' : s'.size ≤ 8192) (h : (bl s').drop k' = ((bl s).drop k).take n ++ t) {X : Tk}
    (hX : tkAt s k hs = (X, 0)) (he : X.e = ((k + n : Nat) : Int)) : tkAt s' k' hs' = (⟨X.k, X.t, X.vt, X.vn, X.sy, k', (k' + n : Nat)⟩, 0) := by
  have hF := tk_ok s hk hs (by rw [hX]);obtain ⟨nF, _, _, _, _, n1, n2, _, _, hF⟩ := hF
  have hnF : n = nF := by
    rw [hX] at hF;have hF' : X = _ := hF;rw [hF'] at he;have : ((k + nF : Nat) : Int) = ((k + n : Nat) : Int) := he;omega
  subst hnF;have hh := head_glue hk hk' n1 h;have hc := cut_glue (by omega) h;cases h1 : isLt s[k] with
  | true =>
    have e1 := tk_name hk hs h1;rw [hX] at e1;have hXn : X = nmT s k := congrArg Prod.fst e1;have h1' : isLt s'[k'] = true := by rw [hh]; exact h1
    rw [tk_name hk' hs' h1'];unfold nmT at hXn ⊢;rw [bl_getD s hk, h1, if_pos rfl] at hXn;rw [bl_getD s' hk', h1', if_pos rfl];subst hXn;have hnn : nameL ((bl s).drop k) = n := by have : ((k + nameL ((bl s).drop k) : Nat) : Int) = ((k + n : Nat) : Int) := he; omega
    have hnn' : nameL ((bl s').drop k') = n := by rw [h, ← hnn]; exact nameL_glue ht0 _
    unfold nmK;rw [hnn, hnn', hc]
  | false =>
    have h1' : isLt s'[k'] = false := by rw [hh]; exact h1
    cases h2 : isDg s[k] with
    | true =>
      have h2' : isDg s'[k'] = true := by rw [hh]; exact h2
      have e1 := tk_numX hk hs h1 h2;rw [hX] at e1;rw [tk_numX hk' hs' h1' h2'];unfold nuX at e1 ⊢;rw [bl_getD s hk, h2, if_pos rfl] at e1;rw [bl_getD s' hk', h2', if_pos rfl];dsimp only at e1 ⊢;have ex := (congrArg Prod.snd e1).symm;dsimp only at ex;rw [if_pos ex] at e1;have hXn := congrArg Prod.fst e1;dsimp only at hXn
      have hnn : numL ((bl s).drop k) = n := by
        have : ((k + numL ((bl s).drop k) : Nat) : Int) = ((k + n : Nat) : Int) := by rw [hXn] at he; exact he
        omega
      have hnn' : numL ((bl s').drop k') = n := by rw [h, ← hnn]; exact numL_glue ht0 _
      have ht : s'.extract k' (k' + numL ((bl s').drop k')) = s.extract k (k + numL ((bl s).drop k)) := by rw [hnn, hnn', hc]
      have hr := rd_congr ht (ext_bd s hs _ _) (ext_bd s' hs' _ _);rw [hr, if_pos ex, ex, hXn];dsimp only;rw [ht, hnn']
    | false =>
      have h2' : isDg s'[k'] = false := by rw [hh]; exact h2
      by_cases h3 : s[k].toNat = 34
      · have h3' : s'[k'].toNat = 34 := by rw [hh]; exact h3
        have e1 := tk_quote hk hs h1 h2 h3;rw [hX] at e1;rw [tk_quote hk' hs' h1' h2' h3'];unfold quX at e1 ⊢;rw [bl_getD s hk, if_pos h3] at e1;rw [bl_getD s' hk', if_pos h3'];rcases qL_index ((bl s).drop (k + 1)) with ⟨q1, q2⟩ | ⟨i, q1, q2, q3⟩
        · rw [q1] at e1; exact absurd (show (0 : Int) = 16 from congrArg Prod.snd e1) (by decide)
        · rw [q1] at e1;dsimp only at e1;cases hu : uq (s.extract k (k + i + 2)) with
          | none => rw [hu] at e1; exact absurd (show (0 : Int) = 16 from congrArg Prod.snd e1) (by decide)
          | some u =>
            rw [hu] at e1;have hXn := congrArg Prod.fst e1;dsimp only at hXn
            have hnn : i + 2 = n := by
              have : ((k + i + 2 : Nat) : Int) = ((k + n : Nat) : Int) := by rw [hXn] at he; exact he
              omega
            have hd' : (bl s').drop (k' + 1) = ((bl s).drop (k + 1)).take (i + 1) ++ t := by
              rw [bl_drop s hk, bl_drop s' hk', ← hnn, List.take_succ_cons, lca] at h;exact (List.cons.inj h).2
            have q' : qL ((bl s').drop (k' + 1)) = some i := by rw [hd']; exact qL_glue t _ _ q1
            have ht : s'.extract k' (k' + i + 2) = s.extract k (k + i + 2) := by
              have := hc;rw [← hnn] at this;exact this
            rw [q'];dsimp only;rw [ht, hu, hXn];dsimp only;rw [← hnn]; rfl
      · have h3' : ¬ s'[k'].toNat = 34 := by rw [hh]; exact h3
        have e1 := tk_sign hk hs h1 h2 h3;rw [hX] at e1;rw [tk_sign hk' hs' h1' h2' h3'];cases hg : sgF ((bl s).drop k) sgs with
        | none => rw [hg] at e1; exact absurd (show (0 : Int) = 15 from congrArg Prod.snd e1) (by decide)
        | some g =>
          rw [hg] at e1;have hXn := congrArg Prod.fst e1;dsimp only at hXn
          have hnn : g.length = n := by
            have : ((k + g.length : Nat) : Int) = ((k + n : Nat) : Int) := by rw [hXn] at he; exact he
            omega
          have hg' : sgF ((bl s').drop k') sgs = some g := by
            have hm := List.mem_of_find?_eq_some hg;have hp := List.find?_some hg
            have hgt : ((bl s).drop k).take n = g := by
              rw [← Lib.hasPrefix_of_take] at hp;simp at hp;rw [← hnn]; exact hp.2
            rw [h, hgt]; exact sgF_glue g hm ht0
          rw [hg', hXn];dsimp only;rw [hnn, hc]
def np (X : Tk) : Tk := ⟨X.k, X.t, X.vt, X.vn, X.sy, 0, 0⟩
theorem skipB_zero {c : UInt8} {r : List UInt8} : skipB false (c :: r) = 0 ↔ isBl c = false ∧ ¬ (c.toNat = 45 ∧ r.head?.map UInt8.toNat = some 45) := by
  unfold skipB;cases h : isBl c with
  | true => simp
  | false =>
    rw [if_neg (by decide)];by_cases h2 : c.toNat = 45 ∧ r.head?.map UInt8.toNat = some 45
    · rw [if_pos h2]; simp [h2]
    · rw [if_neg h2]; simp only [h2, not_false_eq_true, and_self]
def Cutd (X : Tk) : Prop := ∃ (s : ByteArray) (hs : s.size ≤ 8192) (k n : Nat), k < s.size ∧ skipB false ((bl s).drop k) = 0 ∧ tkAt s k hs = (X, 0) ∧ X.e = ((k + n : Nat) : Int) ∧ 0 < n ∧ k + n ≤ s.size ∧ bl X.t = ((bl s).drop k).take n
theorem Lx.cutd {s : ByteArray} {hs : s.size ≤ 8192} {k : Nat} {e : Option (Nat × Int)} {L : List Tk} (h : Lx s hs k e L) : skipB false ((bl s).drop k) = 0 → ∀ X ∈ L, Cutd X := by
  induction h with
  | done k h => simp
  | bad k x h1 h2 h3 => simp
  | more k E X e L h1 h2 h3 h4 h5 h6 h7 ih =>
    intro h0 Y hY;obtain ⟨n, K, vt, vn, sy, n1, n2, _, _, hF⟩ := tk_ok s h1 hs h2;have hX : tkAt s k hs = (X, 0) := by rw [← h3, ← h2]
    rw [h3] at hF;rcases List.mem_cons.1 hY with rfl | hY
    · exact ⟨s, hs, k, n, h1, h0, hX, by rw [hF], n1, n2, by rw [hF]; exact bl_cut _ _ _⟩
    · exact ih (by rw [← List.drop_drop]; exact skipB_twice _ _) Y hY
theorem beh_head {t : List UInt8} (h : Beh t) : t.head?.map UInt8.toNat ≠ some 45 := by
  rcases h with rfl | ⟨c, r, rfl, hc⟩
  · simp
  · have := (isBl_iff c).1 hc;simp; omega
theorem skip_tok {X : Tk} (h : Cutd X) {t : List UInt8} (ht : Beh t) : skipB false (bl X.t ++ t) = 0 := by
  obtain ⟨s, hs, k, n, h1, h2, h3, h4, h5, h6, h7⟩ := h;rw [bl_drop s h1] at h2;obtain ⟨z1, z2⟩ := skipB_zero.1 h2;rw [h7, bl_drop s h1];obtain ⟨m, rfl⟩ : ∃ m, n = m + 1 := ⟨n - 1, by omega⟩;rw [List.take_succ_cons, lca];refine skipB_zero.2 ⟨z1, fun h => z2 ⟨h.1, ?_⟩⟩;have h := h.2;cases m with
  | zero => rw [List.take_zero, lna] at h; exact absurd h (beh_head ht)
  | succ m =>
    cases hr : (bl s).drop (k + 1) with
    | nil => rw [hr] at h; rw [List.take_nil, lna] at h; exact absurd h (beh_head ht)
    | cons d r => rw [hr] at h; rw [List.take_succ_cons, lca] at h; exact h
inductive Gl : List Tk → List UInt8 → Prop
  | nil : Gl [] []
  | cons (X : Tk) (L : List Tk) (g r : List UInt8) : Cutd X → Beh (g ++ r) → skipB false (g ++ r) = g.length → Gl L r → Gl (X :: L) (bl X.t ++ (g ++ r))
theorem Gl.skip {L : List Tk} {r : List UInt8} (h : Gl L r) : skipB false r = 0 := by
  cases h with
  | nil => rfl
  | cons X L g r h1 h2 h3 h4 => exact skip_tok h1 h2
theorem Gl.lx {L : List Tk} {r : List UInt8} (h : Gl L r) : ∀ (s : ByteArray) (hs : s.size ≤ 8192) (k : Nat), (bl s).drop k = r → k ≤ s.size → ∃ L', Lx s hs k none L' ∧ L'.map np = L.map np := by
  induction h with
  | nil =>
    intro s hs k hd hk;have := congrArg List.length hd;rw [List.length_drop, bl_len] at this;exact ⟨[], .done k (by simp at this; omega), rfl⟩
  | cons X L g r h1 h2 h3 h4 ih =>
    intro s' hs' k' hd hk';obtain ⟨s, hs, k, n, c1, c2, c3, c4, c5, c6, c7⟩ := h1;have hl := congrArg List.length hd;have hn : (bl X.t).length = n := by rw [c7, List.length_take, List.length_drop, bl_len]; omega
    rw [List.length_drop, bl_len, List.length_append, List.length_append, hn] at hl;have hlt' : k' < s'.size := by omega
    have ht := tk_glue (s' := s') (k' := k') h2 c1 hlt' hs hs' (by rw [hd, c7]) c3 c4;have hd2 : (bl s').drop (k' + n) = g ++ r := by rw [← List.drop_drop, hd]; exact List.drop_left' hn
    have hd3 : (bl s').drop (k' + n + g.length) = r := by rw [← List.drop_drop, hd2]; exact List.drop_left
    obtain ⟨L', hL, hm⟩ := ih s' hs' (k' + n + g.length) hd3 (by omega);refine ⟨_ :: L', lx_more (E := k' + n) (k' := k' + n + g.length) (by omega) ht rfl (by omega) (by omega) (by rw [hd2, h3]) hL, ?_⟩;rw [List.map_cons, List.map_cons, hm]; rfl
def gp : Nat → List UInt8
  | 0 => [32]
  | 1 => [10]
  | 2 => [9, 13, 32]
  | 3 => [32, 45, 45, 32, 97, 32, 34, 98, 10]
  | _ => [10, 45, 45, 10]
theorem gp_skip (k : Nat) (r : List UInt8) : skipB false (gp k ++ r) = (gp k).length + skipB false r := by
  unfold gp;split <;> simp [skipB, isBl] <;> omega
theorem gp_beh (k : Nat) (r : List UInt8) : Beh (gp k ++ r) := by
  unfold gp;split <;> exact .inr ⟨_, _, rfl, by decide⟩
def bB : List Tk → Nat → List UInt8
  | [], _ => []
  | X :: L, k => bl X.t ++ (gp (k % 5) ++ bB L (k + 1))
theorem Gl.blanks : ∀ (L : List Tk) (k : Nat), (∀ X ∈ L, Cutd X) → Gl L (bB L k)
  | [], _, _ => .nil
  | X :: L, k, h => by
    have h2 := Gl.blanks L (k + 1) (fun Z hZ => h Z (List.mem_cons_of_mem _ hZ));exact Gl.cons X L _ _ (h X (by simp)) (gp_beh _ _) (by rw [gp_skip, h2.skip]; rfl) h2
end Go.Proofs.YtmoiikpjegbokaaGreatDoor
