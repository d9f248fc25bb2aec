/- Joined: FA FB. -/
import Derived.Test.YtmoiikpjegbokaaGreatDoorGS
import Derived.Test.YtmoiikpjegbokaaGreatDoorGR
import Derived.Test.YtmoiikpjegbokaaGreatDoorGO
set_option linter.unusedSimpArgs false
set_option linter.unusedVariables false
/- A source with a line end and more behind it; a source behind something. -/
namespace Go.Proofs.YtmoiikpjegbokaaGreatDoor
open List renaming length_cons → llc
open List renaming cons_append → lca
open Go.RowKit
theorem beh_nl (r : List UInt8) : Beh (10 :: r) := .inr ⟨10, r, rfl, by decide⟩
theorem nameL_app (r : List UInt8) : ∀ l : List UInt8, nameL (l ++ 10 :: r) = nameL l
  | [] => nameL_beh (beh_nl r)
  | c :: l => by
    have := nameL_app r l;rw [lca, nameL, nameL, this]
theorem numL_app (r : List UInt8) : ∀ l : List UInt8, numL (l ++ 10 :: r) = numL l
  | [] => numL_beh (beh_nl r)
  | [c] => by
    have := numL_beh (beh_nl r);show (if isNm c then 1 + numL (10 :: r) else if c.toNat = 46 ∧ isDg 10 = true then 2 + numL r else 0) = if isNm c then 1 else 0;rw [this];by_cases hc : isNm c = true
    · rw [if_pos hc, if_pos hc]
    · rw [if_neg hc, if_neg hc, if_neg (fun h => absurd h.2 (by decide))]
  | c :: d :: l => by
    have h1 := numL_app r (d :: l);have h2 := numL_app r l;rw [lca] at h1;rw [lca, lca, numL, numL, h1, h2]
theorem qL_app (t : List UInt8) : ∀ (l : List UInt8) (n : Nat), qL l = some n → qL (l ++ t) = some n
  | [], n, h => by cases h
  | c :: l, n, h => by
    rw [lca];unfold qL at h ⊢;split at h
    · rename_i hc; rw [if_pos hc]; exact h
    · rename_i hc;rw [if_neg hc];obtain ⟨k, hk, rfl⟩ := Option.map_eq_some_iff.1 h;rw [qL_app t l k hk]; rfl
theorem hp_app (r : List UInt8) : ∀ (g l : List UInt8), (10 : UInt8) ∉ g → Lib.hasPrefix (l ++ 10 :: r) g = Lib.hasPrefix l g
  | [], l, _ => by simp [Lib.hasPrefix]
  | a :: g, [], h => by
    have : ¬ a = 10 := fun e => h (by rw [e]; exact List.mem_cons_self)
    simp [Lib.hasPrefix, List.isPrefixOf, this]
  | a :: g, c :: l, h => by
    have := hp_app r g l (fun e => h (List.mem_cons_of_mem _ e));unfold Lib.hasPrefix at this ⊢;rw [lca, List.isPrefixOf, List.isPrefixOf, this]
theorem sgF_app (l r : List UInt8) : sgF (l ++ 10 :: r) sgs = sgF l sgs := by
  have key : ∀ G : List (List UInt8), (∀ g ∈ G, (10 : UInt8) ∉ g) → sgF (l ++ 10 :: r) G = sgF l G := by
    intro G;induction G with
    | nil => intro _; rfl
    | cons g G ih =>
      intro h;have h1 := ih (fun x hx => h x (List.mem_cons_of_mem _ hx));have h2 := hp_app r g l (h g List.mem_cons_self);unfold sgF at h1 ⊢;rw [List.find?_cons, List.find?_cons, h1, h2]
  exact key sgs (by decide)
theorem skipB_app (r : List UInt8) : ∀ (b : Bool) (l : List UInt8), skipB b (l ++ 10 :: r) = if skipB b l < l.length then skipB b l else l.length + skipB false (10 :: r)
  | true, [] => by simp [skipB, isBl]
  | false, [] => by simp [skipB, isBl]
  | true, c :: l => by
    have h1 := skipB_app r false l;have h2 := skipB_app r true l;rw [lca];rw [show skipB true (c :: (l ++ 10 :: r)) = if c.toNat = 10 then 1 + skipB false (l ++ 10 :: r) else 1 + skipB true (l ++ 10 :: r) from rfl];rw [show skipB true (c :: l) = if c.toNat = 10 then 1 + skipB false l else 1 + skipB true l from rfl];by_cases hc : c.toNat = 10
    · rw [if_pos hc, if_pos hc, h1];simp only [llc];split <;> split <;> omega
    · rw [if_neg hc, if_neg hc, h2];simp only [llc];split <;> split <;> omega
  | false, c :: l => by
    have h1 := skipB_app r false l;have h2 := skipB_app r true l
    have hh : ((l ++ 10 :: r).head?.map UInt8.toNat = some 45) ↔ (l.head?.map UInt8.toNat = some 45) := by
      cases l with
      | nil => simp
      | cons d l => simp
    rw [lca];rw [show skipB false (c :: (l ++ 10 :: r)) = if isBl c then 1 + skipB false (l ++ 10 :: r) else if c.toNat = 45 ∧ (l ++ 10 :: r).head?.map UInt8.toNat = some 45 then 1 + skipB true (l ++ 10 :: r) else 0 from rfl];rw [show skipB false (c :: l) = if isBl c then 1 + skipB false l else if c.toNat = 45 ∧ l.head?.map UInt8.toNat = some 45 then 1 + skipB true l else 0 from rfl];by_cases hc : isBl c = true
    · rw [if_pos hc, if_pos hc, h1];simp only [llc];split <;> split <;> omega
    · rw [if_neg hc, if_neg hc];by_cases hd : c.toNat = 45 ∧ l.head?.map UInt8.toNat = some 45
      · rw [if_pos hd, if_pos ⟨hd.1, hh.2 hd.2⟩, h2];simp only [llc];split <;> split <;> omega
      · rw [if_neg hd, if_neg (fun e => hd ⟨e.1, hh.1 e.2⟩), if_pos (by simp)]
theorem cut_app {s s' : ByteArray} {k k' n : Nat} {t : List UInt8} (hn : k + n ≤ s.size) (h : (bl s').drop k' = (bl s).drop k ++ t) : s'.extract k' (k' + n) = s.extract k (k + n) := by
  apply bl_inj
  rw [bl_cut, bl_cut, h, List.take_append_of_le_length (by rw [List.length_drop, bl_len]; omega)]
theorem head_app {s s' : ByteArray} {k k' : Nat} {t : List UInt8} (hk : k < s.size) (hk' : k' < s'.size) (h : (bl s').drop k' = (bl s).drop k ++ t) : s'[k'] = s[k] := by
  rw [bl_drop s hk, bl_drop s' hk', lca] at h;exact (List.cons.inj h).1
theorem tk_app {s s' : ByteArray} {k k' n : Nat} {r : List UInt8} (hk : k < s.size) (hk' : k' < s'.size) (hs : s.size ≤ 8192) (hs' : s'.size ≤ 8192) (h : (bl s').drop k' = (bl s).drop k ++ 10 :: r) {X : Tk}
    (hX : tkAt s k hs = (X, 0)) (he : X.e = ((k + n : Nat) : Int)) : tkAt s' k' hs' = (⟨X.k, X.t, X.vt, X.vn, X.sy, k', (k' + n : Nat)⟩, 0) := by
  have hF := tk_ok s hk hs (by rw [hX]);obtain ⟨nF, _, _, _, _, n1, n2, _, _, hF⟩ := hF
  have hnF : n = nF := by
    rw [hX] at hF;have hF' : X = _ := hF;rw [hF'] at he;have : ((k + nF : Nat) : Int) = ((k + n : Nat) : Int) := he;omega
  subst hnF;have hh := head_app hk hk' h;have hc := cut_app (by omega) h;cases h1 : isLt s[k] with
  | true =>
    have e1 := tk_name hk hs h1;rw [hX] at e1;have hXn : X = nmT s k := congrArg Prod.fst e1;have h1' : isLt s'[k'] = true := by rw [hh]; exact h1
    rw [tk_name hk' hs' h1'];unfold nmT at hXn ⊢;rw [bl_getD s hk, h1, if_pos rfl] at hXn;rw [bl_getD s' hk', h1', if_pos rfl];subst hXn;have hnn : nameL ((bl s).drop k) = n := by have : ((k + nameL ((bl s).drop k) : Nat) : Int) = ((k + n : Nat) : Int) := he; omega
    have hnn' : nameL ((bl s').drop k') = n := by rw [h, nameL_app]; exact hnn
    unfold nmK;rw [hnn, hnn', hc]
  | false =>
    have h1' : isLt s'[k'] = false := by rw [hh]; exact h1
    cases h2 : isDg s[k] with
    | true =>
      have h2' : isDg s'[k'] = true := by rw [hh]; exact h2
      have e1 := tk_numX hk hs h1 h2;rw [hX] at e1;rw [tk_numX hk' hs' h1' h2'];unfold nuX at e1 ⊢;rw [bl_getD s hk, h2, if_pos rfl] at e1;rw [bl_getD s' hk', h2', if_pos rfl];dsimp only at e1 ⊢;have ex := (congrArg Prod.snd e1).symm;dsimp only at ex;rw [if_pos ex] at e1;have hXn := congrArg Prod.fst e1;dsimp only at hXn
      have hnn : numL ((bl s).drop k) = n := by
        have : ((k + numL ((bl s).drop k) : Nat) : Int) = ((k + n : Nat) : Int) := by rw [hXn] at he; exact he
        omega
      have hnn' : numL ((bl s').drop k') = n := by rw [h, numL_app]; exact hnn
      have ht : s'.extract k' (k' + numL ((bl s').drop k')) = s.extract k (k + numL ((bl s).drop k)) := by rw [hnn, hnn', hc]
      have hr := rd_congr ht (ext_bd s hs _ _) (ext_bd s' hs' _ _);rw [hr, if_pos ex, ex, hXn];dsimp only;rw [ht, hnn']
    | false =>
      have h2' : isDg s'[k'] = false := by rw [hh]; exact h2
      by_cases h3 : s[k].toNat = 34
      · have h3' : s'[k'].toNat = 34 := by rw [hh]; exact h3
        have e1 := tk_quote hk hs h1 h2 h3;rw [hX] at e1;rw [tk_quote hk' hs' h1' h2' h3'];unfold quX at e1 ⊢;rw [bl_getD s hk, if_pos h3] at e1;rw [bl_getD s' hk', if_pos h3'];rcases qL_index ((bl s).drop (k + 1)) with ⟨q1, q2⟩ | ⟨i, q1, q2, q3⟩
        · rw [q1] at e1; exact absurd (show (0 : Int) = 16 from congrArg Prod.snd e1) (by decide)
        · rw [q1] at e1;dsimp only at e1;cases hu : uq (s.extract k (k + i + 2)) with
          | none => rw [hu] at e1; exact absurd (show (0 : Int) = 16 from congrArg Prod.snd e1) (by decide)
          | some u =>
            rw [hu] at e1;have hXn := congrArg Prod.fst e1;dsimp only at hXn
            have hnn : i + 2 = n := by
              have : ((k + i + 2 : Nat) : Int) = ((k + n : Nat) : Int) := by rw [hXn] at he; exact he
              omega
            have hd' : (bl s').drop (k' + 1) = (bl s).drop (k + 1) ++ 10 :: r := by
              rw [bl_drop s hk, bl_drop s' hk', lca] at h;exact (List.cons.inj h).2
            have q' : qL ((bl s').drop (k' + 1)) = some i := by rw [hd']; exact qL_app _ _ _ q1
            have ht : s'.extract k' (k' + i + 2) = s.extract k (k + i + 2) := by
              have := hc;rw [← hnn] at this;exact this
            rw [q'];dsimp only;rw [ht, hu, hXn];dsimp only;rw [← hnn]; rfl
      · have h3' : ¬ s'[k'].toNat = 34 := by rw [hh]; exact h3
        have e1 := tk_sign hk hs h1 h2 h3;rw [hX] at e1;rw [tk_sign hk' hs' h1' h2' h3'];cases hg : sgF ((bl s).drop k) sgs with
        | none => rw [hg] at e1; exact absurd (show (0 : Int) = 15 from congrArg Prod.snd e1) (by decide)
        | some g =>
          rw [hg] at e1;have hXn := congrArg Prod.fst e1;dsimp only at hXn
          have hnn : g.length = n := by
            have : ((k + g.length : Nat) : Int) = ((k + n : Nat) : Int) := by rw [hXn] at he; exact he
            omega
          have hg' : sgF ((bl s').drop k') sgs = some g := by rw [h, sgF_app]; exact hg
          rw [hg', hXn];dsimp only;rw [hnn, hc]
theorem Lx.app {s : ByteArray} {hs : s.size ≤ 8192} {k : Nat} {f : Option (Nat × Int)} {L : List Tk} (h : Lx s hs k f L) {s' : ByteArray} (hs' : s'.size ≤ 8192) {r : List UInt8} (hb : bl s' = bl s ++ 10 :: r) {e : Option (Nat × Int)} {M : List Tk}
    (hM : Lx s' hs' (s.size + skipB false (10 :: r)) e M) : f = none → Lx s' hs' (if k < s.size then k else s.size + skipB false (10 :: r)) e (L ++ M) := by
  have hz : s.size < s'.size := by
    have := congrArg List.length hb;rw [bl_len, List.length_append, bl_len, llc] at this;omega
  have hd : ∀ j, j ≤ s.size → (bl s').drop j = (bl s).drop j ++ 10 :: r := fun j hj => by
    rw [hb, List.drop_append_of_le_length (by rw [bl_len]; exact hj)]
  induction h with
  | done k h => intro _; rw [if_neg (by omega)]; exact hM
  | bad k x h1 h2 h3 => intro e; cases e
  | more k E X e0 L h1 h2 h3 h4 h5 h6 h7 ih =>
    intro he;have hX : tkAt s k hs = (X, 0) := by rw [← h3, ← h2]
    obtain ⟨n, K, vt, vn, sy, n1, n2, _, _, hF⟩ := tk_ok s h1 hs h2;rw [h3] at hF
    have hE : E = k + n := by
      have : X.e = ((k + n : Nat) : Int) := by rw [hF]
      omega
    have ht := tk_app (s' := s') (k' := k) (n := n) h1 (by omega) hs hs' (hd k (by omega)) hX (by rw [h4, hE]);rw [if_pos h1];refine lx_more (E := E) (k' := if E + skipB false ((bl s).drop E) < s.size then E + skipB false ((bl s).drop E) else s.size + skipB false (10 :: r)) (by omega) ?_ h4 h5 (by omega) ?_ (ih he)
    · rw [ht];have e1 : X.a = (k : Int) := by rw [hF]
      have e2 : X.e = ((k + n : Nat) : Int) := by rw [h4, hE]
      rw [← e1, ← e2]
    · rw [hd E h6, skipB_app, List.length_drop, bl_len];split <;> split <;> omega
def trOf : Except (Int × Int) Tr → Tr
  | .ok x => x
  | .error _ => nd 0 [] 0
def atOf : Except (Int × Int) Tr → Int
  | .ok _ => 0
  | .error (a, _) => a
def cdOf : Except (Int × Int) Tr → Int
  | .ok _ => 0
  | .error (_, c) => c
theorem PsR.zero {s : ByteArray} {R : Except (Int × Int) Tr} (h : PsR s R) (h0 : cdOf R = 0) : ∃ l a, R = .ok (nd 20 l a) := by
  rcases ends_data h with ⟨l, a, rfl⟩ | ⟨a, c, rfl, hc, _⟩
  · exact ⟨_, _, rfl⟩
  · exact absurd h0 hc
theorem PsR.bd {s : ByteArray} {R : Except (Int × Int) Tr} (h : PsR s R) : Bd 20000 (trOf R) := by
  rcases h with ⟨_, rfl⟩ | ⟨hs, e, L, hL, rfl⟩
  · exact Bd_nd (by simp) (by simp)
  · cases e with
    | some e => exact Bd_nd (by simp) (by simp)
    | none =>
      dsimp only;cases hw : whole ⟨L, (s.size : Int)⟩ with
      | ok x => exact whole_bd hw (Nat.le_trans hL.len (by omega))
      | error e => exact Bd_nd (by simp) (by simp)
theorem nz_is (S : Nat → Prop) (w : World) : NodeIs S w (nd 0 [] 0) nz := NodeIs.cs.2 ⟨_, rfl, .inl ⟨rfl, rfl⟩⟩
theorem Parse_u (s : ByteArray) (w : World) (he : ErrIs w) (hg : SgIs w) {R : Except (Int × Int) Tr} (hR : PsR s R) :
    Calls Tryz.prog 17 #[.string s] w fun r w' => Kept No w w' ∧ ∃ cs, r = .returned (.tuple #[.agg cs.toArray, .int .i64 (atOf R), .int .i64 (cdOf R)]) ∧ NodeIs (fun b => b < w.heap.size) w' (trOf R) cs := by
  refine (Parse_any s w he hg hR).mono ?_;rintro r w' ⟨hk, h⟩;cases R with
  | ok x =>
    obtain ⟨cs, h1, h2⟩ := h;exact ⟨hk, cs, h1, h2⟩
  | error e =>
    obtain ⟨a, c⟩ := e;exact ⟨hk, nz, h, nz_is _ _⟩
theorem Same_u {s : ByteArray} {R : Except (Int × Int) Tr} (h : PsR s R) : SameIs (trOf R) := Same_any (Nat.le_refl _) _ _ (Nat.lt_succ_self _) h.bd
theorem Lx.det {s : ByteArray} {hs : s.size ≤ 8192} {k : Nat} {e : Option (Nat × Int)} {L : List Tk} (h : Lx s hs k e L) : ∀ {e' : Option (Nat × Int)} {L' : List Tk}, Lx s hs k e' L' → e = e' ∧ L = L' := by
  induction h with
  | done k h =>
    intro e' L' h';cases h' with
    | done => exact ⟨rfl, rfl⟩
    | bad _ x h1 => omega
    | more _ E X e L h1 => omega
  | bad k x h1 h2 h3 =>
    intro e' L' h';cases h' with
    | done _ h => omega
    | bad _ y g1 g2 g3 => exact ⟨by rw [← h2, ← g2], rfl⟩
    | more _ E X e L g1 g2 => exact absurd (h2.symm.trans g2) h3
  | more k E X e L h1 h2 h3 h4 h5 h6 h7 ih =>
    intro e' L' h';cases h' with
    | done _ h => omega
    | bad _ y g1 g2 g3 => exact absurd (g2.symm.trans h2) g3
    | more _ E' X' e' L' g1 g2 g3 g4 g5 g6 g7 =>
      have hX : X = X' := by rw [← h3, g3]
      subst hX;have hE : E = E' := by omega
      subst hE;obtain ⟨r1, r2⟩ := ih g7;exact ⟨r1, by rw [r2]⟩
def gpE : List UInt8 := [32, 45, 45, 32, 101, 110, 100, 10]
def eB (L : List Tk) : List UInt8 := L.flatMap (fun X => bl X.t ++ gpE)
theorem eB_cons (X : Tk) (L : List Tk) : eB (X :: L) = bl X.t ++ (gpE ++ eB L) := by unfold eB; rw [List.flatMap_cons, List.append_assoc]
theorem gpE_skip (r : List UInt8) : skipB false (gpE ++ r) = gpE.length + skipB false r := by
  unfold gpE;simp [skipB, isBl]
  omega
theorem Gl.ends : ∀ (L : List Tk), (∀ X ∈ L, Cutd X) → Gl L (eB L)
  | [], _ => .nil
  | X :: L, h => by
    have h2 := Gl.ends L (fun Z hZ => h Z (List.mem_cons_of_mem _ hZ));rw [eB_cons];exact Gl.cons X L _ _ (h X (by simp)) (.inr ⟨32, _, rfl, by decide⟩) (by rw [gpE_skip, h2.skip]; rfl) h2
end Go.Proofs.YtmoiikpjegbokaaGreatDoor
