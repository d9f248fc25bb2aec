/- Joined: D0 D1 D2 D3 D4. -/
import Derived.Test.YthefmfjlinpepaaRE
import Derived.Test.YthefmfjlinpepaaU1
import Derived.Test.YthefmfjlinpepaaNn
/- The document's table in memory; its small functions. -/
namespace Go.Proofs.Ythefmfjlinpepaa
open Go.RowKit Go.Shelf
set_option linter.unusedSimpArgs false
set_option linter.unusedVariables false
attribute [local go_sem] Oper.semAt_some

/-- The document's table: block Q. -/
structure Rt (w : World) (Q : Nat) (most : Int) (a n : Nat) (sl : Sl) : Prop where
  ex : ∃ (ao lo : Option Addr) (ca cl : Nat), w.heap[Q]? = some (.cells #[.slice ao a ca, .slice lo n cl, .int .i64 most] 29 (0, 0)) ∧
    (0 < a → ∃ bA, ao = some ⟨bA, 0, none⟩ ∧ ∃ cs, w.heap[bA]? = some (.cells cs 33 (0, 0)) ∧ ∀ i : Nat, i < a → cs[i * 2]? = some (.int .i64 (sl (i : Int)).1) ∧ cs[i * 2 + 1]? = some (.int .i64 (sl (i : Int)).2)) ∧
    (0 < n → ∃ bL, lo = some ⟨bL, 0, none⟩ ∧ ∃ cs, w.heap[bL]? = some (.cells cs 78 (0, 0)) ∧ ∀ i : Nat, i < n → (cs[i * 4]? = some (.int .i64 (sl ((a : Int) + 2 * (i : Int))).1) ∧ cs[i * 4 + 1]? = some (.int .i64 (sl ((a : Int) + 2 * (i : Int))).2)) ∧ cs[i * 4 + 2]? = some (.int .i64 (sl ((a : Int) + 2 * (i : Int) + 1)).1) ∧ cs[i * 4 + 3]? = some (.int .i64 (sl ((a : Int) + 2 * (i : Int) + 1)).2))
  bd : a ≤ 100000 ∧ n ≤ 100000
/-- The block of a slice that has elements. -/
def rowB : Value → Option Nat
  | .slice (some x) n _ => if n = 0 then none else some x.block
  | _ => none
theorem rowB_pos {x : Addr} {n c : Nat} (h : 0 < n) : rowB (.slice (some x) n c) = some x.block := by
  show (if n = 0 then none else some x.block) = _
  rw [if_neg (by omega)]
theorem rowB_is {ao : Option Addr} {n c k : Nat} (h : rowB (.slice ao n c) = some k) : 0 < n ∧ ∃ x, ao = some x ∧ x.block = k := by
  rcases ao with _ | x
  · cases h
  · replace h : (if n = 0 then none else some x.block) = some k := h
    by_cases h0 : n = 0
    · simp [h0] at h
    · simp [h0] at h
      exact ⟨by omega, x, rfl, h⟩
/-- Its blocks. -/
def RF (w : World) (Q : Nat) : Nat → Prop := fun k => k = Q ∨ ∃ vA vL m, w.heap[Q]? = some (.cells #[vA, vL, m] 29 (0, 0)) ∧ (rowB vA = some k ∨ rowB vL = some k)
theorem Rt.lt {w : World} {Q : Nat} {most : Int} {a n : Nat} {sl : Sl} (h : Rt w Q most a n sl) : Q < w.heap.size := by
  obtain ⟨ao, lo, ca, cl, h1, _⟩ := h.ex; exact hp_lt h1
theorem Rt.kept {S : Nat → Prop} {w w' : World} {Q : Nat} {most : Int} {a n : Nat} {sl : Sl} (h : Rt w Q most a n sl) (hk : Kept S w w') (hS : ∀ k, RF w Q k → ¬ S k) : Rt w' Q most a n sl := by
  obtain ⟨ao, lo, ca, cl, h1, h2, h3⟩ := h.ex
  refine ⟨⟨ao, lo, ca, cl, hk.heap h1 (hS Q (.inl rfl)), fun h0 => ?_, fun h0 => ?_⟩, h.bd⟩
  · obtain ⟨bA, rfl, cs, hb, hc⟩ := h2 h0
    exact ⟨bA, rfl, cs, hk.heap hb (hS bA (.inr ⟨_, _, _, h1, .inl (rowB_pos h0)⟩)), hc⟩
  · obtain ⟨bL, rfl, cs, hb, hc⟩ := h3 h0
    exact ⟨bL, rfl, cs, hk.heap hb (hS bL (.inr ⟨_, _, _, h1, .inr (rowB_pos h0)⟩)), hc⟩
/-- Of what kinds they are. -/
theorem Rt.kinds {w : World} {Q : Nat} {most : Int} {a n : Nat} {sl : Sl} (h : Rt w Q most a n sl) : ∀ k, RF w Q k → ∃ c e, w.heap[k]? = some (.cells c e (0, 0)) ∧ (e = 29 ∨ e = 33 ∨ e = 78) := by
  obtain ⟨ao, lo, ca, cl, h1, h2, h3⟩ := h.ex
  rintro k (rfl | ⟨vA, vL, m, e, hb⟩)
  · exact ⟨_, _, h1, .inl rfl⟩
  · rw [h1] at e
    simp only [Option.some.injEq, Obj.cells.injEq, Array.mk.injEq, List.cons.injEq] at e
    obtain ⟨⟨rfl, rfl, _⟩, _⟩ := e
    rcases hb with hb | hb
    · obtain ⟨h0, x, rfl, rfl⟩ := rowB_is hb
      obtain ⟨bA, e, cs, hc, _⟩ := h2 h0
      cases e
      exact ⟨_, _, hc, .inr (.inl rfl)⟩
    · obtain ⟨h0, x, rfl, rfl⟩ := rowB_is hb
      obtain ⟨bL, e, cs, hc, _⟩ := h3 h0
      cases e
      exact ⟨_, _, hc, .inr (.inr rfl)⟩
theorem Rt.fp {w : World} {Q : Nat} {most : Int} {a n : Nat} {sl : Sl} (h : Rt w Q most a n sl) {k : Nat} (hk : RF w Q k) : k < w.heap.size := by
  obtain ⟨c, e, h1, _⟩ := h.kinds k hk
  exact hp_lt h1
theorem Rt.no {w w' : World} {Q : Nat} {most : Int} {a n : Nat} {sl : Sl} (h : Rt w Q most a n sl) (hk : Kept No w w') : Rt w' Q most a n sl := h.kept hk (fun _ _ e => e)
/-- Only its own blocks have turned. -/
structure OwnR (w : World) (Q : Nat) (w' : World) : Prop where
  kp : Kept (RF w Q) w w'
  fp : ∀ k, RF w' Q k → RF w Q k ∨ w.heap.size ≤ k
theorem OwnR.of_no {w w' : World} {Q : Nat} (hk : Kept No w w') (hQ : Q < w.heap.size) : OwnR w Q w' :=
  ⟨hk.no, fun k h => by
    rcases h with rfl | ⟨vA, vL, m, e, h2⟩
    · exact .inl (.inl rfl)
    · rw [hk.block Q hQ id] at e; exact .inl (.inr ⟨_, _, _, e, h2⟩)⟩
theorem OwnR.trans {a b c : World} {Q : Nat} (h : OwnR a Q b) (k : OwnR b Q c) : OwnR a Q c :=
  ⟨h.kp.trans' k.kp h.fp, fun i hi => by
    rcases k.fp i hi with h1 | h1
    · exact h.fp i h1
    · exact .inr (Nat.le_trans h.kp.size h1)⟩

/-- A hasher that knows nothing. -/
abbrev HV : Value := .agg #[.bool false, .slice none 0 0]
/-- The document's table as a pointer. -/
abbrev RP (Q : Nat) : Value := .pointer (some ⟨Q, 0, none⟩)

theorem mask32 (x : Int) (h1 : 0 ≤ x) (h2 : x < 18446744073709551616) : bits .and .u64 x 4294967295 % 4294967296 = x % 4294967296 := by
  rw [u64_and x 4294967295 h1 h2 (by decide) (by decide)]
  have e : x.toNat &&& (4294967295 : Int).toNat = x.toNat % 4294967296 := Nat.and_two_pow_sub_one_eq_mod x.toNat 32
  rw [e]; omega
theorem mixX_bd (t n : Int) : 0 ≤ mixX t n ∧ mixX t n < 18446744073709551616 := by
  unfold mixX; rw [IntKind.wrap_u64]; omega
set_option maxHeartbeats 400000 in
theorem RMix_any (t n : Int) (w : World) :
    Calls Try.prog 89 #[.int .i64 t, .int .i64 n] w fun e w' => e = .returned (.int .u32 (mixV t n)) ∧ w = w' := by
  go_enter Try.func89, Try.ntmps89
  go_wp2
  go_ret
  refine ⟨?_, rfl⟩
  unfold mixV
  rw [← mask32 (mixX t n) (mixX_bd t n).1 (mixX_bd t n).2]
  rfl
set_option maxHeartbeats 1000000 in
theorem RHash_any (t n : Int) (w : World) : Calls Try.prog 81 #[HV, AV t n] w fun e w' => e = .returned (.int .u32 (mixV t n)) ∧ Below w.heap.size w w' := by
  go_enter Try.func81, Try.ntmps81
  go_wp2_with (go_at_call 89; refine (RMix_any _ _ _).mono ?_; rintro e w' ⟨rfl, rfl⟩)
  go_ret
  exact ⟨rfl, ((Below.refl _ _).alloc (Nat.le_refl _) _).alloc (by simp) _⟩

set_option maxHeartbeats 2000000 in
theorem RInArray_any {w : World} {Q : Nat} {most : Int} {a n : Nat} {sl : Sl} (h : Rt w Q most a n sl) (t x : Int) :
    Calls Try.prog 65 #[RP Q, AV t x] w fun e w' => e = .returned (.bool (inArr a (t, x))) ∧ Kept No w w' := by
  obtain ⟨ao, lo, ca, cl, h1, _⟩ := h.ex
  have hlt := hp_lt h1
  have hb := h.bd
  have k0 : Kept No w (w.alloc (.cells #[.int .i64 t, .int .i64 x] 33)) := (Kept.refl _ _).alloc _
  have e1 := k0.heap h1 id
  have c0 : (w.alloc (.cells #[.int .i64 t, .int .i64 x] 33)).cell? ⟨Q, 0, none⟩ = some (.slice ao a ca) := by rw [cell_of e1]; rfl
  have b0 := heap_new1 w (.cells #[.int .i64 t, .int .i64 x] 33)
  have c1 : (w.alloc (.cells #[.int .i64 t, .int .i64 x] 33)).cell? ⟨w.heap.size, 0, none⟩ = some (.int .i64 t) := by rw [cell_of b0]; rfl
  have c2 : (w.alloc (.cells #[.int .i64 t, .int .i64 x] 33)).cell? ⟨w.heap.size, 1, none⟩ = some (.int .i64 x) := by rw [cell_of b0]; rfl
  have HK : Hid (∀ q, Kept No w ((w.alloc (.cells #[.int .i64 t, .int .i64 x] 33)).drewN q)) := fun q => k0.drewN q
  clear h h1 e1 b0 k0
  unfold inArr
  simp only
  cases ht : (t == 2)
  · rw [Bool.false_and]
    go_enter Try.func65, Try.ntmps65
    go_wp2
    generalize w.alloc _ = W at HK c0 c1 c2 ⊢
    go_quiet (fail)
    go_wp2
    go_ret
    exact ⟨rfl, HK.out _⟩
  · cases hx : decide (1 ≤ x)
    · rw [Bool.true_and, Bool.false_and]
      go_enter Try.func65, Try.ntmps65
      go_wp2
      generalize w.alloc _ = W at HK c0 c1 c2 ⊢
      go_quiet (fail)
      go_wp2
      go_ret
      exact ⟨rfl, HK.out _⟩
    · cases hx2 : decide (x ≤ (a : Int))
      · rw [Bool.true_and, Bool.true_and]
        go_enter Try.func65, Try.ntmps65
        go_wp2
        generalize w.alloc _ = W at HK c0 c1 c2 ⊢
        go_quiet (fail)
        go_wp2
        go_ret
        exact ⟨rfl, HK.out _⟩
      · rw [Bool.true_and, Bool.true_and]
        go_enter Try.func65, Try.ntmps65
        go_wp2
        generalize w.alloc _ = W at HK c0 c1 c2 ⊢
        go_quiet (fail)
        go_wp2
        go_ret
        exact ⟨rfl, HK.out _⟩
end Go.Proofs.Ythefmfjlinpepaa

/- The document's Find. -/
namespace Go.Proofs.Ythefmfjlinpepaa
open Go.RowKit Go.Shelf
set_option linter.unusedSimpArgs false
set_option linter.unusedVariables false
attribute [local go_sem] Oper.semAt_some

/-- The node of the i-th step of a key's way. -/
def wayM (n : Nat) (k : Int × Int) (i : Nat) : Nat := (fst0 n k + i) % n
/-- The document's Find: the key's node, or the free one. -/
def fd (a n : Nat) (sl : Sl) (k : Int × Int) : Nat → Nat → Int × Int
  | 0, _ => (-1, -1)
  | f + 1, i => if sl ((a : Int) + 2 * (wayM n k i : Int)) = k then ((wayM n k i : Int), -1) else if (sl ((a : Int) + 2 * (wayM n k i : Int))).1 = 0 then (-1, (wayM n k i : Int)) else fd a n sl k f (i + 1)
theorem fd_fnd (a n : Nat) (sl : Sl) (k : Int × Int) (hn : 0 < n) : ∀ f i, (∃ m : Nat, m < n ∧ fnd a n sl k f i = ((a : Int) + 2 * (m : Int) + 1, true) ∧ fd a n sl k f i = ((m : Int), -1)) ∨ (∃ m : Nat, m < n ∧ fnd a n sl k f i = ((a : Int) + 2 * (m : Int) + 1, false) ∧ fd a n sl k f i = (-1, (m : Int))) ∨ (fnd a n sl k f i = (-1, false) ∧ fd a n sl k f i = (-1, -1)) := by
  intro f
  induction f with
  | zero => intro i; exact .inr (.inr ⟨rfl, rfl⟩)
  | succ f ih =>
    intro i
    have hm := Nat.mod_lt (fst0 n k + i) hn
    have hw : ((wayN a n k i : Nat) : Int) = (a : Int) + 2 * (wayM n k i : Int) := by unfold wayN wayM; omega
    unfold fnd fd
    rw [hw]
    split
    · exact .inl ⟨wayM n k i, hm, rfl, rfl⟩
    · split
      · exact .inr (.inl ⟨wayM n k i, hm, rfl, rfl⟩)
      · exact ih (i + 1)
/-- .. as a whole. -/
def fdR (a n : Nat) (sl : Sl) (k : Int × Int) : Int × Int := fd a n sl k n 0
theorem fdR_is (a n : Nat) (sl : Sl) (k : Int × Int) : (∃ m : Nat, m < n ∧ fnd a n sl k n 0 = ((a : Int) + 2 * (m : Int) + 1, true) ∧ fdR a n sl k = ((m : Int), -1)) ∨ (∃ m : Nat, m < n ∧ fnd a n sl k n 0 = ((a : Int) + 2 * (m : Int) + 1, false) ∧ fdR a n sl k = (-1, (m : Int))) ∨ (fnd a n sl k n 0 = (-1, false) ∧ fdR a n sl k = (-1, -1)) := by
  unfold fdR
  rcases Nat.eq_zero_or_pos n with hn | hn
  · subst hn; exact .inr (.inr ⟨rfl, rfl⟩)
  · exact fd_fnd a n sl k hn n 0
theorem fd_step {a n : Nat} {sl : Sl} {k : Int × Int} : ∀ j, j ≤ n → (∀ i, i < j → sl ((a : Int) + 2 * (wayM n k i : Int)) ≠ k ∧ (sl ((a : Int) + 2 * (wayM n k i : Int))).1 ≠ 0) → fdR a n sl k = fd a n sl k (n - j) j
  | 0, _, _ => rfl
  | j + 1, hj, hp => by
    rw [fd_step j (by omega) (fun i hi => hp i (by omega)), show n - j = (n - (j + 1)) + 1 by omega]
    have h := hp j (by omega)
    conv => lhs; unfold fd
    rw [if_neg h.1, if_neg h.2]

set_option maxRecDepth 20000 in
set_option maxHeartbeats 4000000 in
theorem RFind_any {w : World} {Q : Nat} {most : Int} {a n : Nat} {sl : Sl} (h : Rt w Q most a n sl) (k1 k2 : Int) :
    Calls Try.prog 66 #[RP Q, HV, AV k1 k2] w fun e w' => e = .returned (.tuple #[.int .i64 (fdR a n sl (k1, k2)).1, .int .i64 (fdR a n sl (k1, k2)).2]) ∧ Kept No w w' := by
  obtain ⟨ao, lo, ca, cl, h1, _, h3⟩ := h.ex
  obtain ⟨hb1, hb2⟩ := h.bd
  have hlt := hp_lt h1
  obtain ⟨W0, HW0⟩ : ∃ W0, Hid (W0 = (w.alloc (.cells #[.bool false, .slice none 0 0] 70)).alloc (.cells #[.int .i64 k1, .int .i64 k2] 33)) := ⟨_, show _ = _ from rfl⟩
  have HK0 : Hid (Kept No w W0) := by show Kept _ _ _; rw [HW0.out]; exact ((Kept.refl _ _).alloc _).alloc _
  have HCl : Hid (∀ W, Kept No W0 W → W.cell? ⟨Q, 1, none⟩ = some (.slice lo n cl) ∧ (W.cell? ⟨w.heap.size, 0, none⟩ = some (.bool false) ∧ W.cell? ⟨w.heap.size, 1, none⟩ = some (.slice none 0 0)) ∧ W.cell? ⟨w.heap.size + 1, 0, none⟩ = some (.int .i64 k1) ∧ W.cell? ⟨w.heap.size + 1, 1, none⟩ = some (.int .i64 k2)) := by
    intro W hW
    have e1 := hW.heap (HK0.out.heap h1 id) id
    have e2 : W0.heap[w.heap.size]? = some (.cells #[.bool false, .slice none 0 0] 70 (0, 0)) := by rw [HW0.out]; exact heap_old (heap_new1 _ _) _
    have e3 : W0.heap[w.heap.size + 1]? = some (.cells #[.int .i64 k1, .int .i64 k2] 33 (0, 0)) := by
      rw [HW0.out]; have := heap_new1 (w.alloc (.cells #[.bool false, .slice none 0 0] 70)) (.cells #[.int .i64 k1, .int .i64 k2] 33); rw [World.size_alloc] at this; exact this
    have e2' := hW.heap e2 id
    have e3' := hW.heap e3 id
    refine ⟨?_, ⟨?_, ?_⟩, ?_, ?_⟩
    · rw [cell_of e1]; rfl
    · rw [cell_of e2']; rfl
    · rw [cell_of e2']; rfl
    · rw [cell_of e3']; rfl
    · rw [cell_of e3']; rfl
  have HL : Hid (0 < n → ∃ bL, lo = some ⟨bL, 0, none⟩ ∧ ∀ W, Kept No W0 W → ∀ i : Nat, i < n → W.cell? ⟨bL, i * 4, none⟩ = some (.int .i64 (sl ((a : Int) + 2 * (i : Int))).1) ∧ W.cell? ⟨bL, i * 4 + 1, none⟩ = some (.int .i64 (sl ((a : Int) + 2 * (i : Int))).2)) := by
    intro h0
    obtain ⟨bL, e1, cs, hb, hc⟩ := h3 h0
    refine ⟨bL, e1, fun W hW i hi => ?_⟩
    have hb' := hW.heap (HK0.out.heap hb id) id
    obtain ⟨⟨g0, g1⟩, _⟩ := hc i hi
    exact ⟨by rw [cell_of hb']; exact g0, by rw [cell_of hb']; exact g1⟩
  have HH : Hid (∀ W, Calls Try.prog 81 #[HV, AV k1 k2] W fun e w' => e = .returned (.int .u32 (mixV k1 k2)) ∧ Below W.heap.size W w') := fun W => RHash_any k1 k2 W
  have hmx := mixV_bd k1 k2
  have HFd : Hid (∀ m, fst0 n (k1, k2) = m → m = (mixV k1 k2).toNat % n) := fun m e => e.symm
  obtain ⟨Hh, hHh⟩ : ∃ Hh : Nat, mixV k1 k2 = (Hh : Int) := ⟨(mixV k1 k2).toNat, by omega⟩
  have hHb : Hh < 4294967296 := by omega
  have HF0 : Hid (fst0 n (k1, k2) = Hh % n) := by show _ = _; unfold fst0; rw [hHh]; rfl
  rw [hHh] at HH
  clear h h1 h3 hmx HFd hHh
  go_enter Try.func66, Try.ntmps66
  obtain ⟨q0, ⟨q1, q2⟩, q3, q4⟩ := HCl.out W0 (Kept.refl _ _)
  rw [HW0.out] at q0
  go_wp2_with fail
  rw [← HW0.out]
  clear q0 q1 q2 q3 q4 HW0
  go_loopw [9] (fun i wr => ∃ j : Nat, j ≤ n ∧ i = .int .i64 j ∧ Hid (Kept No W0 wr) ∧ Hid (∀ i, i < j → sl ((a : Int) + 2 * (wayM n (k1, k2) i : Int)) ≠ (k1, k2) ∧ (sl ((a : Int) + 2 * (wayM n (k1, k2) i : Int))).1 ≠ 0)) (fun i _ => n - (intOf i).toNat)
  case atStart => exact ⟨0, Nat.zero_le _, rfl, Kept.refl _ _, fun i hi => absurd hi (by omega)⟩
  case round =>
    obtain ⟨j, hj, rfl, HK, HPs⟩ := hrel
    by_cases hlj : j < n
    · have kj : (j : Int) < (n : Int) := by omega
      have hn1 : 0 < n := by omega
      have hn0 : ¬ ((n : Int) == 0) = true := by simp; omega
      obtain ⟨f0, hf0⟩ : ∃ f0, Hh % n = f0 := ⟨_, rfl⟩
      have hf1 : f0 < n := by rw [← hf0]; exact Nat.mod_lt _ hn1
      have e1 : (Hh : Int).tmod (n : Int) = (f0 : Int) := by rw [Int.tmod_eq_emod_of_nonneg (by omega), ← Int.natCast_emod, hf0]
      obtain ⟨m, hm⟩ : ∃ m, (f0 + j) % n = m := ⟨_, rfl⟩
      have hm1 : m < n := by rw [← hm]; exact Nat.mod_lt _ hn1
      have e3 : ((f0 : Int) + (j : Int)).tmod (n : Int) = (m : Int) := by
        rw [Int.tmod_eq_emod_of_nonneg (by omega), ← Int.natCast_add, ← Int.natCast_emod, hm]
      have HWm : Hid (wayM n (k1, k2) j = m) := by show _ = _; unfold wayM; rw [HF0.out, hf0, hm]
      clear hm hf0
      obtain ⟨q0, ⟨q1, q2⟩, q3, q4⟩ := HCl.out _ HK.out
      go_wp2_with fail
      refine (HH.out _).mono ?_
      rintro e w2 ⟨rfl, hb2'⟩
      have HK2 : Hid (Kept No W0 w2) := HK.out.trans (Kept.of_below hb2')
      clear hb2' q0 q1 q2 q3 q4 HK
      obtain ⟨bL, rfl, hcl⟩ := HL.out hn1
      obtain ⟨g0, g1⟩ := hcl _ HK2.out m hm1
      obtain ⟨q0, _, q3, q4⟩ := HCl.out _ HK2.out
      have HKq : Hid (∀ q, Kept No W0 (w2.drewN q)) := fun q => HK2.out.drewN q
      have HCq : Hid (∀ q, (w2.drewN q).cell? ⟨bL, m * 4, none⟩ = some (.int .i64 (sl ((a : Int) + 2 * (m : Int))).1) ∧ (w2.drewN q).cell? ⟨Q, 1, none⟩ = some (.slice (some ⟨bL, 0, none⟩) n cl)) := fun q => ⟨(hcl _ (HKq.out q) m hm1).1, (HCl.out _ (HKq.out q)).1⟩
      have HFd : Hid (fdR a n sl (k1, k2) = fd a n sl (k1, k2) (n - j) j) := fd_step j hj HPs.out
      have HSt : Hid (fd a n sl (k1, k2) (n - j) j = if sl ((a : Int) + 2 * (m : Int)) = (k1, k2) then ((m : Int), -1) else if (sl ((a : Int) + 2 * (m : Int))).1 = 0 then (-1, (m : Int)) else fd a n sl (k1, k2) (n - (j + 1)) (j + 1)) := by
        show _ = _
        rw [show n - j = (n - (j + 1)) + 1 by omega]
        conv => lhs; unfold fd
        rw [HWm.out]
      have HNx : Hid (sl ((a : Int) + 2 * (m : Int)) ≠ (k1, k2) → (sl ((a : Int) + 2 * (m : Int))).1 ≠ 0 → ∀ i, i < j + 1 → sl ((a : Int) + 2 * (wayM n (k1, k2) i : Int)) ≠ (k1, k2) ∧ (sl ((a : Int) + 2 * (wayM n (k1, k2) i : Int))).1 ≠ 0) := by
        intro z1 z2 i hi
        rcases Nat.lt_or_ge i j with hij | hij
        · exact HPs.out i hij
        · obtain rfl : i = j := by omega
          rw [HWm.out]; exact ⟨z1, z2⟩
      clear hcl HPs HWm
      generalize sl ((a : Int) + 2 * (m : Int)) = x at g0 g1 HCq HSt HNx
      obtain ⟨x1, x2⟩ := x
      simp only at g0 g1 HCq
      have m0 : (0 : Int) ≤ (m : Int) := by omega
      have mn : (m : Int) < (n : Int) := by omega
      by_cases hq : (x1, x2) = (k1, k2)
      · have heq : ∀ w, (Op.equalIn 10000 33 (.agg #[.int .i64 x1, .int .i64 x2]) (.agg #[.int .i64 k1, .int .i64 k2])).run Try.prog w = .ok true w := fun w => (eq33 x1 x2 k1 k2 w).trans (by rw [decide_eq_true hq])
        have HR : Hid (fdR a n sl (k1, k2) = ((m : Int), -1)) := by show _ = _; rw [HFd.out, HSt.out, if_pos hq]
        clear hq HFd HSt HNx
        go_wp2_with fail
        go_quiet (fail)
        go_wp2
        go_ret2
        exact ⟨by rw [HR.out]; rfl, HK0.out.trans (HKq.out _)⟩
      · have heq : ∀ w, (Op.equalIn 10000 33 (.agg #[.int .i64 x1, .int .i64 x2]) (.agg #[.int .i64 k1, .int .i64 k2])).run Try.prog w = .ok false w := fun w => (eq33 x1 x2 k1 k2 w).trans (by rw [decide_eq_false hq])
        go_wp2_with fail
        go_quiet (fail)
        obtain ⟨g0', q0'⟩ := HCq.out nq
        have HK3 : Hid (Kept No W0 (w2.drewN nq)) := HKq.out nq
        clear g0 g1 q0 q3 q4 heq HKq HCq
        generalize w2.drewN nq = w3 at g0' q0' HK3 ⊢
        cases hx0 : (x1 == 0)
        · have HNx2 := HNx.out hq (by simpa using hx0)
          have HNx3 : Hid _ := HNx2
          clear HFd HSt HNx HNx2 hq
          go_wp2
          go_roundw
          case rel => exact ⟨j + 1, by omega, by go_num, HK3.out, HNx3.out⟩
          case measure => simp [intOf]; omega
        · have HR : Hid (fdR a n sl (k1, k2) = (-1, (m : Int))) := by show _ = _; rw [HFd.out, HSt.out, if_neg hq, if_pos (by simpa using hx0)]
          clear HFd HSt HNx hq
          go_wp2
          go_ret2
          exact ⟨by rw [HR.out]; rfl, HK0.out.trans HK3.out⟩
    · have kj : ¬ (j : Int) < (n : Int) := by omega
      have HR : Hid (fdR a n sl (k1, k2) = (-1, -1)) := by
        show _ = _
        rw [fd_step j hj HPs.out, show n - j = 0 by omega]; rfl
      have HE : Hid (Kept No w wr) := HK0.out.trans HK.out
      go_wp2
      go_ret2
      exact ⟨by rw [HR.out]; rfl, HE.out⟩
end Go.Proofs.Ythefmfjlinpepaa

/- The document's Put. -/
namespace Go.Proofs.Ythefmfjlinpepaa
open Go.RowKit Go.Shelf
set_option linter.unusedSimpArgs false
set_option linter.unusedVariables false
attribute [local go_sem] Oper.semAt_some

theorem set2_get {cs : Array Value} {o : Nat} {x y u v : Value} (h0 : cs[o]? = some u) (h1 : cs[o + 1]? = some v) (t : Nat) : ((cs.setIfInBounds o x).setIfInBounds (o + 1) y)[t]? = if t = o + 1 then some y else if t = o then some x else cs[t]? := by
  have hs1 : o + 1 < cs.size := (Array.getElem?_eq_some_iff.1 h1).1
  rw [Array.getElem?_setIfInBounds]
  by_cases h : o + 1 = t
  · subst h
    rw [if_pos rfl, if_pos rfl, if_pos (by simpa using hs1)]
  · rw [if_neg h, if_neg (fun e => h e.symm), Array.getElem?_setIfInBounds]
    by_cases h2 : o = t
    · subst h2
      rw [if_pos rfl, if_pos rfl, if_pos (by omega)]
    · rw [if_neg h2, if_neg (fun e => h2 e.symm)]

/-- Two cells are written. -/
def wr2 (b o : Nat) (x y : Value) (w : World) : World := (w.setCell ⟨b, o, none⟩ x).setCell ⟨b, o + 1, none⟩ y
theorem wr2_kept (b o : Nat) (x y : Value) (w : World) : Kept (fun k => k = b) w (wr2 b o x y w) := ((Kept.refl (fun k => k = b) w).set _ _ _ (.inl rfl)).set _ _ _ (.inl rfl)
theorem wr2_at {b o : Nat} {x y : Value} {w : World} {cs : Array Value} {e : TypeId} (h : w.heap[b]? = some (.cells cs e (0, 0))) : (wr2 b o x y w).heap[b]? = some (.cells ((cs.setIfInBounds o x).setIfInBounds (o + 1) y) e (0, 0)) := hp_set_same (hp_set_same h o x) (o + 1) y

/-- What lies in the blocks of a document's table. -/
structure RB (w : World) (Q : Nat) (most : Int) (a n : Nat) (sl : Sl) (ao lo : Option Addr) (ca cl : Nat) : Prop where
  hd : w.heap[Q]? = some (.cells #[.slice ao a ca, .slice lo n cl, .int .i64 most] 29 (0, 0))
  ar : 0 < a → ∃ bA, ao = some ⟨bA, 0, none⟩ ∧ ∃ cs, w.heap[bA]? = some (.cells cs 33 (0, 0)) ∧ ∀ i : Nat, i < a → cs[i * 2]? = some (.int .i64 (sl (i : Int)).1) ∧ cs[i * 2 + 1]? = some (.int .i64 (sl (i : Int)).2)
  nd : 0 < n → ∃ bL, lo = some ⟨bL, 0, none⟩ ∧ ∃ cs, w.heap[bL]? = some (.cells cs 78 (0, 0)) ∧ ∀ i : Nat, i < n → (cs[i * 4]? = some (.int .i64 (sl ((a : Int) + 2 * (i : Int))).1) ∧ cs[i * 4 + 1]? = some (.int .i64 (sl ((a : Int) + 2 * (i : Int))).2)) ∧ cs[i * 4 + 2]? = some (.int .i64 (sl ((a : Int) + 2 * (i : Int) + 1)).1) ∧ cs[i * 4 + 3]? = some (.int .i64 (sl ((a : Int) + 2 * (i : Int) + 1)).2)
  bd : a ≤ 100000 ∧ n ≤ 100000
theorem Rt.rb {w : World} {Q : Nat} {most : Int} {a n : Nat} {sl : Sl} (h : Rt w Q most a n sl) : ∃ ao lo ca cl, RB w Q most a n sl ao lo ca cl := by
  obtain ⟨ao, lo, ca, cl, h1, h2, h3⟩ := h.ex
  exact ⟨ao, lo, ca, cl, h1, h2, h3, h.bd⟩
theorem RB.rt {w : World} {Q : Nat} {most : Int} {a n : Nat} {sl : Sl} {ao lo : Option Addr} {ca cl : Nat} (h : RB w Q most a n sl ao lo ca cl) : Rt w Q most a n sl := ⟨⟨ao, lo, ca, cl, h.hd, h.ar, h.nd⟩, h.bd⟩
section
variable {w : World} {Q : Nat} {most : Int} {a n : Nat} {sl : Sl} {lo ao : Option Addr} {ca cl : Nat}
theorem RB.no {w' : World} (h : RB w Q most a n sl ao lo ca cl) (hk : Kept No w w') : RB w' Q most a n sl ao lo ca cl := by
  refine ⟨hk.heap h.hd id, fun h0 => ?_, fun h0 => ?_, h.bd⟩
  · obtain ⟨bA, e, cs, hb, hc⟩ := h.ar h0
    exact ⟨bA, e, cs, hk.heap hb id, hc⟩
  · obtain ⟨bL, e, cs, hb, hc⟩ := h.nd h0
    exact ⟨bL, e, cs, hk.heap hb id, hc⟩
theorem RB.ownA {bA : Nat} {w' : World} (h : RB w Q most a n sl (some ⟨bA, 0, none⟩) lo ca cl) (hk : Kept (fun k => k = bA) w w') (hQ : bA ≠ Q) (h0 : 0 < a) : OwnR w Q w' := by
  refine ⟨hk.mono (fun k e => .inr ⟨_, _, _, h.hd, .inl (by rw [e]; exact rowB_pos h0)⟩), fun k hk' => ?_⟩
  rcases hk' with rfl | ⟨vA, vL, m, e, h2⟩
  · exact .inl (.inl rfl)
  · rw [hk.block Q (hp_lt h.hd) (fun e => hQ e.symm)] at e; exact .inl (.inr ⟨_, _, _, e, h2⟩)
theorem RB.ownL {bL : Nat} {w' : World} (h : RB w Q most a n sl ao (some ⟨bL, 0, none⟩) ca cl) (hk : Kept (fun k => k = bL) w w') (hQ : bL ≠ Q) (h0 : 0 < n) : OwnR w Q w' := by
  refine ⟨hk.mono (fun k e => .inr ⟨_, _, _, h.hd, .inr (by rw [e]; exact rowB_pos h0)⟩), fun k hk' => ?_⟩
  rcases hk' with rfl | ⟨vA, vL, m, e, h2⟩
  · exact .inl (.inl rfl)
  · rw [hk.block Q (hp_lt h.hd) (fun e => hQ e.symm)] at e; exact .inl (.inr ⟨_, _, _, e, h2⟩)
/-- An array slot is written. -/
theorem RB.setA {bA : Nat} (h : RB w Q most a n sl (some ⟨bA, 0, none⟩) lo ca cl) {i : Nat} (hi : i < a) (v : Int × Int) : RB (wr2 bA (i * 2) (.int .i64 v.1) (.int .i64 v.2) w) Q most a n (sput sl (i : Int) v) (some ⟨bA, 0, none⟩) lo ca cl ∧ OwnR w Q (wr2 bA (i * 2) (.int .i64 v.1) (.int .i64 v.2) w) := by
  have hk := wr2_kept bA (i * 2) (.int .i64 v.1) (.int .i64 v.2) w
  obtain ⟨bA', e, cs, hb, hc⟩ := h.ar (by omega)
  cases e
  have hQ : bA ≠ Q := fun e => by rw [e, h.hd] at hb; cases hb
  refine ⟨⟨hk.heap h.hd (fun e => hQ e.symm), fun _ => ⟨bA, rfl, _, wr2_at hb, fun j hj => ?_⟩, fun h0 => ?_, h.bd⟩, h.ownA hk hQ (by omega)⟩
  · obtain ⟨g0, g1⟩ := hc i hi
    rw [set2_get g0 g1, set2_get g0 g1]
    by_cases hij : j = i
    · subst hij
      rw [sput_same, if_neg (by omega), if_pos rfl, if_pos rfl]; exact ⟨rfl, rfl⟩
    · rw [sput_ne (by omega), if_neg (by omega), if_neg (by omega), if_neg (by omega), if_neg (by omega)]
      exact hc j hj
  · obtain ⟨bL, e, cs2, hb2, hc2⟩ := h.nd h0
    refine ⟨bL, e, cs2, hk.heap hb2 (fun e => by rw [e, hb] at hb2; cases hb2), fun j hj => ?_⟩
    rw [sput_ne (by omega), sput_ne (by omega)]
    exact hc2 j hj
/-- A node's value is written. -/
theorem RB.setV {bL : Nat} (h : RB w Q most a n sl ao (some ⟨bL, 0, none⟩) ca cl) {m : Nat} (hm : m < n) (v : Int × Int) : RB (wr2 bL (m * 4 + 2) (.int .i64 v.1) (.int .i64 v.2) w) Q most a n (sput sl ((a : Int) + 2 * (m : Int) + 1) v) ao (some ⟨bL, 0, none⟩) ca cl ∧ OwnR w Q (wr2 bL (m * 4 + 2) (.int .i64 v.1) (.int .i64 v.2) w) := by
  have hk := wr2_kept bL (m * 4 + 2) (.int .i64 v.1) (.int .i64 v.2) w
  obtain ⟨bL', e, cs, hb, hc⟩ := h.nd (by omega)
  cases e
  have hQ : bL ≠ Q := fun e => by rw [e, h.hd] at hb; cases hb
  refine ⟨⟨hk.heap h.hd (fun e => hQ e.symm), fun h0 => ?_, fun _ => ⟨bL, rfl, _, wr2_at hb, fun j hj => ?_⟩, h.bd⟩, h.ownL hk hQ (by omega)⟩
  · obtain ⟨bA, e, cs2, hb2, hc2⟩ := h.ar h0
    refine ⟨bA, e, cs2, hk.heap hb2 (fun e => by rw [e, hb] at hb2; cases hb2), fun j hj => ?_⟩
    rw [sput_ne (by omega)]
    exact hc2 j hj
  · obtain ⟨⟨g0, g1⟩, g2, g3⟩ := hc m hm
    rw [set2_get g2 g3, set2_get g2 g3, set2_get g2 g3, set2_get g2 g3]
    by_cases hij : j = m
    · subst hij
      rw [sput_same, sput_ne (by omega)]
      rw [if_neg (by omega), if_neg (by omega), if_neg (by omega), if_neg (by omega), if_neg (by omega), if_pos rfl, if_pos rfl]
      exact ⟨⟨g0, g1⟩, rfl, rfl⟩
    · rw [sput_ne (by omega), sput_ne (by omega)]
      rw [if_neg (by omega), if_neg (by omega), if_neg (by omega), if_neg (by omega), if_neg (by omega), if_neg (by omega), if_neg (by omega), if_neg (by omega)]
      exact hc j hj
/-- A node is written. -/
theorem RB.setK {bL : Nat} (h : RB w Q most a n sl ao (some ⟨bL, 0, none⟩) ca cl) {m : Nat} (hm : m < n) (k : Int × Int) : RB (wr2 bL (m * 4) (.int .i64 k.1) (.int .i64 k.2) w) Q most a n (sput sl ((a : Int) + 2 * (m : Int)) k) ao (some ⟨bL, 0, none⟩) ca cl ∧ OwnR w Q (wr2 bL (m * 4) (.int .i64 k.1) (.int .i64 k.2) w) := by
  have hk := wr2_kept bL (m * 4) (.int .i64 k.1) (.int .i64 k.2) w
  obtain ⟨bL', e, cs, hb, hc⟩ := h.nd (by omega)
  cases e
  have hQ : bL ≠ Q := fun e => by rw [e, h.hd] at hb; cases hb
  refine ⟨⟨hk.heap h.hd (fun e => hQ e.symm), fun h0 => ?_, fun _ => ⟨bL, rfl, _, wr2_at hb, fun j hj => ?_⟩, h.bd⟩, h.ownL hk hQ (by omega)⟩
  · obtain ⟨bA, e, cs2, hb2, hc2⟩ := h.ar h0
    refine ⟨bA, e, cs2, hk.heap hb2 (fun e => by rw [e, hb] at hb2; cases hb2), fun j hj => ?_⟩
    rw [sput_ne (by omega)]
    exact hc2 j hj
  · obtain ⟨⟨g0, g1⟩, g2, g3⟩ := hc m hm
    rw [set2_get g0 g1, set2_get g0 g1, set2_get g0 g1, set2_get g0 g1]
    by_cases hij : j = m
    · subst hij
      rw [sput_same, sput_ne (by omega)]
      rw [if_neg (by omega), if_pos rfl, if_pos rfl, if_neg (by omega), if_neg (by omega), if_neg (by omega), if_neg (by omega)]
      exact ⟨⟨rfl, rfl⟩, g2, g3⟩
    · rw [sput_ne (by omega), sput_ne (by omega)]
      rw [if_neg (by omega), if_neg (by omega), if_neg (by omega), if_neg (by omega), if_neg (by omega), if_neg (by omega), if_neg (by omega), if_neg (by omega)]
      exact hc j hj
end

set_option maxRecDepth 20000 in
set_option maxHeartbeats 4000000 in
theorem RPut_any {w : World} {Q : Nat} {most : Int} {a n : Nat} {sl : Sl} (h : Rt w Q most a n sl) (k1 k2 v1 v2 : Int) (hk2 : I64 k2) :
    Calls Try.prog 64 #[RP Q, HV, AV k1 k2, AV v1 v2] w fun e w' => e = .returned (.bool (putR a n sl (k1, k2) (v1, v2)).1) ∧ Rt w' Q most a n (putR a n sl (k1, k2) (v1, v2)).2 ∧ OwnR w Q w' := by
  have HT : Hid (Rt w Q most a n sl) := h
  obtain ⟨hb1, hb2⟩ := h.bd
  have hlt := h.lt
  obtain ⟨W0, HW0⟩ : ∃ W0, Hid (W0 = ((w.alloc (.cells #[.bool false, .slice none 0 0] 70)).alloc (.cells #[.int .i64 k1, .int .i64 k2] 33)).alloc (.cells #[.int .i64 v1, .int .i64 v2] 33)) := ⟨_, show _ = _ from rfl⟩
  have HK0 : Hid (Kept No w W0) := by show Kept _ _ _; rw [HW0.out]; exact (((Kept.refl _ _).alloc _).alloc _).alloc _
  have HCl : Hid (∀ W, Kept No W0 W → (W.cell? ⟨w.heap.size, 0, none⟩ = some (.bool false) ∧ W.cell? ⟨w.heap.size, 1, none⟩ = some (.slice none 0 0)) ∧ (W.cell? ⟨w.heap.size + 1, 0, none⟩ = some (.int .i64 k1) ∧ W.cell? ⟨w.heap.size + 1, 1, none⟩ = some (.int .i64 k2)) ∧ W.cell? ⟨w.heap.size + 2, 0, none⟩ = some (.int .i64 v1) ∧ W.cell? ⟨w.heap.size + 2, 1, none⟩ = some (.int .i64 v2)) := by
    intro W hW
    have e2 : W0.heap[w.heap.size]? = some (.cells #[.bool false, .slice none 0 0] 70 (0, 0)) := by rw [HW0.out]; exact heap_old (heap_old (heap_new1 _ _) _) _
    have e3 : W0.heap[w.heap.size + 1]? = some (.cells #[.int .i64 k1, .int .i64 k2] 33 (0, 0)) := by
      rw [HW0.out]; have := heap_new1 (w.alloc (.cells #[.bool false, .slice none 0 0] 70)) (.cells #[.int .i64 k1, .int .i64 k2] 33); rw [World.size_alloc] at this; exact heap_old this _
    have e4 : W0.heap[w.heap.size + 2]? = some (.cells #[.int .i64 v1, .int .i64 v2] 33 (0, 0)) := by
      rw [HW0.out]; have := heap_new1 ((w.alloc (.cells #[.bool false, .slice none 0 0] 70)).alloc (.cells #[.int .i64 k1, .int .i64 k2] 33)) (.cells #[.int .i64 v1, .int .i64 v2] 33); simp only [World.size_alloc] at this; exact this
    have e2' := hW.heap e2 id
    have e3' := hW.heap e3 id
    have e4' := hW.heap e4 id
    refine ⟨⟨?_, ?_⟩, ⟨?_, ?_⟩, ?_, ?_⟩
    · rw [cell_of e2']; rfl
    · rw [cell_of e2']; rfl
    · rw [cell_of e3']; rfl
    · rw [cell_of e3']; rfl
    · rw [cell_of e4']; rfl
    · rw [cell_of e4']; rfl
  have HIn : Hid (∀ W, Kept No W0 W → Calls Try.prog 65 #[RP Q, AV k1 k2] W fun e w' => e = .returned (.bool (inArr a (k1, k2))) ∧ Kept No W0 w') := fun W hW => (RInArray_any (HT.out.no (HK0.out.trans hW)) k1 k2).mono (fun e w' hh => ⟨hh.1, hW.trans hh.2⟩)
  have HFi : Hid (∀ W, Kept No W0 W → Calls Try.prog 66 #[RP Q, HV, AV k1 k2] W fun e w' => e = .returned (.tuple #[.int .i64 (fdR a n sl (k1, k2)).1, .int .i64 (fdR a n sl (k1, k2)).2]) ∧ Kept No W0 w') := fun W hW => (RFind_any (HT.out.no (HK0.out.trans hW)) k1 k2).mono (fun e w' hh => ⟨hh.1, hW.trans hh.2⟩)
  have HRB : Hid (∀ W, Kept No W0 W → Rt W Q most a n sl) := fun W hW => HT.out.no (HK0.out.trans hW)
  have HOw : Hid (∀ W W', Kept No W0 W → OwnR W Q W' → OwnR w Q W') := fun W W' hW ho => (OwnR.of_no (HK0.out.trans hW) hlt).trans ho
  clear h
  go_enter Try.func64, Try.ntmps64
  obtain ⟨_, ⟨q3, q4⟩, _⟩ := HCl.out W0 (Kept.refl _ _)
  rw [HW0.out] at q3 q4
  go_wp2_with fail
  rw [← HW0.out]
  clear q3 q4 HW0
  refine (HIn.out _ (Kept.refl _ _)).mono ?_
  rintro e w1 ⟨rfl, hk1⟩
  have HK1 : Hid (Kept No W0 w1) := hk1
  clear hk1 HIn
  cases hi : inArr a (k1, k2)
  case true =>
    obtain ⟨i1, i2, i3⟩ : k1 = 2 ∧ 1 ≤ k2 ∧ k2 ≤ (a : Int) := by simpa [inArr] using hi
    obtain ⟨i, rfl⟩ : ∃ i : Nat, k2 = (i : Int) + 1 := ⟨(k2 - 1).toNat, by omega⟩
    have hia : i < a := by omega
    have HPu : Hid (putR a n sl (k1, (i : Int) + 1) (v1, v2) = (true, sput sl (i : Int) (v1, v2))) := by
      show _ = _
      unfold putR findR
      rw [hi]
      simp
    obtain ⟨ao, lo, ca, cl, hR⟩ := (HRB.out _ HK1.out).rb
    obtain ⟨bA, rfl, cs, hbA, hcs⟩ := hR.ar (by omega)
    have HRq : Hid (∀ q, RB (w1.drewN q) Q most a n sl (some ⟨bA, 0, none⟩) lo ca cl ∧ Kept No W0 (w1.drewN q)) := fun q => ⟨hR.no ((Kept.refl _ _).drewN q), HK1.out.drewN q⟩
    have r0 : w1.cell? ⟨Q, 0, none⟩ = some (.slice (some ⟨bA, 0, none⟩) a ca) := by rw [cell_of hR.hd]; rfl
    obtain ⟨_, ⟨q3, q4⟩, q5, q6⟩ := HCl.out _ HK1.out
    have e0 : (i : Int) + 1 - 1 = (i : Int) := by omega
    have e1 : (0 : Int) ≤ (i : Int) := by omega
    have e2 : (i : Int) < (a : Int) := by omega
    have HCc : Hid (∀ q, ((w1.drewN q).cell? ⟨bA, i * 2, none⟩ = some (.int .i64 (sl (i : Int)).1) ∧ (w1.drewN q).cell? ⟨bA, i * 2 + 1, none⟩ = some (.int .i64 (sl (i : Int)).2)) ∧ ∀ o, (w1.drewN q).frozen? ⟨bA, o, none⟩ = false) := fun q => by
      have hb' : (w1.drewN q).heap[bA]? = some (.cells cs 33 (0, 0)) := hbA
      refine ⟨⟨by rw [cell_of hb']; exact (hcs i hia).1, by rw [cell_of hb']; exact (hcs i hia).2⟩, frozen_of hb'⟩
    clear hR hbA hcs hi i1 i2 i3
    go_wp2_with fail
    refine region_quiet_tail 9 (by kernel_rfl) (by kernel_rfl) ?_
    simp only [List.take_succ_cons, List.take_zero, List.drop_succ_cons, List.drop_zero]
    repeat (go_big_quiet_step (fail))
    refine wpQuiet_nil ?_
    rintro _ ⟨nq, rfl⟩
    obtain ⟨⟨z0, z1⟩, zf⟩ := HCc.out nq
    have HE : Hid (RB (wr2 bA (i * 2) (.int .i64 v1) (.int .i64 v2) (w1.drewN nq)) Q most a n (sput sl (i : Int) (v1, v2)) (some ⟨bA, 0, none⟩) lo ca cl ∧ OwnR w Q (wr2 bA (i * 2) (.int .i64 v1) (.int .i64 v2) (w1.drewN nq))) := by
      obtain ⟨s1, s2⟩ := (HRq.out nq).1.setA hia (v1, v2)
      exact ⟨s1, HOw.out _ _ (HRq.out nq).2 s2⟩
    clear HCc HRq r0 q3 q4 q5 q6
    generalize w1.drewN nq = w2 at z0 z1 zf HE ⊢
    unfold wr2 at HE
    go_wp2
    go_ret
    rw [HPu.out]
    exact ⟨rfl, HE.out.1.rt, HE.out.2⟩
  case false =>
    have HFr : Hid (findR a n sl (k1, k2) = fnd a n sl (k1, k2) n 0) := by show _ = _; unfold findR; rw [hi]; rfl
    have hfd := fdR_is a n sl (k1, k2)
    obtain ⟨⟨q1, q2⟩, ⟨q3, q4⟩, _⟩ := HCl.out _ HK1.out
    obtain ⟨r, hr⟩ : ∃ r, fdR a n sl (k1, k2) = r := ⟨_, rfl⟩
    rw [hr] at HFi hfd
    clear hr hi
    obtain ⟨at', fr⟩ := r
    go_wp2_with fail
    refine (HFi.out _ HK1.out).mono ?_
    rintro e w2 ⟨rfl, hk2'⟩
    have HK2 : Hid (Kept No W0 w2) := hk2'
    clear hk2' HK1 HFi q1 q2 q3 q4
    obtain ⟨_, ⟨q3, q4⟩, q5, q6⟩ := HCl.out _ HK2.out
    rcases hfd with ⟨m, hm, h1, h2⟩ | ⟨m, hm, h1, h2⟩ | ⟨h1, h2⟩
    · simp only [Prod.mk.injEq] at h2
      obtain ⟨rfl, rfl⟩ := h2
      have HPu : Hid (putR a n sl (k1, k2) (v1, v2) = (true, sput sl ((a : Int) + 2 * (m : Int) + 1) (v1, v2))) := by
        show _ = _
        unfold putR
        rw [HFr.out, h1]; rfl
      obtain ⟨ao, lo, ca, cl, hR⟩ := (HRB.out _ HK2.out).rb
      obtain ⟨bL, rfl, cs, hbL, hcs⟩ := hR.nd (by omega)
      have HRq : Hid (∀ q, RB (w2.drewN q) Q most a n sl ao (some ⟨bL, 0, none⟩) ca cl ∧ Kept No W0 (w2.drewN q)) := fun q => ⟨hR.no ((Kept.refl _ _).drewN q), HK2.out.drewN q⟩
      have r0 : w2.cell? ⟨Q, 1, none⟩ = some (.slice (some ⟨bL, 0, none⟩) n cl) := by rw [cell_of hR.hd]; rfl
      have e1 : (0 : Int) ≤ (m : Int) := by omega
      have e2 : (m : Int) < (n : Int) := by omega
      have HCc : Hid (∀ q, ((w2.drewN q).cell? ⟨bL, m * 4 + 2, none⟩ = some (.int .i64 (sl ((a : Int) + 2 * (m : Int) + 1)).1) ∧ (w2.drewN q).cell? ⟨bL, m * 4 + 3, none⟩ = some (.int .i64 (sl ((a : Int) + 2 * (m : Int) + 1)).2)) ∧ ∀ o, (w2.drewN q).frozen? ⟨bL, o, none⟩ = false) := fun q => by
        have hb' : (w2.drewN q).heap[bL]? = some (.cells cs 78 (0, 0)) := hbL
        refine ⟨⟨by rw [cell_of hb']; exact (hcs m hm).2.1, by rw [cell_of hb']; exact (hcs m hm).2.2⟩, frozen_of hb'⟩
      clear hR hbL hcs h1
      go_wp2_with fail
      refine region_quiet_tail 8 (by kernel_rfl) (by kernel_rfl) ?_
      simp only [List.take_succ_cons, List.take_zero, List.drop_succ_cons, List.drop_zero]
      repeat (go_big_quiet_step (fail))
      refine wpQuiet_nil ?_
      rintro _ ⟨nq, rfl⟩
      obtain ⟨⟨z0, z1⟩, zf⟩ := HCc.out nq
      have HE : Hid (RB (wr2 bL (m * 4 + 2) (.int .i64 v1) (.int .i64 v2) (w2.drewN nq)) Q most a n (sput sl ((a : Int) + 2 * (m : Int) + 1) (v1, v2)) ao (some ⟨bL, 0, none⟩) ca cl ∧ OwnR w Q (wr2 bL (m * 4 + 2) (.int .i64 v1) (.int .i64 v2) (w2.drewN nq))) := by
        obtain ⟨s1, s2⟩ := (HRq.out nq).1.setV hm (v1, v2)
        exact ⟨s1, HOw.out _ _ (HRq.out nq).2 s2⟩
      clear HCc HRq r0 q3 q4 q5 q6
      generalize w2.drewN nq = w3 at z0 z1 zf HE ⊢
      unfold wr2 at HE
      go_wp2
      go_ret
      rw [HPu.out]
      exact ⟨rfl, HE.out.1.rt, HE.out.2⟩
    · simp only [Prod.mk.injEq] at h2
      obtain ⟨rfl, rfl⟩ := h2
      have e1 : (0 : Int) ≤ (m : Int) := by omega
      have e2 : (m : Int) < (n : Int) := by omega
      have e3 : ¬ (m : Int) < 0 := by omega
      cases hv : (v1 == 0)
      · have HPu : Hid (putR a n sl (k1, k2) (v1, v2) = (true, sput (sput sl ((a : Int) + 2 * (m : Int)) (k1, k2)) ((a : Int) + 2 * (m : Int) + 1) (v1, v2))) := by
          show _ = _
          unfold putR
          rw [HFr.out, h1, if_neg (by simp), if_neg (by simpa using hv), if_neg (by simp; omega)]
          simp only
          rw [show (a : Int) + 2 * (m : Int) + 1 - 1 = (a : Int) + 2 * (m : Int) by omega]
        obtain ⟨ao, lo, ca, cl, hR⟩ := (HRB.out _ HK2.out).rb
        obtain ⟨bL, rfl, cs, hbL, hcs⟩ := hR.nd (by omega)
        have HRq : Hid (∀ q, RB (w2.drewN q) Q most a n sl ao (some ⟨bL, 0, none⟩) ca cl ∧ Kept No W0 (w2.drewN q)) := fun q => ⟨hR.no ((Kept.refl _ _).drewN q), HK2.out.drewN q⟩
        have r0 : w2.cell? ⟨Q, 1, none⟩ = some (.slice (some ⟨bL, 0, none⟩) n cl) := by rw [cell_of hR.hd]; rfl
        have HCc : Hid (∀ q, (((w2.drewN q).cell? ⟨bL, m * 4, none⟩ = some (.int .i64 (sl ((a : Int) + 2 * (m : Int))).1) ∧ (w2.drewN q).cell? ⟨bL, m * 4 + 1, none⟩ = some (.int .i64 (sl ((a : Int) + 2 * (m : Int))).2)) ∧ (w2.drewN q).cell? ⟨bL, m * 4 + 2, none⟩ = some (.int .i64 (sl ((a : Int) + 2 * (m : Int) + 1)).1) ∧ (w2.drewN q).cell? ⟨bL, m * 4 + 3, none⟩ = some (.int .i64 (sl ((a : Int) + 2 * (m : Int) + 1)).2)) ∧ ∀ o, (w2.drewN q).frozen? ⟨bL, o, none⟩ = false) := fun q => by
          have hb' : (w2.drewN q).heap[bL]? = some (.cells cs 78 (0, 0)) := hbL
          refine ⟨⟨⟨by rw [cell_of hb']; exact (hcs m hm).1.1, by rw [cell_of hb']; exact (hcs m hm).1.2⟩, by rw [cell_of hb']; exact (hcs m hm).2.1, by rw [cell_of hb']; exact (hcs m hm).2.2⟩, frozen_of hb'⟩
        clear hR hbL hcs h1
        go_wp2_with fail
        refine region_quiet_tail 9 (by kernel_rfl) (by kernel_rfl) ?_
        simp only [List.take_succ_cons, List.take_zero, List.drop_succ_cons, List.drop_zero]
        repeat (go_big_quiet_step (fail))
        refine wpQuiet_nil ?_
        rintro _ ⟨nq, rfl⟩
        obtain ⟨⟨⟨z0, z1⟩, z2, z3⟩, zf⟩ := HCc.out nq
        have HE : Hid (RB (wr2 bL (m * 4 + 2) (.int .i64 v1) (.int .i64 v2) (wr2 bL (m * 4) (.int .i64 k1) (.int .i64 k2) (w2.drewN nq))) Q most a n (sput (sput sl ((a : Int) + 2 * (m : Int)) (k1, k2)) ((a : Int) + 2 * (m : Int) + 1) (v1, v2)) ao (some ⟨bL, 0, none⟩) ca cl ∧ OwnR w Q (wr2 bL (m * 4 + 2) (.int .i64 v1) (.int .i64 v2) (wr2 bL (m * 4) (.int .i64 k1) (.int .i64 k2) (w2.drewN nq)))) := by
          obtain ⟨s1, s2⟩ := (HRq.out nq).1.setK hm (k1, k2)
          obtain ⟨s3, s4⟩ := s1.setV hm (v1, v2)
          exact ⟨s3, HOw.out _ _ (HRq.out nq).2 (s2.trans s4)⟩
        clear HCc HRq r0 q3 q4 q5 q6
        generalize w2.drewN nq = w3 at z0 z1 z2 z3 zf HE ⊢
        unfold wr2 at HE
        go_wp2
        go_ret
        rw [HPu.out]
        exact ⟨rfl, HE.out.1.rt, HE.out.2⟩
      · have HPu : Hid (putR a n sl (k1, k2) (v1, v2) = (true, sl)) := by
          show _ = _
          unfold putR
          rw [HFr.out, h1, if_neg (by simp), if_pos (by simpa using hv)]
        have HE : Hid (Rt w2 Q most a n sl ∧ OwnR w Q w2) := ⟨HRB.out _ HK2.out, OwnR.of_no (HK0.out.trans HK2.out) hlt⟩
        clear h1
        go_wp2
        go_ret
        rw [HPu.out]
        exact ⟨rfl, HE.out⟩
    · simp only [Prod.mk.injEq] at h2
      obtain ⟨rfl, rfl⟩ := h2
      have HE : Hid (Rt w2 Q most a n sl ∧ OwnR w Q w2) := ⟨HRB.out _ HK2.out, OwnR.of_no (HK0.out.trans HK2.out) hlt⟩
      cases hv : (v1 == 0)
      · have HPu : Hid (putR a n sl (k1, k2) (v1, v2) = (false, sl)) := by
          show _ = _
          unfold putR
          rw [HFr.out, h1, if_neg (by simp), if_neg (by simpa using hv), if_pos rfl]
        clear h1
        go_wp2
        go_ret
        rw [HPu.out]
        exact ⟨rfl, HE.out⟩
      · have HPu : Hid (putR a n sl (k1, k2) (v1, v2) = (true, sl)) := by
          show _ = _
          unfold putR
          rw [HFr.out, h1, if_neg (by simp), if_pos (by simpa using hv)]
        clear h1
        go_wp2
        go_ret
        rw [HPu.out]
        exact ⟨rfl, HE.out⟩
end Go.Proofs.Ythefmfjlinpepaa

/- The document's Get and place. -/
namespace Go.Proofs.Ythefmfjlinpepaa
open Go.RowKit Go.Shelf
set_option linter.unusedSimpArgs false
set_option linter.unusedVariables false
attribute [local go_sem] Oper.semAt_some

/-- A hasher's box and a key's. -/
def HB (B : Nat) (k : Int × Int) (W : World) : Prop := W.heap[B]? = some (.cells #[.bool false, .slice none 0 0] 70 (0, 0)) ∧ W.heap[B + 1]? = some (.cells #[.int .i64 k.1, .int .i64 k.2] 33 (0, 0))
theorem HB.no {B : Nat} {k : Int × Int} {W W' : World} (h : HB B k W) (hk : Kept No W W') : HB B k W' := ⟨hk.heap h.1 id, hk.heap h.2 id⟩
theorem HB.cells {B : Nat} {k : Int × Int} {W : World} (h : HB B k W) : (W.cell? ⟨B, 0, none⟩ = some (.bool false) ∧ W.cell? ⟨B, 1, none⟩ = some (.slice none 0 0)) ∧ W.cell? ⟨B + 1, 0, none⟩ = some (.int .i64 k.1) ∧ W.cell? ⟨B + 1, 1, none⟩ = some (.int .i64 k.2) := by
  refine ⟨⟨?_, ?_⟩, ?_, ?_⟩
  · rw [cell_of h.1]; rfl
  · rw [cell_of h.1]; rfl
  · rw [cell_of h.2]; rfl
  · rw [cell_of h.2]; rfl

/-- Where a key stands in the order: array slots, then nodes. -/
def plcR (a n : Nat) (sl : Sl) (k : Int × Int) : Int := if inArr a k = true then k.2 - 1 else if (fdR a n sl k).1 < 0 then -1 else (a : Int) + (fdR a n sl k).1

set_option maxRecDepth 20000 in
set_option maxHeartbeats 4000000 in
theorem Rplace_any {w : World} {Q : Nat} {most : Int} {a n : Nat} {sl : Sl} (h : Rt w Q most a n sl) (k1 k2 : Int) (hk2 : I64 k2) :
    Calls Try.prog 67 #[RP Q, HV, AV k1 k2] w fun e w' => e = .returned (.int .i64 (plcR a n sl (k1, k2))) ∧ Kept No w w' := by
  have HT : Hid (Rt w Q most a n sl) := h
  obtain ⟨hb1, hb2⟩ := h.bd
  have hlt := h.lt
  obtain ⟨W0, HW0⟩ : ∃ W0, Hid (W0 = (w.alloc (.cells #[.bool false, .slice none 0 0] 70)).alloc (.cells #[.int .i64 k1, .int .i64 k2] 33)) := ⟨_, show _ = _ from rfl⟩
  have HK0 : Hid (Kept No w W0) := by show Kept _ _ _; rw [HW0.out]; exact ((Kept.refl _ _).alloc _).alloc _
  have HB0 : Hid (HB w.heap.size (k1, k2) W0) := by
    refine ⟨?_, ?_⟩ <;> rw [HW0.out]
    · exact heap_old (heap_new1 _ _) _
    · have := heap_new1 (w.alloc (.cells #[.bool false, .slice none 0 0] 70)) (.cells #[.int .i64 k1, .int .i64 k2] 33); rw [World.size_alloc] at this; exact this
  clear h
  go_enter Try.func67, Try.ntmps67
  obtain ⟨_, q3, q4⟩ := HB0.out.cells
  rw [HW0.out] at q3 q4
  go_wp2_with fail
  rw [← HW0.out]
  clear q3 q4 HW0
  refine (RInArray_any (HT.out.no HK0.out) k1 k2).mono ?_
  rintro e w1 ⟨rfl, hk1⟩
  have HK1 : Hid (Kept No w w1) := HK0.out.trans hk1
  have HB1 : Hid (HB w.heap.size (k1, k2) w1) := HB0.out.no hk1
  clear hk1 HK0 HB0
  obtain ⟨⟨q1, q2⟩, q3, q4⟩ := HB1.out.cells
  simp only at q3 q4
  cases hi : inArr a (k1, k2)
  case true =>
    have HPl : Hid (plcR a n sl (k1, k2) = k2 - 1) := by show _ = _; unfold plcR; rw [hi]; rfl
    obtain ⟨i1, i2, i3⟩ : k1 = 2 ∧ 1 ≤ k2 ∧ k2 ≤ (a : Int) := by simpa [inArr] using hi
    clear hi i1
    go_wp2
    go_ret
    exact ⟨by rw [HPl.out]; rfl, HK1.out⟩
  case false =>
    have hfd := fdR_is a n sl (k1, k2)
    have HFi := RFind_any (HT.out.no HK1.out) k1 k2
    have HPl : Hid (plcR a n sl (k1, k2) = if (fdR a n sl (k1, k2)).1 < 0 then -1 else (a : Int) + (fdR a n sl (k1, k2)).1) := by show _ = _; unfold plcR; rw [hi]; rfl
    clear hi
    generalize fdR a n sl (k1, k2) = r at HFi hfd HPl
    obtain ⟨at', fr⟩ := r
    have HFi' : Hid _ := HFi
    clear HFi
    go_wp2_with fail
    refine Calls.mono HFi'.out ?_
    rintro e w2 ⟨rfl, hk2'⟩
    have HK2 : Hid (Kept No w w2) := HK1.out.trans hk2'
    have hat : at' = -1 ∨ (0 ≤ at' ∧ at' < (n : Int)) := by
      rcases hfd with ⟨m, hm, h1, h2⟩ | ⟨m, hm, h1, h2⟩ | ⟨h1, h2⟩
      · cases h2; right; omega
      · cases h2; exact .inl rfl
      · cases h2; exact .inl rfl
    have hk0 := (HT.out.no HK2.out).rb
    obtain ⟨ao, lo, ca, cl, hR⟩ := hk0
    have r0 : w2.cell? ⟨Q, 0, none⟩ = some (.slice ao a ca) := by rw [cell_of hR.hd]; rfl
    clear hk2' HFi' hfd hR q1 q2 q3 q4
    rcases hat with rfl | ⟨hat1, hat2⟩
    · have HP2 : Hid (plcR a n sl (k1, k2) = -1) := by show _ = _; rw [HPl.out, if_pos (by decide)]
      go_wp2
      go_ret
      exact ⟨by rw [HP2.out]; rfl, HK2.out⟩
    · have HP2 : Hid (plcR a n sl (k1, k2) = (a : Int) + at') := by show _ = _; rw [HPl.out, if_neg (by omega)]
      have hat3 : ¬ at' < 0 := by omega
      go_wp2
      go_ret
      exact ⟨by rw [HP2.out]; rfl, HK2.out⟩

set_option maxRecDepth 20000 in
set_option maxHeartbeats 4000000 in
theorem RGet_any {w : World} {Q : Nat} {most : Int} {a n : Nat} {sl : Sl} (h : Rt w Q most a n sl) (t x : Int) (hx : I64 x) :
    Calls Try.prog 36 #[RP Q, HV, AV t x] w fun e w' => e = .returned (iV (getR a n sl t x)) ∧ Kept No w w' := by
  have HT : Hid (Rt w Q most a n sl) := h
  obtain ⟨hb1, hb2⟩ := h.bd
  have hlt := h.lt
  obtain ⟨W0, HW0⟩ : ∃ W0, Hid (W0 = ((w.alloc (.cells #[.bool false, .slice none 0 0] 70)).alloc (.cells #[.int .i64 t, .int .i64 x] 33)).alloc (.cells #[.int .i64 0, .int .i64 0] 33)) := ⟨_, show _ = _ from rfl⟩
  have HK0 : Hid (Kept No w W0) := by show Kept _ _ _; rw [HW0.out]; exact (((Kept.refl _ _).alloc _).alloc _).alloc _
  have HB0 : Hid (HB w.heap.size (t, x) W0 ∧ W0.heap[w.heap.size + 2]? = some (.cells #[.int .i64 0, .int .i64 0] 33 (0, 0))) := by
    refine ⟨⟨?_, ?_⟩, ?_⟩ <;> rw [HW0.out]
    · exact heap_old (heap_old (heap_new1 _ _) _) _
    · have := heap_new1 (w.alloc (.cells #[.bool false, .slice none 0 0] 70)) (.cells #[.int .i64 t, .int .i64 x] 33); rw [World.size_alloc] at this; exact heap_old this _
    · have := heap_new1 ((w.alloc (.cells #[.bool false, .slice none 0 0] 70)).alloc (.cells #[.int .i64 t, .int .i64 x] 33)) (.cells #[.int .i64 0, .int .i64 0] 33); simp only [World.size_alloc] at this; exact this
  have HGv : Hid (getR a n sl t x = if keyB t x = true then gv a n sl (rkV t x) else (0, 0)) := by
    show _ = _
    rw [getR_gv]
    unfold rkV
    cases keyB t x <;> rfl
  have HRk := RK_any t x
  have HI6 : Hid (I64 (rkV t x).2) := by
    show I64 _
    unfold rkV
    split
    · exact ky_i64 t x hx
    · exact hx
  generalize rkV t x = z at HGv HRk HI6
  obtain ⟨z1, z2⟩ := z
  have HRk' : Hid (∀ W, Calls Try.prog 17 #[AV t x] W fun e w' => e = .returned (.tuple #[iV (z1, z2), .bool (keyB t x)]) ∧ Below W.heap.size W w') := HRk
  clear h HRk
  go_enter Try.func36, Try.ntmps36
  obtain ⟨_, q3, q4⟩ := HB0.out.1.cells
  rw [HW0.out] at q3 q4
  go_wp2_with fail
  rw [← HW0.out]
  clear q3 q4 HW0
  refine (HRk'.out _).mono ?_
  rintro e w1 ⟨rfl, hb1'⟩
  have hk1 := Kept.of_below hb1'
  have X1 : Hid (Kept No w (w1.alloc (.cells #[.int .i64 z1, .int .i64 z2] 33)) ∧ (HB w.heap.size (t, x) (w1.alloc (.cells #[.int .i64 z1, .int .i64 z2] 33)) ∧ (w1.alloc (.cells #[.int .i64 z1, .int .i64 z2] 33)).heap[w.heap.size + 2]? = some (.cells #[.int .i64 0, .int .i64 0] 33 (0, 0))) ∧ (w1.alloc (.cells #[.int .i64 z1, .int .i64 z2] 33)).heap[w1.heap.size]? = some (.cells #[.int .i64 z1, .int .i64 z2] 33 (0, 0))) := by
    have hk2 : Kept No W0 (w1.alloc (.cells #[.int .i64 z1, .int .i64 z2] 33)) := hk1.trans ((Kept.refl _ _).alloc _)
    exact ⟨HK0.out.trans hk2, ⟨HB0.out.1.no hk2, hk2.heap HB0.out.2 id⟩, heap_new1 _ _⟩
  have hz1 : w.heap.size + 2 < w1.heap.size := by have := hp_lt (hk1.heap HB0.out.2 id); exact this
  have o0 := hk1.heap HB0.out.2 id
  have o1 : w1.cell? ⟨w.heap.size + 2, 0, none⟩ = some (.int .i64 0) := by rw [cell_of o0]; rfl
  have o2 : w1.cell? ⟨w.heap.size + 2, 1, none⟩ = some (.int .i64 0) := by rw [cell_of o0]; rfl
  have of := frozen_of o0
  clear hb1' hk1 HB0 HK0 o0 HRk'
  cases hkb : keyB t x
  case false =>
    have HE : Hid (getR a n sl t x = (0, 0)) := by show _ = _; rw [HGv.out, hkb]; rfl
    clear hkb
    have HKE : Hid (Kept No w (((w1.setCell ⟨w.heap.size + 2, 0, none⟩ (.int .i64 0)).setCell ⟨w.heap.size + 2, 1, none⟩ (.int .i64 0)).alloc (.cells #[.int .i64 z1, .int .i64 z2] 33))) := by
      have h1 : Kept No w w1 := ⟨X1.out.1.os, X1.out.1.tape, X1.out.1.output, by omega, fun k hk hn => by
        have := X1.out.1.block k hk hn
        rw [Below.heap_alloc w1 _ k (by omega)] at this
        exact this⟩
      exact ((h1.set _ 0 _ (.inr (by omega))).set _ 1 _ (.inr (by omega))).alloc _
    go_wp2
    refine bodyPost_ret (v := iV (0, 0)) (by simp [results, Try.results36, go_sem, o1, o2, hz1]) rfl ⟨by rw [HE.out], ?_⟩
    first | exact HKE.out | (have := HKE.out; simpa using this)
  case true =>
    have HE : Hid (getR a n sl t x = gv a n sl (z1, z2)) := by show _ = _; rw [HGv.out, hkb]; rfl
    clear hkb HGv o1 o2 of
    obtain ⟨V0, HV0⟩ : ∃ V0, Hid (V0 = w1.alloc (.cells #[.int .i64 z1, .int .i64 z2] 33)) := ⟨_, show _ = _ from rfl⟩
    rw [← HV0.out] at X1
    have HGB : Hid (∀ W, Kept No V0 W → (Kept No w W ∧ Rt W Q most a n sl) ∧ ((W.cell? ⟨w.heap.size, 0, none⟩ = some (.bool false) ∧ W.cell? ⟨w.heap.size, 1, none⟩ = some (.slice none 0 0)) ∧ (W.cell? ⟨w1.heap.size, 0, none⟩ = some (.int .i64 z1) ∧ W.cell? ⟨w1.heap.size, 1, none⟩ = some (.int .i64 z2))) ∧ (W.cell? ⟨w.heap.size + 2, 0, none⟩ = some (.int .i64 0) ∧ W.cell? ⟨w.heap.size + 2, 1, none⟩ = some (.int .i64 0)) ∧ ∀ o, W.frozen? ⟨w.heap.size + 2, o, none⟩ = false) := by
      intro W hW
      have e1 := hW.heap X1.out.2.2 id
      have e2 := hW.heap X1.out.2.1.2 id
      have e3 := (X1.out.2.1.1.no hW).cells.1
      refine ⟨⟨X1.out.1.trans hW, HT.out.no (X1.out.1.trans hW)⟩, ⟨e3, ?_, ?_⟩, ⟨?_, ?_⟩, frozen_of e2⟩
      · rw [cell_of e1]; rfl
      · rw [cell_of e1]; rfl
      · rw [cell_of e2]; rfl
      · rw [cell_of e2]; rfl
    obtain ⟨_, ⟨⟨q1, q2⟩, q3, q4⟩, _⟩ := HGB.out V0 (Kept.refl _ _)
    rw [HV0.out] at q1 q2 q3 q4
    go_wp2_with fail
    rw [← HV0.out]
    clear X1 q1 q2 q3 q4 HV0
    generalize w1.heap.size = Bz at hz1 HGB ⊢
    refine (RInArray_any (HGB.out V0 (Kept.refl _ _)).1.2 z1 z2).mono ?_
    rintro e w2 ⟨rfl, hk2⟩
    have HK2 : Hid (Kept No V0 w2) := hk2
    clear hk2
    cases hi : inArr a (z1, z2)
    case true =>
      obtain ⟨i1, i2, i3⟩ : z1 = 2 ∧ 1 ≤ z2 ∧ z2 ≤ (a : Int) := by simpa [inArr] using hi
      obtain ⟨i, rfl⟩ : ∃ i : Nat, z2 = (i : Int) + 1 := ⟨(z2 - 1).toNat, by omega⟩
      have hia : i < a := by omega
      have HG2 : Hid (gv a n sl (z1, (i : Int) + 1) = sl (i : Int)) := by
        show _ = _
        unfold gv findR
        rw [hi]
        simp
      have hG := HGB.out _ HK2.out
      obtain ⟨ao, lo, ca, cl, hR⟩ := hG.1.2.rb
      obtain ⟨bA, rfl, cs, hbA, hcs⟩ := hR.ar (by omega)
      have r0 : w2.cell? ⟨Q, 0, none⟩ = some (.slice (some ⟨bA, 0, none⟩) a ca) := by rw [cell_of hR.hd]; rfl
      obtain ⟨_, ⟨_, q3, q4⟩, _⟩ := hG
      have e0 : (i : Int) + 1 - 1 = (i : Int) := by omega
      have e1 : (0 : Int) ≤ (i : Int) := by omega
      have e2 : (i : Int) < (a : Int) := by omega
      have z0 : w2.cell? ⟨bA, i * 2, none⟩ = some (.int .i64 (sl (i : Int)).1) := by rw [cell_of hbA]; exact (hcs i hia).1
      have z1' : w2.cell? ⟨bA, i * 2 + 1, none⟩ = some (.int .i64 (sl (i : Int)).2) := by rw [cell_of hbA]; exact (hcs i hia).2
      generalize sl (i : Int) = g at z0 z1' HG2
      obtain ⟨g1, g2⟩ := g
      simp only at z0 z1'
      clear hR hbA hcs hi i1 i2 i3
      go_wp2_with fail
      refine region_quiet_tail 9 (by kernel_rfl) (by kernel_rfl) ?_
      simp only [List.take_succ_cons, List.take_zero, List.drop_succ_cons, List.drop_zero]
      repeat (go_big_quiet_step (fail))
      refine wpQuiet_nil ?_
      rintro _ ⟨nq, rfl⟩
      obtain ⟨⟨hkw, _⟩, _, ⟨o1, o2⟩, of⟩ := HGB.out _ (HK2.out.drewN nq)
      have HKE : Hid (Kept No w (((w2.drewN nq).setCell ⟨w.heap.size + 2, 0, none⟩ (.int .i64 g1)).setCell ⟨w.heap.size + 2, 1, none⟩ (.int .i64 g2))) := (hkw.set _ 0 _ (.inr (by omega))).set _ 1 _ (.inr (by omega))
      clear r0 q3 q4 z0 z1' HGB hkw
      generalize w2.drewN nq = w3 at o1 o2 of HKE ⊢
      go_wp2
      exact bodyPost_ret (v := iV (g1, g2)) (by simp [results, Try.results36, go_sem, o1, o2]) rfl ⟨by rw [HE.out, HG2.out], HKE.out⟩
    case false =>
      have hfd := fdR_is a n sl (z1, z2)
      have hG := HGB.out _ HK2.out
      have HFi := RFind_any hG.1.2 z1 z2
      have HFr : Hid (findR a n sl (z1, z2) = fnd a n sl (z1, z2) n 0) := by show _ = _; unfold findR; rw [hi]; rfl
      generalize fdR a n sl (z1, z2) = r at HFi hfd
      obtain ⟨at', fr⟩ := r
      have HFi' : Hid _ := HFi
      obtain ⟨_, ⟨⟨q1, q2⟩, q3, q4⟩, _⟩ := hG
      clear HFi hi
      go_wp2_with fail
      refine Calls.mono HFi'.out ?_
      rintro e w3 ⟨rfl, hk3⟩
      have HK3 : Hid (Kept No V0 w3) := HK2.out.trans hk3
      clear hk3 HFi' q1 q2 q3 q4 HK2
      obtain ⟨⟨hkw, hrt⟩, _, ⟨o1, o2⟩, of⟩ := HGB.out _ HK3.out
      have HKE : Hid (∀ g1 g2 : Int, Kept No w ((w3.setCell ⟨w.heap.size + 2, 0, none⟩ (.int .i64 g1)).setCell ⟨w.heap.size + 2, 1, none⟩ (.int .i64 g2))) := fun g1 g2 => (hkw.set _ 0 _ (.inr (by omega))).set _ 1 _ (.inr (by omega))
      clear HGB hkw
      have hcase : (at' = -1 ∧ gv a n sl (z1, z2) = (0, 0)) ∨ ∃ m : Nat, m < n ∧ at' = (m : Int) ∧ gv a n sl (z1, z2) = sl ((a : Int) + 2 * (m : Int) + 1) := by
        rcases hfd with ⟨m, hm, h1, h2⟩ | ⟨m, hm, h1, h2⟩ | ⟨h1, h2⟩
        · cases h2
          right
          refine ⟨m, hm, rfl, ?_⟩
          unfold gv; rw [HFr.out, h1]; rfl
        · cases h2
          left
          refine ⟨rfl, ?_⟩
          unfold gv; rw [HFr.out, h1]; rfl
        · cases h2
          left
          refine ⟨rfl, ?_⟩
          unfold gv; rw [HFr.out, h1]; rfl
      clear hfd HFr
      rcases hcase with ⟨rfl, hg0⟩ | ⟨m, hm, rfl, hg0⟩
      · have HG2 : Hid (gv a n sl (z1, z2) = (0, 0)) := hg0
        clear hg0 hrt
        go_wp2
        exact bodyPost_ret (v := iV (0, 0)) (by simp [results, Try.results36, go_sem, o1, o2]) rfl ⟨by rw [HE.out, HG2.out], HKE.out 0 0⟩
      · obtain ⟨ao, lo, ca, cl, hR⟩ := hrt.rb
        obtain ⟨bL, rfl, cs, hbL, hcs⟩ := hR.nd (by omega)
        have r0 : w3.cell? ⟨Q, 1, none⟩ = some (.slice (some ⟨bL, 0, none⟩) n cl) := by rw [cell_of hR.hd]; rfl
        have e1 : (0 : Int) ≤ (m : Int) := by omega
        have e2 : (m : Int) < (n : Int) := by omega
        have e3 : ¬ (m : Int) < 0 := by omega
        have y0 : w3.cell? ⟨bL, m * 4 + 2, none⟩ = some (.int .i64 (sl ((a : Int) + 2 * (m : Int) + 1)).1) := by rw [cell_of hbL]; exact (hcs m hm).2.1
        have y1 : w3.cell? ⟨bL, m * 4 + 3, none⟩ = some (.int .i64 (sl ((a : Int) + 2 * (m : Int) + 1)).2) := by rw [cell_of hbL]; exact (hcs m hm).2.2
        have HG2 : Hid (gv a n sl (z1, z2) = sl ((a : Int) + 2 * (m : Int) + 1)) := hg0
        generalize sl ((a : Int) + 2 * (m : Int) + 1) = g at y0 y1 HG2
        obtain ⟨g1, g2⟩ := g
        simp only at y0 y1
        clear hg0 hrt hR hbL hcs
        go_wp2
        exact bodyPost_ret (v := iV (g1, g2)) (by simp [results, Try.results36, go_sem, o1, o2]) rfl ⟨by rw [HE.out, HG2.out], HKE.out g1 g2⟩
end Go.Proofs.Ythefmfjlinpepaa

/- The document's Kill and Len. -/
namespace Go.Proofs.Ythefmfjlinpepaa
open Go.RowKit Go.Shelf
set_option linter.unusedSimpArgs false
set_option linter.unusedVariables false
attribute [local go_sem] Oper.semAt_some

theorem RB.setT {w : World} {Q : Nat} {most : Int} {a n : Nat} {sl : Sl} {ao : Option Addr} {ca cl : Nat} {bL : Nat} (h : RB w Q most a n sl ao (some ⟨bL, 0, none⟩) ca cl) {m : Nat} (hm : m < n) (t : Int) : RB (w.setCell ⟨bL, m * 4, none⟩ (.int .i64 t)) Q most a n (sput sl ((a : Int) + 2 * (m : Int)) (t, (sl ((a : Int) + 2 * (m : Int))).2)) ao (some ⟨bL, 0, none⟩) ca cl ∧ OwnR w Q (w.setCell ⟨bL, m * 4, none⟩ (.int .i64 t)) := by
  have hk : Kept (fun k => k = bL) w (w.setCell ⟨bL, m * 4, none⟩ (.int .i64 t)) := (Kept.refl (fun k => k = bL) w).set _ _ _ (.inl rfl)
  obtain ⟨bL', e, cs, hb, hc⟩ := h.nd (by omega)
  cases e
  have hQ : bL ≠ Q := fun e => by rw [e, h.hd] at hb; cases hb
  refine ⟨⟨hk.heap h.hd (fun e => hQ e.symm), fun h0 => ?_, fun _ => ⟨bL, rfl, _, hp_set_same hb _ _, fun j hj => ?_⟩, h.bd⟩, h.ownL hk hQ (by omega)⟩
  · obtain ⟨bA, e, cs2, hb2, hc2⟩ := h.ar h0
    refine ⟨bA, e, cs2, hk.heap hb2 (fun e => by rw [e, hb] at hb2; cases hb2), fun j hj => ?_⟩
    rw [sput_ne (by omega)]
    exact hc2 j hj
  · obtain ⟨⟨g0, g1⟩, g2, g3⟩ := hc m hm
    have hs : m * 4 < cs.size := (Array.getElem?_eq_some_iff.1 g0).1
    rw [Array.getElem?_setIfInBounds, Array.getElem?_setIfInBounds, Array.getElem?_setIfInBounds, Array.getElem?_setIfInBounds]
    by_cases hij : j = m
    · subst hij
      rw [sput_same, sput_ne (by omega)]
      rw [if_pos rfl, if_pos hs, if_neg (by omega), if_neg (by omega), if_neg (by omega)]
      exact ⟨⟨rfl, g1⟩, g2, g3⟩
    · rw [sput_ne (by omega), sput_ne (by omega)]
      rw [if_neg (by omega), if_neg (by omega), if_neg (by omega), if_neg (by omega)]
      exact hc j hj

set_option maxRecDepth 20000 in
set_option maxHeartbeats 4000000 in
theorem RKill_any {w : World} {Q : Nat} {most : Int} {a n : Nat} {sl : Sl} (h : Rt w Q most a n sl) (i : Int) (hi : I64 i) :
    Calls Try.prog 38 #[RP Q, .int .i64 i] w fun e w' => e = .returned (.tuple #[]) ∧ Rt w' Q most a n (killR a n sl i) ∧ OwnR w Q w' := by
  have HT : Hid (Rt w Q most a n sl) := h
  obtain ⟨hb1, hb2⟩ := h.bd
  have hlt := h.lt
  obtain ⟨ao, lo, ca, cl, hR⟩ := h.rb
  have HR : Hid (RB w Q most a n sl ao lo ca cl) := hR
  have r0 : w.cell? ⟨Q, 0, none⟩ = some (.slice ao a ca) := by rw [cell_of hR.hd]; rfl
  have r1 : w.cell? ⟨Q, 1, none⟩ = some (.slice lo n cl) := by rw [cell_of hR.hd]; rfl
  obtain ⟨i1, i2⟩ : -9223372036854775808 ≤ i ∧ i ≤ 9223372036854775807 := hi
  clear h hR
  have HSame : Hid (vpB a n i = false → killR a n sl i = sl) := fun hv => by unfold killR; rw [hv]; rfl
  by_cases h0 : i < 0
  · have HK : Hid (killR a n sl i = sl) := HSame.out (by unfold vpB; simp; omega)
    have h0' : ¬ (0 ≤ i) := by omega
    have h1' : i < (a : Int) := by omega
    go_enter Try.func38, Try.ntmps38
    go_wp2
    refine bodyPost_ret (results_none rfl _ _ _) rfl ?_
    rw [HK.out]
    exact ⟨rfl, HT.out, OwnR.of_no (Kept.refl _ _) hlt⟩
  · by_cases ha : i < (a : Int)
    · obtain ⟨m, rfl⟩ : ∃ m : Nat, i = (m : Int) := ⟨i.toNat, by omega⟩
      have hma : m < a := by omega
      have HK : Hid (killR a n sl (m : Int) = sput sl (m : Int) (0, 0)) := by
        show _ = _
        unfold killR
        have hv : vpB a n (m : Int) = true := by unfold vpB; simp; omega
        rw [hv, if_pos rfl]
        unfold keyAt
        rw [if_pos ha]
        rfl
      obtain ⟨bA, rfl, cs, hbA, hcs⟩ := HR.out.ar (by omega)
      have z0 : w.cell? ⟨bA, m * 2, none⟩ = some (.int .i64 (sl (m : Int)).1) := by rw [cell_of hbA]; exact (hcs m hma).1
      have z1 : w.cell? ⟨bA, m * 2 + 1, none⟩ = some (.int .i64 (sl (m : Int)).2) := by rw [cell_of hbA]; exact (hcs m hma).2
      have zf := frozen_of hbA
      have hQ : bA ≠ Q := fun e => by rw [e, HR.out.hd] at hbA; cases hbA
      have hQ2 : Q ≠ bA := fun e => hQ e.symm
      have HE : Hid (RB (wr2 bA (m * 2) (.int .i64 0) (.int .i64 0) w) Q most a n (sput sl (m : Int) (0, 0)) (some ⟨bA, 0, none⟩) lo ca cl ∧ OwnR w Q (wr2 bA (m * 2) (.int .i64 0) (.int .i64 0) w)) := HR.out.setA hma (0, 0)
      unfold wr2 at HE
      have e1 : (0 : Int) ≤ (m : Int) := by omega
      clear hbA hcs
      go_enter Try.func38, Try.ntmps38
      go_wp2
      refine bodyPost_ret (results_none rfl _ _ _) rfl ?_
      rw [HK.out]
      exact ⟨rfl, HE.out.1.rt, HE.out.2⟩
    · obtain ⟨d, rfl⟩ : ∃ d : Nat, i = (a : Int) + (d : Int) := ⟨(i - (a : Int)).toNat, by omega⟩
      have e0 : (a : Int) + (d : Int) - (a : Int) = (d : Int) := by omega
      have ha' : (0 : Int) ≤ (a : Int) + (d : Int) := by omega
      have e1 : (d : Int).tdiv 2 = ((d / 2 : Nat) : Int) := by rw [Int.tdiv_eq_ediv_of_nonneg (by omega)]; omega
      have e2 : (d : Int).tmod 2 = ((d % 2 : Nat) : Int) := by rw [Int.tmod_eq_emod_of_nonneg (by omega)]; omega
      by_cases hpar : d % 2 = 1 ∧ d / 2 < n
      · obtain ⟨m, rfl⟩ : ∃ m, d = 2 * m + 1 := ⟨d / 2, by omega⟩
        have hm : m < n := by omega
        have e3 : (2 * m + 1) / 2 = m := by omega
        have e4 : (2 * m + 1) % 2 = 1 := by omega
        rw [e3] at e1
        rw [e4] at e2
        have e5 : (a : Int) + ((2 * m + 1 : Nat) : Int) = (a : Int) + 2 * (m : Int) + 1 := by omega
        obtain ⟨bL, rfl, cs, hbL, hcs⟩ := HR.out.nd (by omega)
        have z0 : w.cell? ⟨bL, m * 4, none⟩ = some (.int .i64 (sl ((a : Int) + 2 * (m : Int))).1) := by rw [cell_of hbL]; exact (hcs m hm).1.1
        have z2 : w.cell? ⟨bL, m * 4 + 2, none⟩ = some (.int .i64 (sl ((a : Int) + 2 * (m : Int) + 1)).1) := by rw [cell_of hbL]; exact (hcs m hm).2.1
        have z3 : w.cell? ⟨bL, m * 4 + 3, none⟩ = some (.int .i64 (sl ((a : Int) + 2 * (m : Int) + 1)).2) := by rw [cell_of hbL]; exact (hcs m hm).2.2
        have zf := frozen_of hbL
        have hQ : bL ≠ Q := fun e => by rw [e, HR.out.hd] at hbL; cases hbL
        have hQ2 : Q ≠ bL := fun e => hQ e.symm
        obtain ⟨s1, s2⟩ := HR.out.setV hm (0, 0)
        obtain ⟨s3, s4⟩ := s1.setT hm 11
        have HE1 : Hid (RB (wr2 bL (m * 4 + 2) (.int .i64 0) (.int .i64 0) w) Q most a n (sput sl ((a : Int) + 2 * (m : Int) + 1) (0, 0)) ao (some ⟨bL, 0, none⟩) ca cl ∧ OwnR w Q (wr2 bL (m * 4 + 2) (.int .i64 0) (.int .i64 0) w)) := ⟨s1, s2⟩
        have HE2 : Hid _ := (⟨s3, s2.trans s4⟩ : _ ∧ _)
        unfold wr2 at HE1 HE2
        have HK : Hid (killR a n sl ((a : Int) + ((2 * m + 1 : Nat) : Int)) = if (decide (4 ≤ (sl ((a : Int) + 2 * (m : Int))).1) && decide ((sl ((a : Int) + 2 * (m : Int))).1 ≤ 9)) = true then sput (sput sl ((a : Int) + 2 * (m : Int) + 1) (0, 0)) ((a : Int) + 2 * (m : Int)) (11, (sl ((a : Int) + 2 * (m : Int))).2) else sput sl ((a : Int) + 2 * (m : Int) + 1) (0, 0)) := by
          show _ = _
          rw [e5]
          unfold killR
          have hv : vpB a n ((a : Int) + 2 * (m : Int) + 1) = true := by unfold vpB; simp; omega
          have hk : keyAt a (sput sl ((a : Int) + 2 * (m : Int) + 1) (0, 0)) ((a : Int) + 2 * (m : Int) + 1) = sl ((a : Int) + 2 * (m : Int)) := by
            unfold keyAt
            rw [if_neg (by omega), show (a : Int) + 2 * (m : Int) + 1 - 1 = (a : Int) + 2 * (m : Int) by omega, sput_ne (by omega)]
          rw [hv, if_pos rfl, hk, show (a : Int) + 2 * (m : Int) + 1 - 1 = (a : Int) + 2 * (m : Int) by omega]
        rw [sput_ne (by omega)] at HE2
        generalize sl ((a : Int) + 2 * (m : Int)) = k at z0 HK HE2
        obtain ⟨k1, k2⟩ := k
        simp only at z0 HK HE2
        have mm : (m : Int) < (n : Int) := by omega
        have mm0 : (0 : Int) ≤ (m : Int) := by omega
        have mm1 : ¬ (n : Int) ≤ (m : Int) := by omega
        have mna : ¬ (a : Int) + ((2 * m + 1 : Nat) : Int) < (a : Int) := by omega
        clear hbL hcs s1 s2 s3 s4 e3 e4 e5 hpar ha h0
        generalize ((2 * m + 1 : Nat) : Int) = dd at *
        cases h4 : decide (4 ≤ k1)
        · have HK2 : Hid (killR a n sl ((a : Int) + dd) = sput sl ((a : Int) + 2 * (m : Int) + 1) (0, 0)) := by show _ = _; rw [HK.out, h4]; rfl
          clear HK HE2
          go_enter Try.func38, Try.ntmps38
          go_wp2
          go_end0
          rw [HK2.out]
          exact ⟨rfl, HE1.out.1.rt, HE1.out.2⟩
        · cases h9 : decide (k1 ≤ 9)
          · have HK2 : Hid (killR a n sl ((a : Int) + dd) = sput sl ((a : Int) + 2 * (m : Int) + 1) (0, 0)) := by show _ = _; rw [HK.out, h4, h9]; rfl
            clear HK HE2
            go_enter Try.func38, Try.ntmps38
            go_wp2
            go_end0
            rw [HK2.out]
            exact ⟨rfl, HE1.out.1.rt, HE1.out.2⟩
          · have HK2 : Hid (killR a n sl ((a : Int) + dd) = sput (sput sl ((a : Int) + 2 * (m : Int) + 1) (0, 0)) ((a : Int) + 2 * (m : Int)) (11, k2)) := by show _ = _; rw [HK.out, h4, h9]; rfl
            clear HK HE1
            go_enter Try.func38, Try.ntmps38
            go_wp2
            go_end0
            rw [HK2.out]
            exact ⟨rfl, HE2.out.1.rt, HE2.out.2⟩
      · have HK : Hid (killR a n sl ((a : Int) + (d : Int)) = sl) := HSame.out (by
          unfold vpB
          simp only [Bool.and_eq_false_iff, Bool.or_eq_false_iff, decide_eq_false_iff_not]
          omega)
        have hna : ¬ (a : Int) + (d : Int) < (a : Int) := by omega
        have hd2 : d % 2 = 0 ∨ d % 2 = 1 ∧ n ≤ d / 2 := by omega
        clear hpar ha h0
        rcases hd2 with hd2 | ⟨hd2, hd3⟩
        · rw [hd2] at e2
          go_enter Try.func38, Try.ntmps38
          go_wp2
          refine bodyPost_ret (results_none rfl _ _ _) rfl ?_
          rw [HK.out]
          exact ⟨rfl, HT.out, OwnR.of_no (Kept.refl _ _) hlt⟩
        · rw [hd2] at e2
          have hd4 : (n : Int) ≤ ((d / 2 : Nat) : Int) := by omega
          go_enter Try.func38, Try.ntmps38
          go_wp2
          refine bodyPost_ret (results_none rfl _ _ _) rfl ?_
          rw [HK.out]
          exact ⟨rfl, HT.out, OwnR.of_no (Kept.refl _ _) hlt⟩
end Go.Proofs.Ythefmfjlinpepaa
