/- Views in memory; the map of names. -/
import Derived.Test.YtnihfakhijjjkaaA1
import Derived.RangeFuncRecord
import Derived.WideKeyPair
import Derived.DeepKeys4
import Derived.Deep.RegionHeld3
namespace Go.Proofs.Ytnihfakhijjjkaa
open Go.RowKit
set_option linter.unusedSimpArgs false
set_option linter.unusedVariables false

/-- A value of the language: its type and its number. -/
abbrev V := Int × Int
abbrev AV (v : V) : Value := .agg #[.int .i64 v.1, .int .i64 v.2]
/-- An object as a view has it. -/
structure Sn where
  h : Int
  kind : Int
  weak : Int
  arr : Int
  sl : List V
  fin : Int
  col : Int
  age : Int
abbrev AS (s : Sn) (sv : Value) : Value := .agg #[.int .i64 s.h, .int .i64 s.kind, .int .i64 s.weak, .int .i64 s.arr, sv, .int .i64 s.fin, .int .i64 s.col, .int .i64 s.age]
abbrev BS (s : Sn) (sv : Value) : Obj := .cells #[.int .i64 s.h, .int .i64 s.kind, .int .i64 s.weak, .int .i64 s.arr, sv, .int .i64 s.fin, .int .i64 s.col, .int .i64 s.age] 36
abbrev PT (b : Nat) : Value := .pointer (some ⟨b, 0, none⟩)

/-- A slice of values that can be read. -/
def RdV (W : World) (v : Value) (L : List V) : Prop :=
  ∃ ao cap, v = .slice ao L.length cap ∧ ∀ j (hj : j < L.length), ∃ b off, ao = some ⟨b, off, none⟩ ∧ W.cell? ⟨b, off + j * 2, none⟩ = some (.int .i64 L[j].1) ∧ W.cell? ⟨b, off + j * 2 + 1, none⟩ = some (.int .i64 L[j].2)
/-- A slice of ints that can be read. -/
def RdI (W : World) (v : Value) (L : List Int) : Prop :=
  ∃ ao cap, v = .slice ao L.length cap ∧ ∀ j (hj : j < L.length), ∃ b off, ao = some ⟨b, off, none⟩ ∧ W.cell? ⟨b, off + j, none⟩ = some (.int .i64 L[j])
/-- A slice of objects that can be read. -/
def RdS (W : World) (v : Value) (S : List Sn) : Prop :=
  ∃ ao cap, v = .slice ao S.length cap ∧ ∀ j (hj : j < S.length), ∃ b off sv, ao = some ⟨b, off, none⟩ ∧ W.cell? ⟨b, off + j * 8, none⟩ = some (.int .i64 S[j].h) ∧ W.cell? ⟨b, off + j * 8 + 1, none⟩ = some (.int .i64 S[j].kind) ∧
    W.cell? ⟨b, off + j * 8 + 2, none⟩ = some (.int .i64 S[j].weak) ∧ W.cell? ⟨b, off + j * 8 + 3, none⟩ = some (.int .i64 S[j].arr) ∧ W.cell? ⟨b, off + j * 8 + 4, none⟩ = some sv ∧ W.cell? ⟨b, off + j * 8 + 5, none⟩ = some (.int .i64 S[j].fin) ∧
    W.cell? ⟨b, off + j * 8 + 6, none⟩ = some (.int .i64 S[j].col) ∧ W.cell? ⟨b, off + j * 8 + 7, none⟩ = some (.int .i64 S[j].age) ∧ RdV W sv S[j].sl

theorem cell_blk {W : World} {b o : Nat} {v : Value} (h : W.cell? ⟨b, o, none⟩ = some v) : b < W.heap.size ∧ ∃ c e f, W.heap[b]? = some (.cells c e f) := by
  rcases Nat.lt_or_ge b W.heap.size with hb | hb
  · refine ⟨hb, ?_⟩
    cases ho : W.heap[b]? with
    | none => simp [World.cell?, ho] at h
    | some o' =>
      cases o' with
      | cells c e f => exact ⟨c, e, f, rfl⟩
      | _ => simp [World.cell?, ho] at h
  · simp [World.cell?, Array.getElem?_eq_none hb] at h

theorem RdV.tn {B : Nat} {W W' : World} {v : Value} {L : List V} (h : RdV W v L) (hk : Kept No W W') : RdV W' v L := by
  obtain ⟨ao, cap, e, h⟩ := h
  refine ⟨ao, cap, e, fun j hj => ?_⟩
  obtain ⟨b, off, e2, h1, h2⟩ := h j hj
  have e3 : ∀ o, W'.cell? ⟨b, o, none⟩ = W.cell? ⟨b, o, none⟩ := fun o => World.cell?_of_block (hk.block b (cell_blk h1).1 id)
  exact ⟨b, off, e2, by rw [e3]; exact h1, by rw [e3]; exact h2⟩
/-- What is read lies in blocks that have not turned. -/
theorem RdV.kept {S : Nat → Prop} {W W' : World} {v : Value} {L : List V} (h : RdV W v L) (hk : Kept S W W') (hS : ∀ k, S k → ∀ a n c, v = .slice (some a) n c → a.block ≠ k) : RdV W' v L := by
  obtain ⟨ao, cap, e, h⟩ := h
  refine ⟨ao, cap, e, fun j hj => ?_⟩
  obtain ⟨b, off, e2, h1, h2⟩ := h j hj
  have e3 : ∀ o, W'.cell? ⟨b, o, none⟩ = W.cell? ⟨b, o, none⟩ := fun o => World.cell?_of_block (hk.block b (cell_blk h1).1 (fun hs => hS b hs ⟨b, off, none⟩ _ _ (by rw [e, e2]) rfl))
  exact ⟨b, off, e2, by rw [e3]; exact h1, by rw [e3]; exact h2⟩
theorem RdI.no {W W' : World} {v : Value} {L : List Int} (h : RdI W v L) (hk : Kept No W W') : RdI W' v L := by
  obtain ⟨ao, cap, e, h⟩ := h
  refine ⟨ao, cap, e, fun j hj => ?_⟩
  obtain ⟨b, off, e2, h1⟩ := h j hj
  exact ⟨b, off, e2, (World.cell?_of_block (hk.block b (cell_blk h1).1 id)).trans h1⟩
theorem RdV.no {W W' : World} {v : Value} {L : List V} (h : RdV W v L) (hk : Kept No W W') : RdV W' v L := RdV.tn (B := 0) h hk
theorem RdS.no {W W' : World} {v : Value} {S : List Sn} (h : RdS W v S) (hk : Kept No W W') : RdS W' v S := by
  obtain ⟨ao, cap, e, h⟩ := h
  refine ⟨ao, cap, e, fun j hj => ?_⟩
  obtain ⟨b, off, sv, e2, h0, h1, h2, h3, h4, h5, h6, h7, h8⟩ := h j hj
  have e3 : ∀ o, W'.cell? ⟨b, o, none⟩ = W.cell? ⟨b, o, none⟩ := fun o => World.cell?_of_block (hk.block b (cell_blk h0).1 id)
  exact ⟨b, off, sv, e2, by rw [e3]; exact h0, by rw [e3]; exact h1, by rw [e3]; exact h2, by rw [e3]; exact h3, by rw [e3]; exact h4, by rw [e3]; exact h5, by rw [e3]; exact h6, by rw [e3]; exact h7, h8.no hk⟩

/-- How a number reads. -/
def jR : Value → Option (DataW Unit × List MemPlace)
  | .int .i64 n => some (.lit (.int .i64 n), [])
  | _ => none
def jD (n : Int) : DataW Unit := .lit (.int .i64 n)
theorem jR_mk (n : Int) : jR (.int .i64 n) = some (jD n, []) := rfl
theorem jR_inv {v : Value} {n : Int} {ps : List MemPlace} (h : jR v = some (jD n, ps)) : v = .int .i64 n := by
  unfold jR at h
  split at h
  · simp only [jD, Option.some.injEq, Prod.mk.injEq, DataW.lit.injEq, Lit.int.injEq, true_and] at h
    rw [h.1]
  · cases h
/-- A number that an int can be. -/
def wf (h : Int) : Prop := (Lit.int .i64 h).wf = true
theorem zero3 (w : World) : (zeroValue 3).run Try.prog w = .ok (.int .i64 0) w := by kernel_rfl
theorem Try_laidOut : laidOutB Try.prog = true := by kernel_rfl
theorem row53 : (53 : TypeId) < Try.prog.types.size := of_decide_eq_true (by kernel_rfl)
theorem wide53 : (match Try.prog.underlying 53 with | some (.array _ _) | some (.struct _) => true | _ => false) = true := by rw [Try.underlying53]
theorem law53 : WideMaps.KeyLaw Try.prog 53 := deep_law_laid Try_laidOut (m := 2) (by omega) row53 (by kernel_rfl) wide53
theorem keyed53 : Maps.Keyed Try.prog 53 := Maps.Keyed.of_law law53
theorem arr53 : WideMaps.ArrKey Try.prog 53 2 2 := ⟨Try.underlying53, by kernel_rfl, by kernel_rfl, by kernel_rfl⟩
theorem types_pos : ∃ m, Try.prog.types.size = m + 1 := ⟨Try.prog.types.size - 1, (Nat.sub_add_cancel (Nat.lt_of_le_of_lt (Nat.zero_le _) row53)).symm⟩
/-- A name as a key. -/
def nk (t h : Int) : Lit := .string (keyBytes [.int .i64 t, .int .i64 h])
theorem keyOf_name {t h : Int} (ht : wf t) (hh : wf h) : keyOf Try.prog 53 (.agg #[.int .i64 t, .int .i64 h]) = some (nk t h) :=
  WideMaps.keyOf_pair arr53 Try.underlying2 types_pos ht hh
theorem nk_ne {t h t' h' : Int} (ht : wf t) (hh : wf h) (ht' : wf t') (hh' : wf h') (hne : ¬ (t = t' ∧ h = h')) : nk t h ≠ nk t' h' := by
  intro e
  have := keyed53.inj (keyOf_name ht hh) (e ▸ keyOf_name ht' hh')
  simp at this
  exact hne this

/-- Block M is a map from names to places. -/
def MapN (w : World) (M n : Nat) (sl : Int → Int → Option Nat) : Prop :=
  ∃ D : DataW Unit, w.ownsMap Try.prog 53 jR M n D ∧ ∀ t h, wf t → wf h → Maps.has D (nk t h) = (sl t h).isSome ∧ D.atKey (nk t h) (jD 0) = jD (((sl t h).getD 0 : Nat) : Int)
theorem MapN.kept {S : Nat → Prop} {w w' : World} {M n : Nat} {sl : Int → Int → Option Nat} (h : MapN w M n sl) (hk : Kept S w w') (hn : ¬ S M) : MapN w' M n sl := by
  obtain ⟨D, ⟨es, cc, hb, r⟩, hD⟩ := h
  exact ⟨D, ⟨es, cc, hk.heap hb hn, r⟩, hD⟩
theorem MapN.tn {ts : List Nat} {B : Nat} {w w' : World} {M n : Nat} {sl : Int → Int → Option Nat} (h : MapN w M n sl) (hk : Tn ts B w w') : MapN w' M n sl := by
  obtain ⟨D, ⟨es, cc, hb, r⟩, hD⟩ := h
  refine ⟨D, ⟨es, cc, Kept.heap hk hb ?_, r⟩, hD⟩
  rintro ⟨_, c', e', f', h1, _⟩
  rw [hb] at h1; cases h1
theorem MapN.made (w : World) : MapN (w.alloc (.map #[] 0)) w.heap.size 0 (fun _ _ => none) := ⟨.map [], World.ownsMap_made w _ _ _, fun _ _ _ _ => ⟨rfl, rfl⟩⟩
theorem MapN.look {w : World} {M n : Nat} {sl : Int → Int → Option Nat} (hM : MapN w M n sl) {t h : Int} (ht : wf t) (hh : wf h) :
    (Instr.lookup 49 (.map (some M)) (.agg #[.int .i64 t, .int .i64 h]) true).run Try.prog w = .ok (.tuple #[.int .i64 (((sl t h).getD 0 : Nat) : Int), .bool (sl t h).isSome]) w := by
  obtain ⟨D, ho, hD⟩ := hM
  obtain ⟨v, ps, hrun, hR⟩ := ho.look_ok keyed53 Try.underlying49 (zero3 w) (zd := jD 0) (zp := []) (jR_mk 0) (keyOf_name ht hh)
  rw [(hD t h ht hh).2] at hR
  rw [hrun, jR_inv hR, (hD t h ht hh).1]
theorem MapN.set {w : World} {M n : Nat} {sl : Int → Int → Option Nat} (hM : MapN w M n sl) (hn : n ≤ 1000000) {t h : Int} (ht : wf t) (hh : wf h) (x : Nat) :
    ∃ w', (Instr.mapUpdate 49 (.map (some M)) (.agg #[.int .i64 t, .int .i64 h]) (.int .i64 (x : Int))).run Try.prog w = .ok () w' ∧ MapN w' M (n + 1) (fun t' h' => if t' = t ∧ h' = h then some x else sl t' h') ∧ Kept (fun k => k = M) w w' := by
  obtain ⟨D, ho, hD⟩ := hM
  obtain ⟨w3, hrun, ho3, hturn⟩ := ho.store keyed53 Try.underlying49 (by unfold maxLen; omega) (keyOf_name ht hh) (jR_mk x)
  refine ⟨w3, hrun, ⟨_, ho3, fun t' h' ht' hh' => ?_⟩, (Kept.refl _ _).grown hturn.grown (fun j e => by cases e; exact Or.inl rfl)⟩
  have hkl : WideAt.IsKeyLit (nk t h) := keyed53.key (keyOf_name ht hh)
  dsimp only
  by_cases e : t' = t ∧ h' = h
  · obtain ⟨rfl, rfl⟩ := e
    rw [if_pos ⟨rfl, rfl⟩]
    exact ⟨Maps.has_put_same ho.isMap hkl _, Maps.atKey_put_same ho.isMap hkl _ _⟩
  · rw [if_neg e]
    have hne := nk_ne ht' hh' ht hh e
    exact ⟨(Maps.has_put_other hne _).trans (hD t' h' ht' hh').1, (Maps.atKey_put_other hne _ _).trans (hD t' h' ht' hh').2⟩

/-- The place of the first one with this kind and handle, among the first ones. -/
def fst1 (S : List Sn) (t h : Int) : Option Nat := S.findIdx? (fun s => decide (s.kind = t ∧ s.h = h))
theorem fst1_snoc (S : List Sn) (s : Sn) (t h : Int) : fst1 (S ++ [s]) t h = (fst1 S t h).or (if t = s.kind ∧ h = s.h then some S.length else none) := by
  unfold fst1
  rw [List.findIdx?_append]
  cases hf : S.findIdx? (fun s => decide (s.kind = t ∧ s.h = h)) with
  | some i => simp
  | none =>
    by_cases e : t = s.kind ∧ h = s.h
    · obtain ⟨rfl, rfl⟩ := e; simp [List.findIdx?_cons]
    · rw [if_neg e]
      have : ¬ (s.kind = t ∧ s.h = h) := fun ⟨a, b⟩ => e ⟨a.symm, b.symm⟩
      simp [List.findIdx?_cons, this]
theorem fst1_lt {S : List Sn} {t h : Int} {i : Nat} (hf : fst1 S t h = some i) : i < S.length := by
  unfold fst1 at hf
  exact (List.findIdx?_eq_some_iff_findIdx_eq.1 hf).1
end Go.Proofs.Ytnihfakhijjjkaa
