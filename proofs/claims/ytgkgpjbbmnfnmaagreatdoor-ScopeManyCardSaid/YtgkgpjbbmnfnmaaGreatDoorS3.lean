/- Scope: the map from a variable to how many names for it stand in other functions. -/
import Derived.Test.YtgkgpjbbmnfnmaaGreatDoorS2
import Derived.Test.YtgkgpjbbmnfnmaaGreatDoorEM
import Derived.RangeFuncRecord
import Derived.WideKeyPair
import Derived.DeepKeys4
namespace Go.Proofs.YtgkgpjbbmnfnmaaGreatDoor
open Go.RowKit
set_option linter.unusedSimpArgs false
set_option linter.unusedVariables false

/-- How a number reads. -/
def jR : Value → Option (DataW Unit × List MemPlace)
  | .int .i64 n => some (.lit (.int .i64 n), [])
  | _ => none
def jD (n : Int) : DataW Unit := .lit (.int .i64 n)
theorem jR_mk (n : Int) : jR (.int .i64 n) = some (jD n, []) := rfl
theorem jR_inv {v : Value} {n : Int} {ps : List MemPlace} (h : jR v = some (jD n, ps)) : v = .int .i64 n := by
  unfold jR at h
  split at h
  · simp only [jD, Option.some.injEq, Prod.mk.injEq, DataW.lit.injEq, Lit.int.injEq, true_and] at h
    rw [h.1]
  · cases h
/-- A number that an int can be. -/
def wf (h : Int) : Prop := (Lit.int .i64 h).wf = true
theorem zero3 (w : World) : (zeroValue 3).run Tryz.prog w = .ok (.int .i64 0) w := by kernel_rfl
theorem Try_laidOut : laidOutB Tryz.prog = true := by kernel_rfl
theorem row89 : (89 : TypeId) < Tryz.prog.types.size := of_decide_eq_true (by kernel_rfl)
theorem wide89 : (match Tryz.prog.underlying 89 with | some (.array _ _) | some (.struct _) => true | _ => false) = true := by rw [Tryz.underlying89]
set_option maxRecDepth 100000 in
theorem law89 : WideMaps.KeyLaw Tryz.prog 89 := deep_law_laid Try_laidOut (m := 2) (by omega) row89 (by kernel_rfl) wide89
theorem keyed89 : Maps.Keyed Tryz.prog 89 := Maps.Keyed.of_law law89
/-- A variable as a key. -/
def nk (t h : Int) : Lit := .string (keyBytes [.int .i64 t, .int .i64 h])
set_option maxRecDepth 100000 in
theorem keyOf_var {t h : Int} (ht : wf t) (hh : wf h) : keyOf Tryz.prog 89 (.agg #[.int .i64 t, .int .i64 h]) = some (nk t h) := by
  unfold keyOf
  simp only [Tryz.underlying89]
  rw [if_pos (by
    rw [show Tryz.prog.keyType 89 = true by kernel_rfl]
    simp [Value.formed, Tryz.underlying89, show Tryz.prog.cellsOf 89 = 2 by kernel_rfl])]
  obtain ⟨m, hm⟩ : ∃ m, Tryz.prog.types.size = m + 1 := ⟨Tryz.prog.types.size - 1, (Nat.sub_add_cancel (Nat.lt_of_le_of_lt (Nat.zero_le _) row89)).symm⟩
  rw [hm]
  unfold wf at ht hh
  unfold Program.keyLits
  simp [Tryz.underlying89, Value.cells, Program.keyLits, Tryz.underlying3, show Tryz.prog.cellsOf 89 = 2 by kernel_rfl, show Tryz.prog.cellsOf 3 = 1 by kernel_rfl, ht, hh, nk]
theorem nk_ne {t h t' h' : Int} (ht : wf t) (hh : wf h) (ht' : wf t') (hh' : wf h') (hne : ¬ (t = t' ∧ h = h')) : nk t h ≠ nk t' h' := by
  intro e
  have := keyed89.inj (keyOf_var ht hh) (e ▸ keyOf_var ht' hh')
  simp at this
  exact hne this
/-- Block M is a map from variables to numbers. -/
def MapF (w : World) (M n : Nat) (fr : Int → Int → Int) : Prop :=
  ∃ D : DataW Unit, w.ownsMap Tryz.prog 89 jR M n D ∧ ∀ t h, wf t → wf h → D.atKey (nk t h) (jD 0) = jD (fr t h)
theorem MapF.kept {S : Nat → Prop} {w w' : World} {M n : Nat} {fr : Int → Int → Int} (h : MapF w M n fr) (hk : Kept S w w') (hn : ¬ S M) : MapF w' M n fr := by
  obtain ⟨D, ⟨es, cc, hb, r⟩, hD⟩ := h
  exact ⟨D, ⟨es, cc, hk.heap hb hn, r⟩, hD⟩
theorem MapF.made (w : World) : MapF (w.alloc (.map #[] 0)) w.heap.size 0 (fun _ _ => 0) := ⟨.map [], World.ownsMap_made w _ _ _, fun _ _ _ _ => rfl⟩
theorem MapF.blk {w : World} {M n : Nat} {fr : Int → Int → Int} (h : MapF w M n fr) : ∃ es c, w.heap[M]? = some (.map es c) := by
  obtain ⟨D, ⟨es, cc, hb, r⟩, hD⟩ := h
  exact ⟨es, cc, hb⟩
theorem MapF.look {w : World} {M n : Nat} {fr : Int → Int → Int} (hM : MapF w M n fr) {t h : Int} (ht : wf t) (hh : wf h) :
    (Instr.lookup 67 (.map (some M)) (.agg #[.int .i64 t, .int .i64 h]) false).run Tryz.prog w = .ok (.int .i64 (fr t h)) w := by
  obtain ⟨D, ho, hD⟩ := hM
  obtain ⟨v, ps, hrun, hR⟩ := ho.lookup keyed89 Tryz.underlying67 (zero3 w) (zd := jD 0) (zp := []) (jR_mk 0) (keyOf_var ht hh)
  rw [hD t h ht hh] at hR
  rw [hrun, jR_inv hR]
set_option maxRecDepth 20000 in
theorem MapF.bump {w : World} {M n : Nat} {fr : Int → Int → Int} (hM : MapF w M n fr) (hn : n ≤ 1000000) {t h : Int} (ht : wf t) (hh : wf h) (x : Int) :
    ∃ zz stamp w1 w2, (Instr.lookup 67 (.map (some M)) (.agg #[.int .i64 t, .int .i64 h]) false).run Tryz.prog w1 = .ok (.int .i64 (fr t h)) w1 ∧ (Instr.mapEntry 67 (.map (some M)) (.agg #[.int .i64 t, .int .i64 h])).run Tryz.prog w = .ok (.tuple #[zz, .int .i64 stamp]) w1 ∧ Kept (fun k => k = M) w w1 ∧
      (Instr.entryStore 67 (.map (some M)) (.int .i64 stamp) (.int .i64 x)).run Tryz.prog w1 = .ok () w2 ∧ MapF w2 M (n + 1) (fun t' h' => if t' = t ∧ h' = h then x else fr t' h') ∧ Kept (fun k => k = M) w w2 := by
  have hlook := hM.look ht hh
  obtain ⟨D, ho, hD⟩ := hM
  obtain ⟨w3, hrun, ho3, hturn⟩ := ho.store keyed89 Tryz.underlying67 (by unfold maxLen; omega) (keyOf_var ht hh) (jR_mk x)
  have hkl : WideAt.IsKeyLit (nk t h) := keyed89.key (keyOf_var ht hh)
  have hw3 : MapF w3 M (n + 1) (fun t' h' => if t' = t ∧ h' = h then x else fr t' h') := by
    refine ⟨_, ho3, fun t' h' ht' hh' => ?_⟩
    dsimp only
    by_cases e : t' = t ∧ h' = h
    · obtain ⟨rfl, rfl⟩ := e
      rw [if_pos ⟨rfl, rfl⟩]
      exact Maps.atKey_put_same ho.isMap hkl _ _
    · rw [if_neg e]
      exact (Maps.atKey_put_other (nk_ne ht' hh' ht hh e) _ _).trans (hD t' h' ht' hh')
  have hk3 : Kept (fun k => k = M) w w3 := (Kept.refl _ _).grown hturn.grown (fun j e => by cases e; exact Or.inl rfl)
  obtain ⟨es, clock, hb, F, hs, rfl⟩ := ho
  obtain ⟨zz, stamp, es1, c1, es', c', e1, e2, e3, e4, e5⟩ := entry_store keyed89 Tryz.underlying67 hb F (val := .int .i64 x) (keyOf_var ht hh) (zero3 w)
  rw [e3] at hrun
  injection hrun with _ hw
  subst hw
  have hzz : zz = .int .i64 (fr t h) := by
    exact ((Result.ok.inj (hlook.symm.trans e4)).1).symm
  refine ⟨zz, stamp, _, _, by rw [e5, hzz], e1, ?_, e2, hw3, hk3⟩
  have hbs : ∀ b, b ≠ M → (Go.ChangeMaps.setBlock w M (.map es1 c1)).heap[b]? = w.heap[b]? := fun b hne => (Go.MapKept.heap_set hb).2 b hne
  exact ⟨rfl, rfl, rfl, by simp [Go.ChangeMaps.setBlock], fun k _ hk => hbs k hk⟩
end Go.Proofs.YtgkgpjbbmnfnmaaGreatDoor
