/- The map of blocks by handles. -/
import Derived.Test.YtdaklohfecinjaaA6
import Derived.Maps.OwnSet
import Derived.Maps.OwnIn
namespace Go.Proofs.Ytdaklohfecinjaa
open Go.RowKit
set_option linter.unusedSimpArgs false
set_option linter.unusedVariables false

/-- How a pointer to a whole block reads. -/
def pR : Value → Option (DataW Unit × List MemPlace)
  | .pointer none => some (.nil, [])
  | .pointer (some ⟨b, 0, none⟩) => some (.lit (.int .i64 b), [])
  | _ => none
/-- .. as a datum. -/
def pD : Option Nat → DataW Unit
  | none => .nil
  | some b => .lit (.int .i64 b)
theorem pR_mk (p : Option Nat) : pR (.pointer (pt p)) = some (pD p, []) := by cases p <;> rfl
theorem pR_inv {v : Value} {p : Option Nat} {ps : List MemPlace} (h : pR v = some (pD p, ps)) : v = .pointer (pt p) := by
  unfold pR at h
  split at h
  · cases p with
    | none => rfl
    | some b => simp [pD] at h
  · cases p with
    | none => simp [pD] at h
    | some b =>
      simp [pD] at h
      obtain ⟨h1, _⟩ := h
      have h2 := Int.ofNat.inj h1
      rw [← h2]; rfl
  · cases h

/-- A number that an int can be. -/
def wf (h : Int) : Prop := (Lit.int .i64 h).wf = true
theorem wf_of {h : Int} (h1 : -9223372036854775808 ≤ h) (h2 : h ≤ 9223372036854775807) : wf h := by
  have e1 : IntKind.i64.min = -9223372036854775808 := by decide
  have e2 : IntKind.i64.max = 9223372036854775807 := by decide
  unfold wf; simp [Lit.wf, e1, e2]; omega

theorem keyed3 : Maps.Keyed Try.prog 3 := Maps.int_keyed Try.underlying3
theorem zero59 (w : World) : (zeroValue 59).run Try.prog w = .ok (.pointer none) w := by kernel_rfl

/-- Block M is a map of at most n entries that has g. -/
def MapIs (w : World) (M n : Nat) (g : Int → Option Nat) : Prop :=
  ∃ D : DataW Unit, w.ownsMap Try.prog 3 pR M n D ∧ ∀ h, D.atKey (.int .i64 h) .nil = pD (g h) ∧ Maps.has D (.int .i64 h) = (g h).isSome

theorem MapIs.kept {S : Nat → Prop} {w w' : World} {M n : Nat} {g : Int → Option Nat} (h : MapIs w M n g) (hk : Kept S w w') (hn : ¬ S M) : MapIs w' M n g := by
  obtain ⟨D, ⟨es, c, hb, r⟩, hD⟩ := h
  exact ⟨D, ⟨es, c, hk.heap hb hn, r⟩, hD⟩
theorem MapIs.lt {w : World} {M n : Nat} {g : Int → Option Nat} (h : MapIs w M n g) : M < w.heap.size := h.choose_spec.1.lt
theorem MapIs.not_cells {w : World} {M n : Nat} {g : Int → Option Nat} (h : MapIs w M n g) {k : Nat} {c : Array Value} {e : TypeId} {f : Nat × Nat} (hk : w.heap[k]? = some (.cells c e f)) : M ≠ k := by
  obtain ⟨D, ⟨es, cc, hb, r⟩, hD⟩ := h
  intro e; subst e; rw [hb] at hk; cases hk
theorem MapIs.made (w : World) : MapIs (w.alloc (.map #[] 0)) w.heap.size 0 (fun _ => none) :=
  ⟨.map [], World.ownsMap_made w _ _ _, fun _ => ⟨rfl, rfl⟩⟩

theorem MapIs.look {w : World} {M n : Nat} {g : Int → Option Nat} (hM : MapIs w M n g) {h : Int} (hw : wf h) :
    (Instr.lookup 62 (.map (some M)) (.int .i64 h) false).run Try.prog w = .ok (.pointer (pt (g h))) w := by
  obtain ⟨D, ho, hD⟩ := hM
  obtain ⟨v, ps, hrun, hR⟩ := ho.lookup keyed3 Try.underlying62 (zero59 w) (zd := .nil) (zp := []) rfl (Maps.keyOf_int_mk Try.underlying3 hw)
  rw [(hD h).1] at hR
  rw [hrun, pR_inv hR]

theorem key_ne {h h' : Int} (hne : h' ≠ h) : (Lit.int .i64 h') ≠ (Lit.int .i64 h) := by intro e; cases e; exact hne rfl

theorem MapIs.put {w w' : World} {M n : Nat} {g : Int → Option Nat} {D : DataW Unit} (hD : ∀ h, D.atKey (.int .i64 h) .nil = pD (g h) ∧ Maps.has D (.int .i64 h) = (g h).isSome) (hm : Maps.IsMap D) {h : Int} (hw : wf h) (b : Nat)
    (ho : w'.ownsMap Try.prog 3 pR M n (D.put (.int .i64 h) (pD (some b)))) : MapIs w' M n (fun i => if i = h then some b else g i) := by
  have hkl : WideAt.IsKeyLit (.int .i64 h) := keyed3.key (Maps.keyOf_int_mk Try.underlying3 hw)
  refine ⟨_, ho, fun i => ?_⟩
  by_cases e : i = h
  · subst e
    dsimp only
    rw [if_pos rfl]
    exact ⟨Maps.atKey_put_same hm hkl _ _, Maps.has_put_same hm hkl _⟩
  · dsimp only
    rw [if_neg e]
    exact ⟨(Maps.atKey_put_other (key_ne e) _ _).trans (hD i).1, (Maps.has_put_other (key_ne e) _).trans (hD i).2⟩
theorem MapIs.del {w' : World} {M n : Nat} {g : Int → Option Nat} {D : DataW Unit} (hD : ∀ h, D.atKey (.int .i64 h) .nil = pD (g h) ∧ Maps.has D (.int .i64 h) = (g h).isSome) {h : Int}
    (ho : w'.ownsMap Try.prog 3 pR M n (D.del (.int .i64 h))) : MapIs w' M n (fun i => if i = h then none else g i) := by
  refine ⟨_, ho, fun i => ?_⟩
  by_cases e : i = h
  · subst e
    dsimp only
    rw [if_pos rfl]
    exact ⟨Maps.atKey_del_same _, Maps.has_del_same⟩
  · dsimp only
    rw [if_neg e]
    exact ⟨(Maps.atKey_del_other (key_ne e) _).trans (hD i).1, (Maps.has_del_other (key_ne e)).trans (hD i).2⟩

set_option maxHeartbeats 400000 in
theorem find_nil (h : Int) (w : World) :
    Calls Try.prog 50 #[.pointer none, .int .i64 h] w fun e w' => e = .returned (.tuple #[.pointer none, .int .i64 2]) ∧ w = w' := by
  go_enter Try.func50, Try.ntmps50
  go_wp2_with (go_at_call 52; refine (made_nil _).mono ?_; rintro e w' ⟨rfl, rfl⟩)
  go_ret2
  exact ⟨rfl, rfl⟩

set_option maxHeartbeats 400000 in
theorem find_none {A C M F f size least n : Nat} {g : Int → Option Nat} (h : Int) (w : World) (hA : w.heap[A]? = some (ar C M F f size least)) (hM : MapIs w M n g) (hw : wf h) (hg : g h = none) :
    Calls Try.prog 50 #[.pointer (some ⟨A, 0, none⟩), .int .i64 h] w fun e w' => e = .returned (.tuple #[.pointer none, .int .i64 5]) ∧ w = w' := by
  have HA : Hid (w.heap[A]? = some (ar C M F f size least)) := hA
  obtain ⟨a0, a1, a2, a3, a4⟩ := ar_cells hA
  have hl := hM.look hw
  rw [hg, pt_none] at hl
  clear hA hM hg
  go_enter Try.func50, Try.ntmps50
  go_wp2_with (go_at_call 52; refine (made_any _ HA.out).mono ?_; rintro e w' ⟨rfl, rfl⟩)
  go_ret2
  exact ⟨rfl, rfl⟩

set_option maxHeartbeats 400000 in
theorem find_some {A C M F f size least n p : Nat} {g : Int → Option Nat} (h : Int) (w : World) (hA : w.heap[A]? = some (ar C M F f size least)) (hM : MapIs w M n g) (hw : wf h) (hg : g h = some p) :
    Calls Try.prog 50 #[.pointer (some ⟨A, 0, none⟩), .int .i64 h] w fun e w' => e = .returned (.tuple #[.pointer (some ⟨p, 0, none⟩), .int .i64 0]) ∧ w = w' := by
  have HA : Hid (w.heap[A]? = some (ar C M F f size least)) := hA
  obtain ⟨a0, a1, a2, a3, a4⟩ := ar_cells hA
  have hl := hM.look hw
  rw [hg, pt_some] at hl
  clear hA hM hg
  go_enter Try.func50, Try.ntmps50
  go_wp2_with (go_at_call 52; refine (made_any _ HA.out).mono ?_; rintro e w' ⟨rfl, rfl⟩)
  go_ret2
  exact ⟨rfl, rfl⟩
end Go.Proofs.Ytdaklohfecinjaa
