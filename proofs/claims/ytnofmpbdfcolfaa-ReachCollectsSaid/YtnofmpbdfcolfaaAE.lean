/- newWalk. -/
import Derived.Test.YtnofmpbdfcolfaaAD
import Derived.Laws.EntriesVeiled
namespace Go.Proofs.Ytnofmpbdfcolfaa
open Go.RowKit Go.Shelf
set_option linter.unusedSimpArgs false
set_option linter.unusedVariables false

/-- A walk at its beginning. -/
def st0 (n : Nat) : St := ⟨List.replicate n false, List.replicate n [], []⟩

theorem newStack_any (w : World) : Calls Try.prog 40 #[] w fun e w' => e = .returned (.tuple #[PUSH w.heap.size, POP w.heap.size]) ∧ w' = w.alloc (.cells #[.slice none 0 0] 26) := by
  go_enter Try.func40, Try.ntmps40
  go_wp2
  go_ret2
  exact ⟨rfl, rfl⟩

theorem info4 : (Try.prog.info? 4).map (fun i => (i.zero, i.size, i.bytes)) = some (some (.bool false), 1, 1) := by kernel_rfl
theorem info23 : (Try.prog.info? 23).map (fun i => (i.zero, i.size, i.bytes)) = some (some (.slice none 0 0), 1, 24) := by kernel_rfl
theorem made_one (z : Value) (n : Nat) : madeCells #[z] (n * 1) = (List.replicate n z).toArray := by
  apply Array.ext
  · simp [madeCells]
  · intro i h1 h2
    simp [madeCells, Nat.mod_one]
def mkN (n : Nat) : Obj := .cells (bc (List.replicate n false)).toArray 4
def mkW (n : Nat) : Obj := .cells (List.replicate n (Value.slice none 0 0)).toArray 23
theorem run_mk30 (n : Nat) (hn : n ≤ 100000) (w : World) : (Instr.makeSlice 30 (.int .i64 (n : Int)) (.int .i64 (n : Int))).run Try.prog w = .ok (SLN w.heap.size n) (w.alloc (mkN n)) := by
  obtain ⟨i0, hi, hz0, hz1, hz2⟩ := info_parts info4
  rw [run_make w 30 4 i0 _ Try.underlying30 hi hz0 .i64 .i64 (n : Int) (n : Int) (by omega) (Int.le_refl _) (by rw [hz2]; omega) (by omega)]
  rw [hz1, Int.toNat_natCast]
  have : madeCells (Value.bool false).cells (n * 1) = (bc (List.replicate n false)).toArray := by
    rw [show (Value.bool false).cells = #[.bool false] from rfl, made_one]; simp [bc]
  rw [this]; rfl
theorem run_mk57 (n : Nat) (hn : n ≤ 100000) (w : World) : (Instr.makeSlice 57 (.int .i64 (n : Int)) (.int .i64 (n : Int))).run Try.prog w = .ok (SLN w.heap.size n) (w.alloc (mkW n)) := by
  obtain ⟨i0, hi, hz0, hz1, hz2⟩ := info_parts info23
  rw [run_make w 57 23 i0 _ Try.underlying57 hi hz0 .i64 .i64 (n : Int) (n : Int) (by omega) (Int.le_refl _) (by rw [hz2]; omega) (by omega)]
  rw [hz1, Int.toNat_natCast]
  have : madeCells (Value.slice none 0 0).cells (n * 1) = (List.replicate n (Value.slice none 0 0)).toArray := by
    rw [show (Value.slice none 0 0).cells = #[.slice none 0 0] from rfl, made_one]
  rw [this]; rfl

theorem newWalk_fin {E : Ev} (hE : E.Ok) {w W : World} (hb : Below E.B E.w w) {ao : Option Addr} {cap : Nat} (htv : E.tv = .slice ao E.T.length cap) (hk : Kept No w W) {c nb wb : Nat}
    (hn : W.heap[nb]? = some (mkN E.T.length)) (hw : W.heap[wb]? = some (mkW E.T.length)) (hc : W.heap[c]? = some (.cells #[.slice ao E.T.length cap, SLN nb E.T.length, SLN wb E.T.length, .nilFunc, .nilFunc] 60))
    (b1 : w.heap.size ≤ c) (b2 : w.heap.size ≤ nb) (b3 : w.heap.size ≤ wb) :
    Wk E c nb wb W.heap.size (((W.alloc (.cells #[.slice none 0 0] 26)).setCell ⟨c, 3, none⟩ (PUSH W.heap.size)).setCell ⟨c, 4, none⟩ (POP W.heap.size)) (st0 E.T.length) ∧
      Kept No w (((W.alloc (.cells #[.slice none 0 0] 26)).setCell ⟨c, 3, none⟩ (PUSH W.heap.size)).setCell ⟨c, 4, none⟩ (POP W.heap.size)) := by
  have hEB : E.B ≤ w.heap.size := Nat.le_trans hE.le hb.size
  have K : Kept No w (((W.alloc (.cells #[.slice none 0 0] 26)).setCell ⟨c, 3, none⟩ (PUSH W.heap.size)).setCell ⟨c, 4, none⟩ (POP W.heap.size)) :=
    ((hk.alloc _).set _ _ _ (.inr b1)).set _ _ _ (.inr b1)
  have old : ∀ (k : Nat) (o : Obj), W.heap[k]? = some o → k ≠ c → (((W.alloc (.cells #[.slice none 0 0] 26)).setCell ⟨c, 3, none⟩ (PUSH W.heap.size)).setCell ⟨c, 4, none⟩ (POP W.heap.size)).heap[k]? = some o := fun k o h hne =>
    hp_set_other (hp_set_other ((Below.heap_alloc W _ k (hp_lt h)).trans h) 3 _ hne) 4 _ hne
  have hnc : nb ≠ c := ne_ty hn hc (by decide)
  have hwc : wb ≠ c := ne_ty hw hc (by decide)
  have hcl := hp_lt hc
  refine ⟨⟨⟨K.os.trans hb.os, K.tape.trans hb.tape, K.output.trans hb.output, Nat.le_trans hb.size K.size, fun k hk' => (K.block k (by omega) id).trans (hb.block k hk')⟩, ?_, old nb _ hn hnc, ?_, ⟨List.replicate E.T.length (.slice none 0 0), old wb _ hw hwc, ?_, ?_, ?_, ?_⟩, ⟨⟨.slice none 0 0, ?_, IRow.nil _ _⟩, ?_⟩, by omega, by omega, by omega, ?_, ?_⟩, K⟩
  · have h1 := hp_set_same ((Below.heap_alloc W (.cells #[.slice none 0 0] 26) c hcl).trans hc) 3 (PUSH W.heap.size)
    have h2 := hp_set_same h1 4 (POP W.heap.size)
    rw [h2, htv]; rfl
  · simp [st0]
  · simp
  · simp [st0]
  · intro i hi
    have e1 : (List.replicate E.T.length (Value.slice none 0 0)).getD i undef = .slice none 0 0 := by simp [List.getD, hi]
    have e2 : (st0 E.T.length).wt.getD i [] = [] := by simp [st0, List.getD, hi]
    rw [e1, e2]; exact VRow.nil _ _
  · intro i j hi hj hij k hk'
    have e1 : (List.replicate E.T.length (Value.slice none 0 0)).getD i undef = .slice none 0 0 := by simp [List.getD, hi]
    rw [e1] at hk'; cases hk'
  · have hne : W.heap.size ≠ c := by omega
    exact hp_set_other (hp_set_other (World.alloc_heap_new W _) 3 _ hne) 4 _ hne
  · have := hk.size; omega
  · simp [st0]
  · intro h hh; simp [st0] at hh

set_option maxRecDepth 20000 in
set_option maxHeartbeats 4000000 in
theorem newWalk_any {E : Ev} (hE : E.Ok) {w : World} (hb : Below E.B E.w w) :
    Calls Try.prog 27 #[E.tv] w fun e w' => ∃ c nb wb kb, e = .returned (PT c) ∧ Wk E c nb wb kb w' (st0 E.T.length) ∧ Kept No w w' := by
  have HE : Hid E.Ok := hE
  have HB : Hid (Below E.B E.w w) := hb
  have hsm := hE.sm
  have hmN : ∀ w : World, (Instr.makeSlice 30 (.int .i64 (E.T.length : Int)) (.int .i64 (E.T.length : Int))).run Try.prog w = .ok (SLN w.heap.size E.T.length) (w.alloc (mkN E.T.length)) := run_mk30 _ (by omega)
  have hmW : ∀ w : World, (Instr.makeSlice 57 (.int .i64 (E.T.length : Int)) (.int .i64 (E.T.length : Int))).run Try.prog w = .ok (SLN w.heap.size E.T.length) (w.alloc (mkW E.T.length)) := run_mk57 _ (by omega)
  obtain ⟨ao, cap, htv, hrd⟩ := hE.rd w hb
  have HTv : Hid (E.tv = .slice ao E.T.length cap) := htv
  rw [htv]
  clear hrd htv hb
  go_enter Try.func27, Try.ntmps27
  go_wp2_with fail
  go_region
  · obtain ⟨W, HWd⟩ : ∃ W, Hid (W = (((w.alloc (mkN E.T.length)).alloc (mkW E.T.length)).alloc (.cells #[.slice ao E.T.length cap, SLN (w.heap.size) E.T.length, SLN (w.heap.size + 1) E.T.length, .nilFunc, .nilFunc] 60)).drew) := ⟨_, rfl⟩
    have HK : Hid (Kept No w W) := by show Kept _ _ _; rw [HWd.out]; exact ((((Kept.refl _ _).alloc _).alloc _).alloc _).drew
    have f0 : W.heap[w.heap.size]? = some (mkN E.T.length) := by
      rw [HWd.out]; exact (Below.heap_alloc _ _ _ (by simp; omega)).trans ((Below.heap_alloc _ _ _ (by simp)).trans (World.alloc_heap_new w _))
    have f1 : W.heap[w.heap.size + 1]? = some (mkW E.T.length) := by
      rw [HWd.out]; refine (Below.heap_alloc _ _ _ (by simp)).trans ?_; have := World.alloc_heap_new (w.alloc (mkN E.T.length)) (mkW E.T.length); rwa [World.size_alloc] at this
    have f2 : W.heap[w.heap.size + 1 + 1]? = some (.cells #[.slice ao E.T.length cap, SLN (w.heap.size) E.T.length, SLN (w.heap.size + 1) E.T.length, .nilFunc, .nilFunc] 60) := by
      rw [HWd.out]; have := World.alloc_heap_new ((w.alloc (mkN E.T.length)).alloc (mkW E.T.length)) (.cells #[.slice ao E.T.length cap, SLN (w.heap.size) E.T.length, SLN (w.heap.size + 1) E.T.length, .nilFunc, .nilFunc] 60); rwa [World.size_alloc, World.size_alloc] at this
    have hz : W.heap.size = w.heap.size + 3 := by rw [HWd.out]; simp [World.drew]
    rw [← HWd.out]
    clear HWd hmN hmW
    have HFin : Hid (∀ W2, W2 = (((W.alloc (.cells #[.slice none 0 0] 26)).setCell ⟨w.heap.size + 1 + 1, 3, none⟩ (PUSH W.heap.size)).setCell ⟨w.heap.size + 1 + 1, 4, none⟩ (POP W.heap.size)) → Wk E (w.heap.size + 1 + 1) (w.heap.size) (w.heap.size + 1) W.heap.size W2 (st0 E.T.length) ∧ Kept No w W2) := fun W2 e => by
      subst e
      exact newWalk_fin HE.out HB.out HTv.out HK.out f0 f1 f2 (by omega) (by omega) (by omega)
    have g2 : (W.alloc (.cells #[.slice none 0 0] 26)).heap[w.heap.size + 1 + 1]? = some (.cells #[.slice ao E.T.length cap, SLN (w.heap.size) E.T.length, SLN (w.heap.size + 1) E.T.length, .nilFunc, .nilFunc] 60) := (Below.heap_alloc _ _ _ (by omega)).trans f2
    have c3 : (W.alloc (.cells #[.slice none 0 0] 26)).cell? ⟨w.heap.size + 1 + 1, 3, none⟩ = some .nilFunc := by rw [cell_of g2]; rfl
    have c4 : (W.alloc (.cells #[.slice none 0 0] 26)).cell? ⟨w.heap.size + 1 + 1, 4, none⟩ = some .nilFunc := by rw [cell_of g2]; rfl
    have fz : ∀ o, (W.alloc (.cells #[.slice none 0 0] 26)).frozen? ⟨w.heap.size + 1 + 1, o, none⟩ = false := frozen_of g2
    clear f0 f1 f2 g2 HK hz
    generalize w.heap.size + 1 + 1 = cb at HFin c3 c4 fz ⊢
    go_wp2_with fail
    go_at_call 40
    refine (newStack_any W).mono ?_
    rintro e w' ⟨rfl, hw'⟩
    rw [← hw'] at c3 c4 fz HFin
    clear hw'
    go_wp2
    go_ret
    exact ⟨_, _, _, _, rfl, HFin.out _ rfl⟩
  · obtain ⟨W, HWd⟩ : ∃ W, Hid (W = (((w.alloc (mkW E.T.length)).alloc (mkN E.T.length)).alloc (.cells #[.slice ao E.T.length cap, SLN (w.heap.size + 1) E.T.length, SLN (w.heap.size) E.T.length, .nilFunc, .nilFunc] 60)).drew) := ⟨_, rfl⟩
    have HK : Hid (Kept No w W) := by show Kept _ _ _; rw [HWd.out]; exact ((((Kept.refl _ _).alloc _).alloc _).alloc _).drew
    have f0 : W.heap[w.heap.size]? = some (mkW E.T.length) := by
      rw [HWd.out]; exact (Below.heap_alloc _ _ _ (by simp; omega)).trans ((Below.heap_alloc _ _ _ (by simp)).trans (World.alloc_heap_new w _))
    have f1 : W.heap[w.heap.size + 1]? = some (mkN E.T.length) := by
      rw [HWd.out]; refine (Below.heap_alloc _ _ _ (by simp)).trans ?_; have := World.alloc_heap_new (w.alloc (mkW E.T.length)) (mkN E.T.length); rwa [World.size_alloc] at this
    have f2 : W.heap[w.heap.size + 1 + 1]? = some (.cells #[.slice ao E.T.length cap, SLN (w.heap.size + 1) E.T.length, SLN (w.heap.size) E.T.length, .nilFunc, .nilFunc] 60) := by
      rw [HWd.out]; have := World.alloc_heap_new ((w.alloc (mkW E.T.length)).alloc (mkN E.T.length)) (.cells #[.slice ao E.T.length cap, SLN (w.heap.size + 1) E.T.length, SLN (w.heap.size) E.T.length, .nilFunc, .nilFunc] 60); rwa [World.size_alloc, World.size_alloc] at this
    have hz : W.heap.size = w.heap.size + 3 := by rw [HWd.out]; simp [World.drew]
    rw [← HWd.out]
    clear HWd hmN hmW
    have HFin : Hid (∀ W2, W2 = (((W.alloc (.cells #[.slice none 0 0] 26)).setCell ⟨w.heap.size + 1 + 1, 3, none⟩ (PUSH W.heap.size)).setCell ⟨w.heap.size + 1 + 1, 4, none⟩ (POP W.heap.size)) → Wk E (w.heap.size + 1 + 1) (w.heap.size + 1) (w.heap.size) W.heap.size W2 (st0 E.T.length) ∧ Kept No w W2) := fun W2 e => by
      subst e
      exact newWalk_fin HE.out HB.out HTv.out HK.out f1 f0 f2 (by omega) (by omega) (by omega)
    have g2 : (W.alloc (.cells #[.slice none 0 0] 26)).heap[w.heap.size + 1 + 1]? = some (.cells #[.slice ao E.T.length cap, SLN (w.heap.size + 1) E.T.length, SLN (w.heap.size) E.T.length, .nilFunc, .nilFunc] 60) := (Below.heap_alloc _ _ _ (by omega)).trans f2
    have c3 : (W.alloc (.cells #[.slice none 0 0] 26)).cell? ⟨w.heap.size + 1 + 1, 3, none⟩ = some .nilFunc := by rw [cell_of g2]; rfl
    have c4 : (W.alloc (.cells #[.slice none 0 0] 26)).cell? ⟨w.heap.size + 1 + 1, 4, none⟩ = some .nilFunc := by rw [cell_of g2]; rfl
    have fz : ∀ o, (W.alloc (.cells #[.slice none 0 0] 26)).frozen? ⟨w.heap.size + 1 + 1, o, none⟩ = false := frozen_of g2
    clear f0 f1 f2 g2 HK hz
    generalize w.heap.size + 1 + 1 = cb at HFin c3 c4 fz ⊢
    go_wp2_with fail
    go_at_call 40
    refine (newStack_any W).mono ?_
    rintro e w' ⟨rfl, hw'⟩
    rw [← hw'] at c3 c4 fz HFin
    clear hw'
    go_wp2
    go_ret
    exact ⟨_, _, _, _, rfl, HFin.out _ rfl⟩
end Go.Proofs.Ytnofmpbdfcolfaa
