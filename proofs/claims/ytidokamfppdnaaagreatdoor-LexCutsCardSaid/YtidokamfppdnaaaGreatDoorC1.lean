/- The words of the language: the map of them; Word. -/
import Derived.Test.YtidokamfppdnaaaGreatDoorC0
import Derived.Maps.OwnSet
import Derived.Maps.OwnIn
namespace Go.Proofs.YtidokamfppdnaaaGreatDoor
open Go.RowKit
set_option linter.unusedSimpArgs false
set_option linter.unusedVariables false

/-- Outside of S nothing has turned. -/
structure Kept (S : Nat → Prop) (w w' : World) : Prop where
  os : w'.os = w.os
  tape : w'.tape = w.tape
  output : w'.output = w.output
  size : w.heap.size ≤ w'.heap.size
  block : ∀ k, k < w.heap.size → ¬ S k → w'.heap[k]? = w.heap[k]?
/-- Nothing. -/
def No : Nat → Prop := fun _ => False
theorem Kept.refl (S : Nat → Prop) (w : World) : Kept S w w := ⟨rfl, rfl, rfl, Nat.le_refl _, fun _ _ _ => rfl⟩
theorem Kept.mono {S T : Nat → Prop} {w w' : World} (h : Kept S w w') (hs : ∀ k, S k → T k) : Kept T w w' :=
  ⟨h.os, h.tape, h.output, h.size, fun k hk hn => h.block k hk (fun e => hn (hs k e))⟩
theorem Kept.no {T : Nat → Prop} {w w' : World} (h : Kept No w w') : Kept T w w' := h.mono (fun _ e => e.elim)
theorem Kept.trans {S : Nat → Prop} {a b c : World} (h : Kept S a b) (k : Kept S b c) : Kept S a c :=
  ⟨k.os.trans h.os, k.tape.trans h.tape, k.output.trans h.output, Nat.le_trans h.size k.size, fun i hi hn => (k.block i (Nat.lt_of_lt_of_le hi h.size) hn).trans (h.block i hi hn)⟩
theorem Kept.trans' {S T : Nat → Prop} {a b c : World} (h : Kept S a b) (k : Kept T b c) (ht : ∀ i, T i → S i ∨ a.heap.size ≤ i) : Kept S a c :=
  ⟨k.os.trans h.os, k.tape.trans h.tape, k.output.trans h.output, Nat.le_trans h.size k.size, fun i hi hn =>
    (k.block i (Nat.lt_of_lt_of_le hi h.size) (fun e => (ht i e).elim hn (fun e' => by omega))).trans (h.block i hi hn)⟩
theorem Kept.drew {S : Nat → Prop} {a w : World} (h : Kept S a w) : Kept S a w.drew := ⟨h.os, h.tape, h.output, h.size, h.block⟩
theorem Kept.drewN {S : Nat → Prop} {a w : World} (h : Kept S a w) (n : Nat) : Kept S a (w.drewN n) := ⟨h.os, h.tape, h.output, h.size, h.block⟩
theorem Kept.alloc {S : Nat → Prop} {a w : World} (h : Kept S a w) (o : Obj) : Kept S a (w.alloc o) :=
  h.trans' (T := No) ⟨rfl, rfl, rfl, by simp, fun k hk _ => Below.heap_alloc w o k hk⟩ (fun _ e => e.elim)
theorem Kept.set {S : Nat → Prop} {a w : World} (h : Kept S a w) (b o : Nat) (v : Value) (hb : S b ∨ a.heap.size ≤ b) : Kept S a (w.setCell ⟨b, o, none⟩ v) :=
  h.trans' (T := fun k => k = b) ⟨rfl, rfl, rfl, by simp [World.setCell], fun k _ hn => Below.heap_setCell w _ v k hn⟩ (fun i e => by subst e; exact hb)
theorem Kept.grown {S : Nat → Prop} {a w w' : World} {row : Option Nat} (h : Kept S a w) (hg : w.grownBy w' row) (hr : ∀ k, row = some k → S k ∨ a.heap.size ≤ k) : Kept S a w' :=
  h.trans' (T := fun k => row = some k) ⟨hg.os, hg.tape, hg.output, hg.size, fun k hk hn => hg.block k hk (fun e => hn e.symm)⟩ hr
theorem Kept.of_below {w w' : World} (h : Below w.heap.size w w') : Kept No w w' := ⟨h.os, h.tape, h.output, h.size, fun k hk _ => h.block k hk⟩
theorem Kept.below {w w' : World} (h : Kept No w w') : Below w.heap.size w w' := ⟨h.os, h.tape, h.output, h.size, fun k hk => h.block k hk id⟩
theorem Kept.heap {S : Nat → Prop} {w w' : World} (h : Kept S w w') {k : Nat} {o : Obj} (hk : w.heap[k]? = some o) (hn : ¬ S k) : w'.heap[k]? = some o :=
  (h.block k (Array.getElem?_eq_some_iff.1 hk).1 hn).trans hk
theorem hp_lt {w : World} {k : Nat} {o : Obj} (h : w.heap[k]? = some o) : k < w.heap.size := (Array.getElem?_eq_some_iff.1 h).1
theorem cell_of {w : World} {b : Nat} {c : Array Value} {e : TypeId} {f : Nat × Nat} (h : w.heap[b]? = some (.cells c e f)) (o : Nat) : w.cell? ⟨b, o, none⟩ = c[o]? := by
  simp [World.cell?, h]

theorem keyed9 : Maps.Keyed Tryz.prog 9 := Maps.string_keyed Tryz.underlying9
theorem key9 (s : ByteArray) (hs : s.size ≤ maxLen) : keyOf Tryz.prog 9 (.string s) = some (.string s.data.toList) := by
  rw [keyOf_string Tryz.underlying9]
  simp [mapKey, Tryz.underlying9, hs]
theorem zero49 (w : World) : (zeroValue 54).run Tryz.prog w = .ok (.agg #[]) w := by kernel_rfl

/-- Block M is the set of these texts. -/
def WIs (w : World) (M n : Nat) (L : List (List UInt8)) : Prop := ∃ D : DataW Unit, w.ownsMap Tryz.prog 9 unitElem M n D ∧ ∀ s, Maps.has D (.string s) = L.contains s
theorem WIs.made (w : World) : WIs (w.alloc (.map #[] 0)) w.heap.size 0 [] := ⟨.map [], World.ownsMap_made w _ _ _, fun _ => rfl⟩
theorem WIs.kept {S : Nat → Prop} {w w' : World} {M n : Nat} {L : List (List UInt8)} (h : WIs w M n L) (hk : Kept S w w') (hn : ¬ S M) : WIs w' M n L := by
  obtain ⟨D, ⟨es, c, hb, r⟩, hD⟩ := h
  exact ⟨D, ⟨es, c, hk.heap hb hn, r⟩, hD⟩
theorem WIs.no {w w' : World} {M n : Nat} {L : List (List UInt8)} (h : WIs w M n L) (hk : Kept No w w') : WIs w' M n L := h.kept hk id
theorem WIs.lt {w : World} {M n : Nat} {L : List (List UInt8)} (h : WIs w M n L) : M < w.heap.size := h.choose_spec.1.lt
theorem WIs.look {w : World} {M n : Nat} {L : List (List UInt8)} (h : WIs w M n L) (s : ByteArray) (hs : s.size ≤ maxLen) :
    (Instr.lookup 43 (.map (some M)) (.string s) true).run Tryz.prog w = .ok (.tuple #[.agg #[], .bool (L.contains s.data.toList)]) w := by
  obtain ⟨D, ho, hD⟩ := h
  obtain ⟨v, ps, hrun, hv⟩ := ho.look_ok keyed9 Tryz.underlying43 (zero49 w) (zd := .agg []) (zp := []) unitElem_mk (key9 s hs)
  obtain ⟨rfl, _⟩ := unitElem_inv hv
  rw [hrun, hD]
/-- A text is put in. -/
theorem wp_ins {ops : Array Oper} {rest : List Oper} {o : Oper} {a : Act} {Q : Exit → Act → World → Prop} {w : World} (hg : o.guard = none) (m x v : Operand) (hop : o.op = Op.insert 43 m x v) (b n : Nat) (L : List (List UInt8))
    (hm : a.eval m = .map (some b)) (hown : WIs w b n L) (hn : n < 1000) (s : ByteArray) (hx : a.eval x = .string s) (hs : s.size ≤ 1000) (hv : a.eval v = .agg #[])
    (hK : ∀ w', Hid (WIs w' b (n + 1) (s.data.toList :: L)) → Hid (w.grownBy w' (some b)) → wpList Tryz.prog ops Q rest (a.put o.dst undef) w') : wpList Tryz.prog ops Q (o :: rest) a w := by
  obtain ⟨D, ho, hD⟩ := hown
  have h63 : n < maxLen := by unfold maxLen; omega
  have hs63 : s.size ≤ maxLen := by unfold maxLen; omega
  refine wpList_plain hg fun K' hK' => ?_
  obtain ⟨w', hrun, r1, r2⟩ := ho.store keyed9 Tryz.underlying43 h63 (key9 s hs63) unitElem_mk
  unfold Oper.wp
  simp [execOp, hop, hm, hx, hv, hrun, Result.andThen]
  refine hK' _ _ (hK w' ⟨_, r1, fun t => ?_⟩ r2.grown)
  by_cases e : t = s.data.toList
  · subst e
    rw [Maps.has_put_same ho.isMap (keyed9.key (key9 s hs63))]
    simp
  · rw [Maps.has_put_other (fun e2 => e (by injection e2)), hD]
    rw [List.contains_cons]
    simp [e]

/-- The words, the last one first. -/
def wordsL : List (List UInt8) := [[119, 104, 105, 108, 101], [116, 114, 117, 101], [116, 104, 101, 110], [114, 101, 116, 117, 114, 110], [111, 114], [110, 111, 116], [110, 105, 108], [108, 111, 99, 97, 108], [105, 102], [102, 117, 110, 99, 116, 105, 111, 110], [102, 111, 114], [102, 97, 108, 115, 101], [101, 110, 100], [101, 108, 115, 101, 105, 102], [101, 108, 115, 101], [100, 111], [98, 114, 101, 97, 107], [97, 110, 100]]
set_option maxRecDepth 20000 in
set_option maxHeartbeats 2000000 in
theorem words_any (w : World) : Calls Tryz.prog 15 #[] w fun e w' => e = .returned (.map (some w.heap.size)) ∧ WIs w' w.heap.size 18 wordsL ∧ Kept No w w' := by
  have hmm := @run_makeMap Tryz.prog
  have H : Hid (WIs (w.alloc (.map #[] 0)) w.heap.size 0 []) := WIs.made w
  have HK : Hid (Kept No w (w.alloc (.map #[] 0))) := (Kept.refl No w).alloc _
  obtain ⟨M, HM⟩ : ∃ M, Hid (w.heap.size = M) := ⟨_, show _ = _ from rfl⟩
  rw [HM.out] at H
  rw [HM.out]
  go_enter Tryz.func15, Tryz.ntmps15
  go_wp2_with
    (try rw [HM.out]
     refine wp_ins rfl _ _ _ rfl M _ _ rfl H.out (by omega) _ rfl (by decide) rfl ?_
     clear H
     intro w1 H HG
     have HK2 : Hid (Kept No w w1) := HK.out.grown HG.out (fun k e => .inr (by have := HM.out; injection e with e; omega))
     clear HK HG
     have HK : Hid (Kept No w w1) := HK2.out
     clear HK2)
  go_ret
  exact ⟨rfl, H.out, HK.out⟩

/-- Is it a word? -/
def isWd (s : ByteArray) : Bool := wordsL.contains s.data.toList
set_option maxHeartbeats 1000000 in
theorem Word_any (s : ByteArray) (w : World) (hs : s.size ≤ maxLen) : Calls Tryz.prog 14 #[.string s] w fun e w' => e = .returned (.bool (isWd s)) ∧ Kept No w w' := by
  have HS : Hid (s.size ≤ maxLen) := hs
  clear hs
  obtain ⟨b, HB⟩ : ∃ b, Hid (wordsL.contains s.data.toList = b) := ⟨_, show _ = _ from rfl⟩
  have HB2 : Hid (isWd s = b) := HB.out
  rw [HB2.out]
  go_enter Tryz.func14, Tryz.ntmps14
  go_wp2_with fail
  refine (words_any w).mono ?_
  rintro e w1 ⟨rfl, h1, k1⟩
  have hl := h1.look s HS.out
  rw [HB.out] at hl
  have HK : Hid (Kept No w w1) := k1
  clear h1 k1
  go_wp2
  go_ret
  exact ⟨rfl, HK.out.alloc _⟩
end Go.Proofs.YtidokamfppdnaaaGreatDoor
