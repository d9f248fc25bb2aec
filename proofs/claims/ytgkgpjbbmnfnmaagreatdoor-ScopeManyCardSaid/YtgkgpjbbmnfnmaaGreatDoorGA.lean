/- Joined: C0 C1 Shelf C2 C3 RH. -/
import Derived.Test.YtgkgpjbbmnfnmaaGreatDoorRows
import Derived.WalkKit
import Derived.WalkSpells
import Derived.WalkLawsBesides
import Derived.Deep.QuietTactic
import Derived.BigQuiet
import Derived.Maps.OwnSet
import Derived.Maps.OwnIn
import Derived.Shelf.Small.Strs
import Derived.Shelf.Small.Wraps
import Derived.Shelf.LaysM
import Derived.Shelf.LaysC
import Derived.Shelf.Strconv.ParseIntPublic10
import Derived.Shelf.Strconv.Lower
import Derived.Shelf.Strings.Search2
import Derived.Shelf.Strings.Prefix
import Derived.Shelf.Strings.BuilderK
import Derived.Test.YtgkgpjbbmnfnmaaGreatDoorProg
import Derived.WalkMore
import Derived.Deep.RegionHeld3
/- What a step leaves as it was; bytes of names, numbers and blanks. -/
namespace Go.Proofs.YtgkgpjbbmnfnmaaGreatDoor
open Go.RowKit
set_option linter.unusedSimpArgs false
set_option linter.unusedVariables false

set_option maxHeartbeats 400000 in
theorem no_any (n : Int) (w : World) : Calls Tryz.prog 8 #[.int .i64 n] w fun e w' => e = .returned (.int .i64 n) ∧ w = w' := by
  go_enter Tryz.func8, Tryz.ntmps8
  go_wp2
  go_ret
  exact ⟨rfl, rfl⟩

/-- A blank. -/
def isBl (c : UInt8) : Bool := c.toNat == 9 || c.toNat == 10 || c.toNat == 13 || c.toNat == 32
/-- A digit. -/
def isDg (c : UInt8) : Bool := decide (48 ≤ c.toNat) && decide (c.toNat ≤ 57)
/-- A letter. -/
def isLt (c : UInt8) : Bool := decide (97 ≤ c.toNat) && decide (c.toNat ≤ 122) || decide (65 ≤ c.toNat) && decide (c.toNat ≤ 90) || c.toNat == 95
/-- A byte of a name. -/
def isNm (c : UInt8) : Bool := isLt c || isDg c

set_option maxHeartbeats 1000000 in
theorem isBlank_any (c : UInt8) (w : World) : Calls Tryz.prog 27 #[.int .u8 c.toNat] w fun e w' => e = .returned (.bool (isBl c)) ∧ w = w' := by
  unfold isBl
  generalize c.toNat = n
  by_cases h1 : n = 9
  · subst h1
    go_enter Tryz.func27, Tryz.ntmps27
    go_wp2
    go_ret
    exact ⟨rfl, rfl⟩
  · by_cases h2 : n = 10
    · subst h2
      go_enter Tryz.func27, Tryz.ntmps27
      go_wp2
      go_ret
      exact ⟨rfl, rfl⟩
    · by_cases h3 : n = 13
      · subst h3
        go_enter Tryz.func27, Tryz.ntmps27
        go_wp2
        go_ret
        exact ⟨rfl, rfl⟩
      · have e : (n == 9 || n == 10 || n == 13 || n == 32) = (n == 32) := by simp [h1, h2, h3]
        rw [e]
        have b1 : ((n : Int) == 9) = false := by rw [beq_eq_false_iff_ne]; omega
        have b2 : ((n : Int) == 10) = false := by rw [beq_eq_false_iff_ne]; omega
        have b3 : ((n : Int) == 13) = false := by rw [beq_eq_false_iff_ne]; omega
        have e4 : Hid (((n : Int) == 32) = (n == 32)) := by show _ = _; rw [Bool.eq_iff_iff, beq_iff_eq, beq_iff_eq]; omega
        go_enter Tryz.func27, Tryz.ntmps27
        go_wp2
        go_ret
        exact ⟨by rw [← e4.out]; rfl, rfl⟩

set_option maxHeartbeats 1000000 in
theorem isDigit_any (c : UInt8) (w : World) : Calls Tryz.prog 46 #[.int .u8 c.toNat] w fun e w' => e = .returned (.bool (isDg c)) ∧ w = w' := by
  unfold isDg
  generalize c.toNat = n
  by_cases h1 : 48 ≤ n
  · have d1 : decide ((48 : Int) ≤ n) = true := decide_eq_true (by omega)
    by_cases h2 : n ≤ 57
    · have d2 : decide ((n : Int) ≤ 57) = true := decide_eq_true (by omega)
      have e : (decide (48 ≤ n) && decide (n ≤ 57)) = true := by simp [h1, h2]
      rw [e]
      go_enter Tryz.func46, Tryz.ntmps46
      go_wp2
      go_ret
      exact ⟨rfl, rfl⟩
    · have d2 : decide ((n : Int) ≤ 57) = false := decide_eq_false (by omega)
      have e : (decide (48 ≤ n) && decide (n ≤ 57)) = false := by simp [h2]
      rw [e]
      go_enter Tryz.func46, Tryz.ntmps46
      go_wp2
      go_ret
      exact ⟨rfl, rfl⟩
  · have d1 : decide ((48 : Int) ≤ n) = false := decide_eq_false (by omega)
    have e : (decide (48 ≤ n) && decide (n ≤ 57)) = false := by simp [h1]
    rw [e]
    go_enter Tryz.func46, Tryz.ntmps46
    go_wp2
    go_ret
    exact ⟨rfl, rfl⟩

set_option maxHeartbeats 2000000 in
theorem isLetter_any (c : UInt8) (w : World) : Calls Tryz.prog 43 #[.int .u8 c.toNat] w fun e w' => e = .returned (.bool (isLt c)) ∧ w = w' := by
  unfold isLt
  generalize c.toNat = n
  obtain ⟨r, HR⟩ : ∃ r, Hid ((decide (97 ≤ n) && decide (n ≤ 122) || decide (65 ≤ n) && decide (n ≤ 90) || n == 95) = r) := ⟨_, show _ = _ from rfl⟩
  rw [HR.out]
  have hc : (97 ≤ n ∧ n ≤ 122) ∨ (122 < n) ∨ (65 ≤ n ∧ n ≤ 90) ∨ (n < 65) ∨ n = 95 ∨ (90 < n ∧ n < 97 ∧ n ≠ 95) := by omega
  rcases hc with h | h | h | h | h | h
  · have e : true = r := by rw [← HR.out]; simp; omega
    subst e
    have d1 : decide ((97 : Int) ≤ n) = true := decide_eq_true (by omega)
    have d2 : decide ((n : Int) ≤ 122) = true := decide_eq_true (by omega)
    go_enter Tryz.func43, Tryz.ntmps43
    go_wp2
    go_ret
    exact ⟨rfl, rfl⟩
  · have e : false = r := by rw [← HR.out]; simp; omega
    subst e
    have d1 : decide ((97 : Int) ≤ n) = true := decide_eq_true (by omega)
    have d2 : decide ((n : Int) ≤ 122) = false := decide_eq_false (by omega)
    have d3 : decide ((65 : Int) ≤ n) = true := decide_eq_true (by omega)
    have d4 : decide ((n : Int) ≤ 90) = false := decide_eq_false (by omega)
    have d5 : ((n : Int) == 95) = false := by rw [beq_eq_false_iff_ne]; omega
    go_enter Tryz.func43, Tryz.ntmps43
    go_wp2
    go_ret
    exact ⟨rfl, rfl⟩
  · have e : true = r := by rw [← HR.out]; simp; omega
    subst e
    have d1 : decide ((97 : Int) ≤ n) = false := decide_eq_false (by omega)
    have d3 : decide ((65 : Int) ≤ n) = true := decide_eq_true (by omega)
    have d4 : decide ((n : Int) ≤ 90) = true := decide_eq_true (by omega)
    go_enter Tryz.func43, Tryz.ntmps43
    go_wp2
    go_ret
    exact ⟨rfl, rfl⟩
  · have e : false = r := by rw [← HR.out]; simp; omega
    subst e
    have d1 : decide ((97 : Int) ≤ n) = false := decide_eq_false (by omega)
    have d3 : decide ((65 : Int) ≤ n) = false := decide_eq_false (by omega)
    have d5 : ((n : Int) == 95) = false := by rw [beq_eq_false_iff_ne]; omega
    go_enter Tryz.func43, Tryz.ntmps43
    go_wp2
    go_ret
    exact ⟨rfl, rfl⟩
  · have e : true = r := by rw [← HR.out]; simp; omega
    subst e
    subst h
    clear HR
    go_enter Tryz.func43, Tryz.ntmps43
    go_wp2
    go_ret
    exact ⟨rfl, rfl⟩
  · have e : false = r := by rw [← HR.out]; simp; omega
    subst e
    have d1 : decide ((97 : Int) ≤ n) = false := decide_eq_false (by omega)
    have d3 : decide ((65 : Int) ≤ n) = true := decide_eq_true (by omega)
    have d4 : decide ((n : Int) ≤ 90) = false := decide_eq_false (by omega)
    have d5 : ((n : Int) == 95) = false := by rw [beq_eq_false_iff_ne]; omega
    go_enter Tryz.func43, Tryz.ntmps43
    go_wp2
    go_ret
    exact ⟨rfl, rfl⟩

set_option maxHeartbeats 1000000 in
theorem isInName_any (c : UInt8) (w : World) : Calls Tryz.prog 44 #[.int .u8 c.toNat] w fun e w' => e = .returned (.bool (isNm c)) ∧ w = w' := by
  have HL : Hid _ := isLetter_any c w
  have HD : Hid _ := isDigit_any c w
  unfold isNm
  generalize c.toNat = n at HL HD ⊢
  generalize isLt c = b1 at HL ⊢
  generalize isDg c = b2 at HD ⊢
  cases b1 with
  | true =>
    go_enter Tryz.func44, Tryz.ntmps44
    go_wp2_with (first | (go_at_call 43; refine Calls.mono HL.out ?_; rintro e w' ⟨rfl, rfl⟩) | (go_at_call 46; refine Calls.mono HD.out ?_; rintro e w' ⟨rfl, rfl⟩))
    go_ret
    exact ⟨rfl, rfl⟩
  | false =>
    go_enter Tryz.func44, Tryz.ntmps44
    go_wp2_with (first | (go_at_call 43; refine Calls.mono HL.out ?_; rintro e w' ⟨rfl, rfl⟩) | (go_at_call 46; refine Calls.mono HD.out ?_; rintro e w' ⟨rfl, rfl⟩))
    go_ret
    exact ⟨rfl, rfl⟩
end Go.Proofs.YtgkgpjbbmnfnmaaGreatDoor

/- The words of the language: the map of them; Word. -/
namespace Go.Proofs.YtgkgpjbbmnfnmaaGreatDoor
open Go.RowKit
set_option linter.unusedSimpArgs false
set_option linter.unusedVariables false

/-- Outside of S nothing has turned. -/
structure Kept (S : Nat → Prop) (w w' : World) : Prop where
  os : w'.os = w.os
  tape : w'.tape = w.tape
  output : w'.output = w.output
  size : w.heap.size ≤ w'.heap.size
  block : ∀ k, k < w.heap.size → ¬ S k → w'.heap[k]? = w.heap[k]?
/-- Nothing. -/
def No : Nat → Prop := fun _ => False
theorem Kept.refl (S : Nat → Prop) (w : World) : Kept S w w := ⟨rfl, rfl, rfl, Nat.le_refl _, fun _ _ _ => rfl⟩
theorem Kept.mono {S T : Nat → Prop} {w w' : World} (h : Kept S w w') (hs : ∀ k, S k → T k) : Kept T w w' :=
  ⟨h.os, h.tape, h.output, h.size, fun k hk hn => h.block k hk (fun e => hn (hs k e))⟩
theorem Kept.no {T : Nat → Prop} {w w' : World} (h : Kept No w w') : Kept T w w' := h.mono (fun _ e => e.elim)
theorem Kept.trans {S : Nat → Prop} {a b c : World} (h : Kept S a b) (k : Kept S b c) : Kept S a c :=
  ⟨k.os.trans h.os, k.tape.trans h.tape, k.output.trans h.output, Nat.le_trans h.size k.size, fun i hi hn => (k.block i (Nat.lt_of_lt_of_le hi h.size) hn).trans (h.block i hi hn)⟩
theorem Kept.trans' {S T : Nat → Prop} {a b c : World} (h : Kept S a b) (k : Kept T b c) (ht : ∀ i, T i → S i ∨ a.heap.size ≤ i) : Kept S a c :=
  ⟨k.os.trans h.os, k.tape.trans h.tape, k.output.trans h.output, Nat.le_trans h.size k.size, fun i hi hn =>
    (k.block i (Nat.lt_of_lt_of_le hi h.size) (fun e => (ht i e).elim hn (fun e' => by omega))).trans (h.block i hi hn)⟩
theorem Kept.drew {S : Nat → Prop} {a w : World} (h : Kept S a w) : Kept S a w.drew := ⟨h.os, h.tape, h.output, h.size, h.block⟩
theorem Kept.drewN {S : Nat → Prop} {a w : World} (h : Kept S a w) (n : Nat) : Kept S a (w.drewN n) := ⟨h.os, h.tape, h.output, h.size, h.block⟩
theorem Kept.alloc {S : Nat → Prop} {a w : World} (h : Kept S a w) (o : Obj) : Kept S a (w.alloc o) :=
  h.trans' (T := No) ⟨rfl, rfl, rfl, by simp, fun k hk _ => Below.heap_alloc w o k hk⟩ (fun _ e => e.elim)
theorem Kept.set {S : Nat → Prop} {a w : World} (h : Kept S a w) (b o : Nat) (v : Value) (hb : S b ∨ a.heap.size ≤ b) : Kept S a (w.setCell ⟨b, o, none⟩ v) :=
  h.trans' (T := fun k => k = b) ⟨rfl, rfl, rfl, by simp [World.setCell], fun k _ hn => Below.heap_setCell w _ v k hn⟩ (fun i e => by subst e; exact hb)
theorem Kept.grown {S : Nat → Prop} {a w w' : World} {row : Option Nat} (h : Kept S a w) (hg : w.grownBy w' row) (hr : ∀ k, row = some k → S k ∨ a.heap.size ≤ k) : Kept S a w' :=
  h.trans' (T := fun k => row = some k) ⟨hg.os, hg.tape, hg.output, hg.size, fun k hk hn => hg.block k hk (fun e => hn e.symm)⟩ hr
theorem Kept.of_below {w w' : World} (h : Below w.heap.size w w') : Kept No w w' := ⟨h.os, h.tape, h.output, h.size, fun k hk _ => h.block k hk⟩
theorem Kept.below {w w' : World} (h : Kept No w w') : Below w.heap.size w w' := ⟨h.os, h.tape, h.output, h.size, fun k hk => h.block k hk id⟩
theorem Kept.heap {S : Nat → Prop} {w w' : World} (h : Kept S w w') {k : Nat} {o : Obj} (hk : w.heap[k]? = some o) (hn : ¬ S k) : w'.heap[k]? = some o :=
  (h.block k (Array.getElem?_eq_some_iff.1 hk).1 hn).trans hk
theorem hp_lt {w : World} {k : Nat} {o : Obj} (h : w.heap[k]? = some o) : k < w.heap.size := (Array.getElem?_eq_some_iff.1 h).1
theorem cell_of {w : World} {b : Nat} {c : Array Value} {e : TypeId} {f : Nat × Nat} (h : w.heap[b]? = some (.cells c e f)) (o : Nat) : w.cell? ⟨b, o, none⟩ = c[o]? := by
  simp [World.cell?, h]

theorem keyed9 : Maps.Keyed Tryz.prog 9 := Maps.string_keyed Tryz.underlying9
theorem key9 (s : ByteArray) (hs : s.size ≤ maxLen) : keyOf Tryz.prog 9 (.string s) = some (.string s.data.toList) := by
  rw [keyOf_string Tryz.underlying9]
  simp [mapKey, Tryz.underlying9, hs]
theorem zero49 (w : World) : (zeroValue 95).run Tryz.prog w = .ok (.agg #[]) w := by kernel_rfl

/-- Block M is the set of these texts. -/
def WIs (w : World) (M n : Nat) (L : List (List UInt8)) : Prop := ∃ D : DataW Unit, w.ownsMap Tryz.prog 9 unitElem M n D ∧ ∀ s, Maps.has D (.string s) = L.contains s
theorem WIs.made (w : World) : WIs (w.alloc (.map #[] 0)) w.heap.size 0 [] := ⟨.map [], World.ownsMap_made w _ _ _, fun _ => rfl⟩
theorem WIs.kept {S : Nat → Prop} {w w' : World} {M n : Nat} {L : List (List UInt8)} (h : WIs w M n L) (hk : Kept S w w') (hn : ¬ S M) : WIs w' M n L := by
  obtain ⟨D, ⟨es, c, hb, r⟩, hD⟩ := h
  exact ⟨D, ⟨es, c, hk.heap hb hn, r⟩, hD⟩
theorem WIs.no {w w' : World} {M n : Nat} {L : List (List UInt8)} (h : WIs w M n L) (hk : Kept No w w') : WIs w' M n L := h.kept hk id
theorem WIs.lt {w : World} {M n : Nat} {L : List (List UInt8)} (h : WIs w M n L) : M < w.heap.size := h.choose_spec.1.lt
theorem WIs.look {w : World} {M n : Nat} {L : List (List UInt8)} (h : WIs w M n L) (s : ByteArray) (hs : s.size ≤ maxLen) :
    (Instr.lookup 71 (.map (some M)) (.string s) true).run Tryz.prog w = .ok (.tuple #[.agg #[], .bool (L.contains s.data.toList)]) w := by
  obtain ⟨D, ho, hD⟩ := h
  obtain ⟨v, ps, hrun, hv⟩ := ho.look_ok keyed9 Tryz.underlying71 (zero49 w) (zd := .agg []) (zp := []) unitElem_mk (key9 s hs)
  obtain ⟨rfl, _⟩ := unitElem_inv hv
  rw [hrun, hD]
/-- A text is put in. -/
theorem wp_ins {ops : Array Oper} {rest : List Oper} {o : Oper} {a : Act} {Q : Exit → Act → World → Prop} {w : World} (hg : o.guard = none) (m x v : Operand) (hop : o.op = Op.insert 71 m x v) (b n : Nat) (L : List (List UInt8))
    (hm : a.eval m = .map (some b)) (hown : WIs w b n L) (hn : n < 1000) (s : ByteArray) (hx : a.eval x = .string s) (hs : s.size ≤ 1000) (hv : a.eval v = .agg #[])
    (hK : ∀ w', Hid (WIs w' b (n + 1) (s.data.toList :: L)) → Hid (w.grownBy w' (some b)) → wpList Tryz.prog ops Q rest (a.put o.dst undef) w') : wpList Tryz.prog ops Q (o :: rest) a w := by
  obtain ⟨D, ho, hD⟩ := hown
  have h63 : n < maxLen := by unfold maxLen; omega
  have hs63 : s.size ≤ maxLen := by unfold maxLen; omega
  refine wpList_plain hg fun K' hK' => ?_
  obtain ⟨w', hrun, r1, r2⟩ := ho.store keyed9 Tryz.underlying71 h63 (key9 s hs63) unitElem_mk
  unfold Oper.wp
  simp [execOp, hop, hm, hx, hv, hrun, Result.andThen]
  refine hK' _ _ (hK w' ⟨_, r1, fun t => ?_⟩ r2.grown)
  by_cases e : t = s.data.toList
  · subst e
    rw [Maps.has_put_same ho.isMap (keyed9.key (key9 s hs63))]
    simp
  · rw [Maps.has_put_other (fun e2 => e (by injection e2)), hD]
    rw [List.contains_cons]
    simp [e]

/-- The words, the last one first. -/
def wordsL : List (List UInt8) := [[119, 104, 105, 108, 101], [116, 114, 117, 101], [116, 104, 101, 110], [114, 101, 116, 117, 114, 110], [111, 114], [110, 111, 116], [110, 105, 108], [108, 111, 99, 97, 108], [105, 102], [102, 117, 110, 99, 116, 105, 111, 110], [102, 111, 114], [102, 97, 108, 115, 101], [101, 110, 100], [101, 108, 115, 101, 105, 102], [101, 108, 115, 101], [100, 111], [98, 114, 101, 97, 107], [97, 110, 100]]
set_option maxRecDepth 20000 in
set_option maxHeartbeats 2000000 in
theorem words_any (w : World) : Calls Tryz.prog 22 #[] w fun e w' => e = .returned (.map (some w.heap.size)) ∧ WIs w' w.heap.size 18 wordsL ∧ Kept No w w' := by
  have hmm := @run_makeMap Tryz.prog
  have H : Hid (WIs (w.alloc (.map #[] 0)) w.heap.size 0 []) := WIs.made w
  have HK : Hid (Kept No w (w.alloc (.map #[] 0))) := (Kept.refl No w).alloc _
  obtain ⟨M, HM⟩ : ∃ M, Hid (w.heap.size = M) := ⟨_, show _ = _ from rfl⟩
  rw [HM.out] at H
  rw [HM.out]
  go_enter Tryz.func22, Tryz.ntmps22
  go_wp2_with
    (try rw [HM.out]
     refine wp_ins rfl _ _ _ rfl M _ _ rfl H.out (by omega) _ rfl (by decide) rfl ?_
     clear H
     intro w1 H HG
     have HK2 : Hid (Kept No w w1) := HK.out.grown HG.out (fun k e => .inr (by have := HM.out; injection e with e; omega))
     clear HK HG
     have HK : Hid (Kept No w w1) := HK2.out
     clear HK2)
  go_ret
  exact ⟨rfl, H.out, HK.out⟩

/-- Is it a word? -/
def isWd (s : ByteArray) : Bool := wordsL.contains s.data.toList
end Go.Proofs.YtgkgpjbbmnfnmaaGreatDoor

/- The library contracts that the proofs use, laid over this translation: each is one application. -/
namespace Go.Proofs
open Go.Shelf
def Tryz.lays169_ren : Go.Shelf.Ren := ⟨fun | 169 => 58 | n => n, fun | 70 => 105 | 9 => 9 | 0 => 0 | 72 => 108 | 37 => 106 | 127 => 142 | 3 => 3 | 5 => 5 | n => n, fun | n => n⟩
theorem Tryz.lays169 : Go.Proofs.Lays.n169 Tryz.prog Tryz.lays169_ren := {
  mixed := by kernel_rfl
  f169 := Tryz.func58.trans (congrArg some (by kernel_rfl))
  t0 := Tryz.underlying0
  a0 := Tryz.isAgg0
  z0 := Tryz.sizeOf0
  v0 := Tryz.zeroValue0
  t3 := Tryz.underlying3
  a3 := Tryz.isAgg3
  z3 := Tryz.sizeOf3
  v3 := Tryz.zeroValue3
  t9 := Tryz.underlying9
  a9 := Tryz.isAgg9
  z9 := Tryz.sizeOf9
  v9 := Tryz.zeroValue9
  t37 := Tryz.underlying106
  a37 := Tryz.isAgg106
  z37 := Tryz.sizeOf106
  v37 := Tryz.zeroValue106
  t70 := Tryz.underlying105
  a70 := Tryz.isAgg105
  z70 := Tryz.sizeOf105
  v70 := Tryz.zeroValue105
  t72 := Tryz.underlying108
  a72 := Tryz.isAgg108
  z72 := Tryz.sizeOf108
  v72 := Tryz.zeroValue108
  t127 := Tryz.underlying142
  a127 := Tryz.isAgg142
  z127 := Tryz.sizeOf142
  v127 := Tryz.zeroValue142 }
theorem Tryz.Builder_Extra_169 : Builder.Extra Tryz.prog Tryz.lays169_ren := {
  sizeBuilder := by kernel_rfl
  liesBuilder := by kernel_rfl
  t5 := Tryz.underlying5
  a5 := Tryz.isAgg5
  z5 := Tryz.sizeOf5
  v5 := Tryz.zeroValue5
  infoByte := by kernel_rfl
  cellsByte := by kernel_rfl
  sizeByte := by kernel_rfl
  neB5 := by decide }
def Tryz.lays137_ren : Go.Shelf.Ren := ⟨fun | 137 => 49 | 217 => 77 | 266 => 122 | n => n, fun | 9 => 9 | 5 => 5 | 3 => 3 | n => n, fun | n => n⟩
theorem Tryz.lays137 : Go.Proofs.Lays.n137 Tryz.prog Tryz.lays137_ren := {
  mixed := by kernel_rfl
  f137 := Tryz.func49.trans (congrArg some (by kernel_rfl))
  f217 := Tryz.func77.trans (congrArg some (by kernel_rfl))
  f266 := Tryz.func122.trans (congrArg some (by kernel_rfl))
  t3 := Tryz.underlying3
  a3 := Tryz.isAgg3
  z3 := Tryz.sizeOf3
  v3 := Tryz.zeroValue3
  t5 := Tryz.underlying5
  a5 := Tryz.isAgg5
  z5 := Tryz.sizeOf5
  v5 := Tryz.zeroValue5
  t9 := Tryz.underlying9
  a9 := Tryz.isAgg9
  z9 := Tryz.sizeOf9
  v9 := Tryz.zeroValue9 }
open Go.RowKit in
theorem Tryz.strings_IndexByte (s : ByteArray) (c : Int) (w : World) :
    Calls Tryz.prog 49 #[.string s, .int .u8 c] w fun e w' => e = .returned (.int .i64 (Lib.indexByte s.data.toList c.toNat.toUInt8)) ∧ w' = w := Any.strings_IndexByte Tryz.lays137 s c w
def Tryz.lays103_ren : Go.Shelf.Ren := ⟨fun | 103 => 70 | 210 => 113 | 206 => 51 | n => n, fun | 9 => 9 | 4 => 4 | 24 => 128 | 3 => 3 | n => n, fun | n => n⟩
theorem Tryz.lays103 : Go.Proofs.Lays.n103 Tryz.prog Tryz.lays103_ren := {
  mixed := by kernel_rfl
  f103 := Tryz.func70.trans (congrArg some (by kernel_rfl))
  f206 := Tryz.func51.trans (congrArg some (by kernel_rfl))
  f210 := Tryz.func113.trans (congrArg some (by kernel_rfl))
  t3 := Tryz.underlying3
  a3 := Tryz.isAgg3
  z3 := Tryz.sizeOf3
  v3 := Tryz.zeroValue3
  t4 := Tryz.underlying4
  a4 := Tryz.isAgg4
  z4 := Tryz.sizeOf4
  v4 := Tryz.zeroValue4
  t9 := Tryz.underlying9
  a9 := Tryz.isAgg9
  z9 := Tryz.sizeOf9
  v9 := Tryz.zeroValue9
  t24 := Tryz.underlying128
  a24 := Tryz.isAgg128
  z24 := Tryz.sizeOf128
  v24 := Tryz.zeroValue128 }
open Go.RowKit in
theorem Tryz.strings_CutPrefix (s p : ByteArray) (w : World) :
    Calls Tryz.prog 70 #[.string s, .string p] w fun e w' => e = .returned (.tuple #[.string ⟨(Lib.trimPrefix s.data.toList p.data.toList).toArray⟩, .bool (Lib.hasPrefix s.data.toList p.data.toList)]) ∧ w' = w := Any.strings_CutPrefix Tryz.lays103 s p w
open Go.RowKit in
theorem Tryz.Builder_String_any_k (B b : Nat) (l : List UInt8) (w : World) (h : Lib.IsBuilderF 108 5 B b (Lib.byteCells l) w) (hBw : B ≤ w.heap.size) :
    Calls Tryz.prog 58 #[.pointer (some ⟨b, 0, none⟩)] w fun e w' => e = .returned (.string ⟨l.toArray⟩) ∧ (Lib.IsBuilderF 108 5 B b (Lib.byteCells l) w' ∧ Below B w w' ∧ Lib.OthersKept 5 (some b) w w') := Any.Builder_String_any_k Tryz.lays169 Tryz.Builder_Extra_169 B b l w h hBw
def Tryz.lays321_ren : Go.Shelf.Ren := ⟨fun | 321 => 172 | n => n, fun | 5 => 5 | n => n, fun | n => n⟩
theorem Tryz.lays321 : Go.Proofs.Lays.n321 Tryz.prog Tryz.lays321_ren := {
  mixed := by kernel_rfl
  f321 := Tryz.func172.trans (congrArg some (by kernel_rfl))
  t5 := Tryz.underlying5
  a5 := Tryz.isAgg5
  z5 := Tryz.sizeOf5
  v5 := Tryz.zeroValue5 }
open Go.RowKit in
theorem Tryz.internal_strconv_lower (c : Int) (w : World) :
    Calls Tryz.prog 172 #[.int .u8 c] w fun e w' => e = .returned (.int .u8 (bits .or .u8 c 32)) ∧ w' = w := Any.internal_strconv_lower Tryz.lays321 c w
def Tryz.laysC174_ren : Go.Shelf.Ren := ⟨fun | 174 => 118 | 247 => 151 | 245 => 148 | 287 => 147 | 279 => 174 | 280 => 175 | 281 => 176 | 282 => 177 | 321 => 172 | 322 => 173 | 316 => 192 | 171 => 52 | 205 => 193 | 243 => 79 | 246 => 124 | 283 => 154 | 284 => 155 | 285 => 156 | 286 => 157 | 129 => 112 | 317 => 181 | 318 => 182 | 319 => 183 | 320 => 184 | 337 => 195 | 338 => 196 | n => n, fun | 9 => 9 | 3 => 3 | 2 => 2 | 75 => 110 | 85 => 161 | 4 => 4 | 167 => 208 | 5 => 5 | 53 => 156 | 175 => 157 | 46 => 127 | 168 => 210 | 37 => 106 | 0 => 0 | 210 => 222 | 21 => 21 | 127 => 142 | 145 => 228 | 143 => 226 | 171 => 189 | 173 => 191 | 212 => 214 | 51 => 154 | 20 => 20 | 213 => 215 | 232 => 229 | 233 => 230 | 80 => 113 | n => n, fun | 15 => 4 | 16 => 5 | 17 => 3 | 18 => 6 | 19 => 7 | n => n⟩
theorem Tryz.laysC174 : Go.Proofs.LaysC.n174 Tryz.prog Tryz.laysC174_ren := {
  mixed := by kernel_rfl
  f129 := Tryz.func112.trans (congrArg some (by kernel_rfl))
  f171 := Tryz.func52.trans (congrArg some (by kernel_rfl))
  f174 := Tryz.func118.trans (congrArg some (by kernel_rfl))
  f205 := Tryz.func193.trans (congrArg some (by kernel_rfl))
  f243 := Tryz.func79.trans (congrArg some (by kernel_rfl))
  f245 := Tryz.func148.trans (congrArg some (by kernel_rfl))
  f246 := Tryz.func124.trans (congrArg some (by kernel_rfl))
  f247 := Tryz.func151.trans (congrArg some (by kernel_rfl))
  f279 := Tryz.func174.trans (congrArg some (by kernel_rfl))
  f280 := Tryz.func175.trans (congrArg some (by kernel_rfl))
  f281 := Tryz.func176.trans (congrArg some (by kernel_rfl))
  f282 := Tryz.func177.trans (congrArg some (by kernel_rfl))
  f283 := Tryz.func154.trans (congrArg some (by kernel_rfl))
  f284 := Tryz.func155.trans (congrArg some (by kernel_rfl))
  f285 := Tryz.func156.trans (congrArg some (by kernel_rfl))
  f286 := Tryz.func157.trans (congrArg some (by kernel_rfl))
  f287 := Tryz.func147.trans (congrArg some (by kernel_rfl))
  f316 := Tryz.func192.trans (congrArg some (by kernel_rfl))
  f317 := Tryz.func181.trans (congrArg some (by kernel_rfl))
  f318 := Tryz.func182.trans (congrArg some (by kernel_rfl))
  f319 := Tryz.func183.trans (congrArg some (by kernel_rfl))
  f320 := Tryz.func184.trans (congrArg some (by kernel_rfl))
  f321 := Tryz.func172.trans (congrArg some (by kernel_rfl))
  f322 := Tryz.func173.trans (congrArg some (by kernel_rfl))
  f337 := Tryz.func195.trans (congrArg some (by kernel_rfl))
  f338 := Tryz.func196.trans (congrArg some (by kernel_rfl))
  t0 := Tryz.underlying0
  a0 := Tryz.isAgg0
  z0 := Tryz.sizeOf0
  v0 := Tryz.zeroValue0
  t2 := Tryz.underlying2
  a2 := Tryz.isAgg2
  z2 := Tryz.sizeOf2
  v2 := Tryz.zeroValue2
  t3 := Tryz.underlying3
  a3 := Tryz.isAgg3
  z3 := Tryz.sizeOf3
  v3 := Tryz.zeroValue3
  t4 := Tryz.underlying4
  a4 := Tryz.isAgg4
  z4 := Tryz.sizeOf4
  v4 := Tryz.zeroValue4
  t5 := Tryz.underlying5
  a5 := Tryz.isAgg5
  z5 := Tryz.sizeOf5
  v5 := Tryz.zeroValue5
  t9 := Tryz.underlying9
  a9 := Tryz.isAgg9
  z9 := Tryz.sizeOf9
  v9 := Tryz.zeroValue9
  t20 := Tryz.underlying20
  a20 := Tryz.isAgg20
  z20 := Tryz.sizeOf20
  v20 := Tryz.zeroValue20
  t21 := Tryz.underlying21
  a21 := Tryz.isAgg21
  z21 := Tryz.sizeOf21
  v21 := Tryz.zeroValue21
  t37 := Tryz.underlying106
  a37 := Tryz.isAgg106
  z37 := Tryz.sizeOf106
  v37 := Tryz.zeroValue106
  t46 := Tryz.underlying127
  a46 := Tryz.isAgg127
  z46 := Tryz.sizeOf127
  v46 := Tryz.zeroValue127
  t51 := Tryz.underlying154
  a51 := Tryz.isAgg154
  z51 := Tryz.sizeOf154
  v51 := Tryz.zeroValue154
  t53 := Tryz.underlying156
  a53 := Tryz.isAgg156
  z53 := Tryz.sizeOf156
  v53 := Tryz.zeroValue156
  t75 := Tryz.underlying110
  a75 := Tryz.isAgg110
  z75 := Tryz.sizeOf110
  v75 := Tryz.zeroValue110
  t85 := Tryz.underlying161
  a85 := Tryz.isAgg161
  z85 := Tryz.sizeOf161
  v85 := Tryz.zeroValue161
  t127 := Tryz.underlying142
  a127 := Tryz.isAgg142
  z127 := Tryz.sizeOf142
  v127 := Tryz.zeroValue142
  t143 := Tryz.underlying226
  a143 := Tryz.isAgg226
  z143 := Tryz.sizeOf226
  v143 := Tryz.zeroValue226
  t145 := Tryz.underlying228
  a145 := Tryz.isAgg228
  z145 := Tryz.sizeOf228
  v145 := Tryz.zeroValue228
  t167 := Tryz.underlying208
  a167 := Tryz.isAgg208
  z167 := Tryz.sizeOf208
  v167 := Tryz.zeroValue208
  t168 := Tryz.underlying210
  a168 := Tryz.isAgg210
  z168 := Tryz.sizeOf210
  v168 := Tryz.zeroValue210
  t171 := Tryz.underlying189
  a171 := Tryz.isAgg189
  z171 := Tryz.sizeOf189
  v171 := Tryz.zeroValue189
  t173 := Tryz.underlying191
  a173 := Tryz.isAgg191
  z173 := Tryz.sizeOf191
  v173 := Tryz.zeroValue191
  t175 := Tryz.underlying157
  a175 := Tryz.isAgg157
  z175 := Tryz.sizeOf157
  v175 := Tryz.zeroValue157
  t210 := Tryz.underlying222
  a210 := Tryz.isAgg222
  z210 := Tryz.sizeOf222
  v210 := Tryz.zeroValue222
  t212 := Tryz.underlying214
  a212 := Tryz.isAgg214
  z212 := Tryz.sizeOf214
  v212 := Tryz.zeroValue214
  t213 := Tryz.underlying215
  a213 := Tryz.isAgg215
  z213 := Tryz.sizeOf215
  t232 := Tryz.underlying229
  a232 := Tryz.isAgg229
  z232 := Tryz.sizeOf229
  v232 := Tryz.zeroValue229
  t233 := Tryz.underlying230
  a233 := Tryz.isAgg230
  z233 := Tryz.sizeOf230
  v233 := Tryz.zeroValue230
  g15 := by kernel_rfl
  g16 := by kernel_rfl
  g17 := by kernel_rfl
  g18 := by kernel_rfl
  g19 := by kernel_rfl
  t80 := Tryz.underlying113
  a80 := Tryz.isAgg113
  z80 := Tryz.sizeOf113
  v80 := Tryz.zeroValue113
  i0 := by kernel_rfl
  i2 := by kernel_rfl
  i3 := by kernel_rfl
  i4 := by kernel_rfl
  i5 := by kernel_rfl
  i9 := by kernel_rfl
  i20 := by kernel_rfl
  i21 := by kernel_rfl
  i37 := by kernel_rfl
  i46 := by kernel_rfl
  i51 := by kernel_rfl
  i53 := by kernel_rfl
  i75 := by kernel_rfl
  i80 := by kernel_rfl
  i85 := by kernel_rfl
  i127 := by kernel_rfl
  i143 := by kernel_rfl
  i145 := by kernel_rfl
  i167 := by kernel_rfl
  i168 := by kernel_rfl
  i171 := by kernel_rfl
  i173 := by kernel_rfl
  i175 := by kernel_rfl
  i210 := by kernel_rfl
  i212 := by kernel_rfl
  i232 := by kernel_rfl
  i233 := by kernel_rfl
  m15 := by kernel_rfl
  m16 := by kernel_rfl
  m17 := by kernel_rfl
  m18 := by kernel_rfl
  m19 := by kernel_rfl
  c0 := by kernel_rfl
  c2 := by kernel_rfl
  c3 := by kernel_rfl
  c4 := by kernel_rfl
  c5 := by kernel_rfl
  c9 := by kernel_rfl
  c20 := by kernel_rfl
  c21 := by kernel_rfl
  c37 := by kernel_rfl
  c46 := by kernel_rfl
  c51 := by kernel_rfl
  c53 := by kernel_rfl
  c75 := by kernel_rfl
  c80 := by kernel_rfl
  c85 := by kernel_rfl
  c127 := by kernel_rfl
  c143 := by kernel_rfl
  c145 := by kernel_rfl
  c167 := by kernel_rfl
  c168 := by kernel_rfl
  c171 := by kernel_rfl
  c173 := by kernel_rfl
  c175 := by kernel_rfl
  c210 := by kernel_rfl
  c212 := by kernel_rfl
  c213 := by kernel_rfl
  c232 := by kernel_rfl
  c233 := by kernel_rfl }
open Go.RowKit in
theorem Tryz.strconv_ParseInt_10_at64_ok (s : ByteArray) (hmax : s.size ≤ 9223372036854775806) (v : Int) (h : Lib.parseIntB 64 s.data.toList = .ok v) (w : World) :
    Calls Tryz.prog 118 #[.string s, .int .i64 10, .int .i64 64] w fun e w' => e = .returned (.tuple #[.int .i64 v, .nilIface]) ∧ (w' = w ∨ ∃ t, w' = Lib.bytesWorld w 5 t) := Any.strconv_ParseInt_10_at64_ok Tryz.laysC174 s hmax v h w
open Go.RowKit in
theorem Tryz.strconv_ParseInt_10_at64_range (s : ByteArray) (hlim : s.size ≤ 281474976710656) (h : Lib.parseIntB 64 s.data.toList = .range) (ev : Value) (w : World) (hv : w.cell? ⟨5, 0, none⟩ = some ev) (hev : ev = .nilIface ∨ ∃ te pe, ev = .iface te pe) :
    Calls Tryz.prog 118 #[.string s, .int .i64 10, .int .i64 64] w fun e w' => ∃ N, e = .returned (.tuple #[.int .i64 (Lib.intSat 64 s.data.toList), .iface 210 (.pointer (some ⟨N, 0, none⟩))]) ∧ w.heap.size ≤ N ∧ w'.heap[N]? = some (.cells #[.string ⟨#[80, 97, 114, 115, 101, 73, 110, 116]⟩, .string s, ev] 222 (0, 0)) ∧ Below w.heap.size w w' := Any.strconv_ParseInt_10_at64_range Tryz.laysC174 s hlim h ev w hv hev
def Tryz.lays219_ren : Go.Shelf.Ren := ⟨fun | 219 => 150 | 217 => 77 | 225 => 178 | 224 => 179 | 267 => 180 | 266 => 122 | 314 => 194 | n => n, fun | 9 => 9 | 3 => 3 | 4 => 4 | 5 => 5 | 46 => 127 | 146 => 216 | 51 => 154 | n => n, fun | 1 => 1 | n => n⟩
theorem Tryz.lays219 : Go.Proofs.Lays.n219 Tryz.prog Tryz.lays219_ren := {
  mixed := by kernel_rfl
  f217 := Tryz.func77.trans (congrArg some (by kernel_rfl))
  f219 := Tryz.func150.trans (congrArg some (by kernel_rfl))
  f224 := Tryz.func179.trans (congrArg some (by kernel_rfl))
  f225 := Tryz.func178.trans (congrArg some (by kernel_rfl))
  f266 := Tryz.func122.trans (congrArg some (by kernel_rfl))
  f267 := Tryz.func180.trans (congrArg some (by kernel_rfl))
  f314 := Tryz.func194.trans (congrArg some (by kernel_rfl))
  t3 := Tryz.underlying3
  a3 := Tryz.isAgg3
  z3 := Tryz.sizeOf3
  v3 := Tryz.zeroValue3
  t4 := Tryz.underlying4
  a4 := Tryz.isAgg4
  z4 := Tryz.sizeOf4
  v4 := Tryz.zeroValue4
  t5 := Tryz.underlying5
  a5 := Tryz.isAgg5
  z5 := Tryz.sizeOf5
  v5 := Tryz.zeroValue5
  t9 := Tryz.underlying9
  a9 := Tryz.isAgg9
  z9 := Tryz.sizeOf9
  v9 := Tryz.zeroValue9
  t46 := Tryz.underlying127
  a46 := Tryz.isAgg127
  z46 := Tryz.sizeOf127
  v46 := Tryz.zeroValue127
  t51 := Tryz.underlying154
  a51 := Tryz.isAgg154
  z51 := Tryz.sizeOf154
  v51 := Tryz.zeroValue154
  t146 := Tryz.underlying216
  a146 := Tryz.isAgg216
  z146 := Tryz.sizeOf216
  v146 := Tryz.zeroValue216
  g1 := by kernel_rfl }
open Go.RowKit Go.Lib in
theorem Tryz.stringslite_Index_one (s : ByteArray) (c : UInt8) (w : World) :
    Calls Tryz.prog 150 #[.string s, .string ⟨#[c]⟩] w fun e w' => e = .returned (.int .i64 (Lib.indexByte s.data.toList c)) ∧ w' = w := Any.stringslite_Index_one Tryz.lays219 s c w
def Tryz.lays99_ren : Go.Shelf.Ren := ⟨fun | 99 => 28 | 206 => 51 | n => n, fun | 9 => 9 | 4 => 4 | 3 => 3 | n => n, fun | n => n⟩
theorem Tryz.lays99 : Go.Proofs.Lays.n99 Tryz.prog Tryz.lays99_ren := {
  mixed := by kernel_rfl
  f99 := Tryz.func28.trans (congrArg some (by kernel_rfl))
  f206 := Tryz.func51.trans (congrArg some (by kernel_rfl))
  t3 := Tryz.underlying3
  a3 := Tryz.isAgg3
  z3 := Tryz.sizeOf3
  v3 := Tryz.zeroValue3
  t4 := Tryz.underlying4
  a4 := Tryz.isAgg4
  z4 := Tryz.sizeOf4
  v4 := Tryz.zeroValue4
  t9 := Tryz.underlying9
  a9 := Tryz.isAgg9
  z9 := Tryz.sizeOf9
  v9 := Tryz.zeroValue9 }
open Go.RowKit Go.Lib in
theorem Tryz.strings_HasPrefix (s p : ByteArray) (w : World) :
    Calls Tryz.prog 28 #[.string s, .string p] w fun e w' => e = .returned (.bool (Lib.hasPrefix s.data.toList p.data.toList)) ∧ w' = w := Any.strings_HasPrefix Tryz.lays99 s p w
end Go.Proofs

/- Where the next token may begin; where a number ends. -/
namespace Go.Proofs.YtgkgpjbbmnfnmaaGreatDoor
open Go.RowKit
set_option linter.unusedSimpArgs false
set_option linter.unusedVariables false

/-- The bytes of a text. -/
abbrev bl (s : ByteArray) : List UInt8 := s.data.toList
theorem bl_len (s : ByteArray) : (bl s).length = s.size := by rw [Lib.size_eq]
theorem bl_at (s : ByteArray) {k : Nat} (h : k < s.size) : (bl s)[k]'(by rw [bl_len]; exact h) = s[k] := rfl
theorem bl_drop (s : ByteArray) {k : Nat} (h : k < s.size) : (bl s).drop k = s[k] :: (bl s).drop (k + 1) := by
  rw [List.drop_eq_getElem_cons (by rw [bl_len]; exact h), bl_at s h]
theorem bl_ext (s : ByteArray) (i j : Nat) : bl (s.extract i j) = ((bl s).take j).drop i := by
  rw [bl, Lib.extract_data]; first | rfl | (rw [List.drop_take]) | simp
theorem bl_from (s : ByteArray) (i : Nat) : bl (s.extract i s.size) = (bl s).drop i := by
  rw [bl_ext, List.take_of_length_le (by rw [bl_len]; exact Nat.le_refl _)]

/-- How many bytes are blanks and remarks. -/
def skipB : Bool → List UInt8 → Nat
  | _, [] => 0
  | true, c :: r => if c.toNat = 10 then 1 + skipB false r else 1 + skipB true r
  | false, c :: r => if isBl c then 1 + skipB false r else if c.toNat = 45 ∧ r.head?.map UInt8.toNat = some 45 then 1 + skipB true r else 0
/-- How many bytes a remark has. -/
def remL : List UInt8 → Nat
  | [] => 0
  | c :: r => if c.toNat = 10 then 0 else 1 + remL r
theorem skip_rem : ∀ l, skipB true l = remL l + skipB false (l.drop (remL l))
  | [] => rfl
  | c :: r => by
    by_cases h : c.toNat = 10
    · simp [skipB, remL, h, isBl]
    · have := skip_rem r
      simp only [skipB, remL, h, if_false]
      rw [this, Nat.add_comm 1 (remL r), List.drop_succ_cons]; omega
theorem remL_le : ∀ l, remL l ≤ l.length
  | [] => Nat.le_refl _
  | c :: r => by
    have := remL_le r
    unfold remL
    split <;> simp <;> omega
theorem remL_index : ∀ l, (Lib.indexByte l 10 < 0 ∧ remL l = l.length) ∨ Lib.indexByte l 10 = (remL l : Int)
  | [] => .inl ⟨by decide, rfl⟩
  | c :: r => by
    unfold Lib.indexByte remL
    by_cases h : c = 10
    · subst h
      exact .inr rfl
    · have h' : ¬ c.toNat = 10 := fun e => h (UInt8.toNat_inj.1 (by rw [e]; rfl))
      have hb : (c == 10) = false := by rw [beq_eq_false_iff_ne]; exact h
      rcases remL_index r with ⟨h1, h2⟩ | h1
      · left
        simp [h, h', h1, h2]
        omega
      · right
        simp [h, h', h1]
        omega

set_option maxHeartbeats 1000000 in
theorem remarkEnd_any (s : ByteArray) (k : Nat) (hk : k ≤ s.size) (hs : s.size ≤ 100000) (w : World) :
    Calls Tryz.prog 29 #[.string s, .int .i64 (k : Int)] w fun e w' => e = .returned (.int .i64 ((k + remL ((bl s).drop k) : Nat) : Int)) ∧ w = w' := by
  have k1 : (k : Int) ≤ (s.size : Int) := by omega
  have HI : Hid (∀ w, Calls Tryz.prog 49 #[.string (s.extract k s.size), .int .u8 10] w fun e w' => e = .returned (.int .i64 (Lib.indexByte ((bl s).drop k) 10)) ∧ w = w') := fun w => by
    have := Tryz.strings_IndexByte (s.extract k s.size) 10 w
    refine this.mono ?_
    rintro e w' ⟨he, hw⟩
    refine ⟨?_, hw.symm⟩
    rw [he, ← bl_from]; rfl
  have hr := remL_le ((bl s).drop k)
  rw [List.length_drop, bl_len] at hr
  have hx := remL_index ((bl s).drop k)
  rw [List.length_drop, bl_len] at hx
  generalize Lib.indexByte ((bl s).drop k) 10 = i at HI hx
  generalize remL ((bl s).drop k) = n at hr hx ⊢
  rcases hx with ⟨h1, rfl⟩ | rfl
  · have e : k + (s.size - k) = s.size := by omega
    rw [e]
    go_enter Tryz.func29, Tryz.ntmps29
    go_wp2_with (go_at_call 49; refine Calls.mono (HI.out _) ?_; rintro e w' ⟨rfl, rfl⟩)
    go_ret
    exact ⟨rfl, rfl⟩
  · have h1 : ¬ (n : Int) < 0 := by omega
    have u1 : IntKind.i64.wrap ((k : Int) + (n : Int)) = (k : Int) + (n : Int) := by rw [IntKind.wrap_i64]; omega
    go_enter Tryz.func29, Tryz.ntmps29
    go_wp2_with (go_at_call 49; refine Calls.mono (HI.out _) ?_; rintro e w' ⟨rfl, rfl⟩)
    go_ret
    exact ⟨by simp, rfl⟩

/-- Does a remark begin? -/
def remB (l : List UInt8) : Bool := Lib.hasPrefix l [45, 45]
theorem remB_cons (c : UInt8) (r : List UInt8) : remB (c :: r) = decide (c.toNat = 45 ∧ r.head?.map UInt8.toNat = some 45) := by
  unfold remB
  rw [Bool.eq_iff_iff, decide_eq_true_iff]
  have e45 : ∀ d : UInt8, d.toNat = 45 ↔ d = 45 := fun d => ⟨fun e => UInt8.toNat_inj.1 (by rw [e]; rfl), fun e => by rw [e]; rfl⟩
  cases r with
  | nil => simp [Lib.hasPrefix]
  | cons d r =>
    simp [Lib.hasPrefix, e45]
    exact ⟨fun h => ⟨h.1.symm, h.2.symm⟩, fun h => ⟨h.1.symm, h.2.symm⟩⟩

set_option maxRecDepth 20000 in
set_option maxHeartbeats 2000000 in
theorem passOver_any (s : ByteArray) (k : Nat) (hk : k ≤ s.size) (hs : s.size ≤ 100000) (w : World) :
    Calls Tryz.prog 14 #[.string s, .int .i64 (k : Int)] w fun e w' => e = .returned (.int .i64 ((k + skipB false ((bl s).drop k) : Nat) : Int)) ∧ w = w' := by
  obtain ⟨R, HR⟩ : ∃ R, Hid (k + skipB false ((bl s).drop k) = R) := ⟨_, show _ = _ from rfl⟩
  rw [HR.out]
  go_enter Tryz.func14, Tryz.ntmps14
  go_wp2_with fail
  go_loop [1] (fun i => ∃ j : Nat, j ≤ s.size ∧ i = .int .i64 j ∧ Hid (j + skipB false ((bl s).drop j) = R)) (fun i => s.size - (intOf i).toNat)
  case atStart => exact ⟨k, hk, rfl, HR.out⟩
  case round =>
    clear HR
    obtain ⟨j, hj, rfl, HJ⟩ := hrel
    by_cases hlt : j < s.size
    · have j1 : (j : Int) ≤ (s.size : Int) := by omega
      have hd := bl_drop s hlt
      have HB : Hid (∀ w, Calls Tryz.prog 27 #[.int .u8 (s[j].toNat : Int)] w fun e w' => e = .returned (.bool (isBl s[j])) ∧ w = w') := fun w => isBlank_any _ w
      have HP : Hid (∀ w, Calls Tryz.prog 28 #[.string (s.extract j s.size), .string ⟨#[45, 45]⟩] w fun e w' => e = .returned (.bool (remB (s[j] :: (bl s).drop (j + 1)))) ∧ w = w') := fun w => by
        refine (Tryz.strings_HasPrefix _ _ w).mono ?_
        rintro e w' ⟨he, hw⟩
        refine ⟨?_, hw.symm⟩
        rw [he, ← hd, ← bl_from]; rfl
      have HRe : Hid _ := remarkEnd_any s j hj hs
      have hrl := remL_le ((bl s).drop j)
      rw [List.length_drop, bl_len] at hrl
      have HE := HJ.out
      rw [hd] at HE
      cases hb : isBl s[j] with
      | true =>
        have HJ2 : Hid (j + 1 + skipB false ((bl s).drop (j + 1)) = R) := by
          show _ = _
          rw [← HE, skipB, if_pos hb]; omega
        rw [hb] at HB
        clear HE hb hd HP HRe hrl HJ
        go_wp2_with (go_at_call 27; refine Calls.mono (HB.out _) ?_; rintro e w' ⟨rfl, rfl⟩)
        go_round
        case rel => exact ⟨j + 1, by omega, by go_num, HJ2⟩
        case measure => simp [intOf] <;> omega
      | false =>
        rw [hb] at HB
        cases hp : remB (s[j] :: (bl s).drop (j + 1)) with
        | true =>
          rw [hp] at HP
          have hp2 : s[j].toNat = 45 ∧ ((bl s).drop (j + 1)).head?.map UInt8.toNat = some 45 := by rw [remB_cons, decide_eq_true_iff] at hp; exact hp
          have hr1 : 1 ≤ remL ((bl s).drop j) := by
            rw [hd, remL, if_neg (by omega)]; omega
          have HJ2 : Hid (j + remL ((bl s).drop j) + skipB false ((bl s).drop (j + remL ((bl s).drop j))) = R) := by
            show _ = _
            rw [← HE, skipB, if_neg (by rw [hb]; decide), if_pos hp2]
            have h1 : skipB true (s[j] :: (bl s).drop (j + 1)) = 1 + skipB true ((bl s).drop (j + 1)) := by rw [skipB, if_neg (by omega)]
            rw [← h1, ← hd, skip_rem, List.drop_drop]; omega
          clear HE hb hd hp hp2 HJ
          generalize remL ((bl s).drop j) = n at HRe hrl hr1 HJ2
          go_wp2_with (first | (go_at_call 27; refine Calls.mono (HB.out _) ?_; rintro e w' ⟨rfl, rfl⟩) | (go_at_call 28; refine Calls.mono (HP.out _) ?_; rintro e w' ⟨rfl, rfl⟩) | (go_at_call 29; refine Calls.mono (HRe.out _) ?_; rintro e w' ⟨rfl, rfl⟩))
          go_round
          case rel => exact ⟨j + n, by omega, rfl, HJ2⟩
          case measure => simp [intOf] <;> omega
        | false =>
          rw [hp] at HP
          have HR2 : Hid (R = j) := by
            show _ = _
            rw [remB_cons, decide_eq_false_iff_not] at hp
            rw [← HE, skipB, if_neg (by rw [hb]; decide), if_neg hp]; rfl
          clear HE hb hd hp HJ HRe hrl
          go_wp2_with (first | (go_at_call 27; refine Calls.mono (HB.out _) ?_; rintro e w' ⟨rfl, rfl⟩) | (go_at_call 28; refine Calls.mono (HP.out _) ?_; rintro e w' ⟨rfl, rfl⟩))
          go_ret
          exact ⟨by rw [HR2.out]; rfl, rfl⟩
    · obtain rfl : j = s.size := by omega
      have HR2 : Hid (R = s.size) := by
        show _ = _
        rw [← HJ.out, List.drop_eq_nil_of_le (by rw [bl_len]; exact Nat.le_refl _)]; rfl
      clear HJ
      go_wp2
      go_ret
      exact ⟨by rw [HR2.out]; rfl, rfl⟩

/-- How many bytes of a name stand there. -/
def nameL : List UInt8 → Nat
  | [] => 0
  | c :: r => if isNm c then 1 + nameL r else 0
theorem nameL_le : ∀ l, nameL l ≤ l.length
  | [] => Nat.le_refl _
  | c :: r => by
    have := nameL_le r
    unfold nameL
    split <;> simp <;> omega
/-- How many bytes of a number. -/
def numL : List UInt8 → Nat
  | [] => 0
  | [c] => if isNm c then 1 else 0
  | c :: d :: r => if isNm c then 1 + numL (d :: r) else if c.toNat = 46 ∧ isDg d = true then 2 + numL r else 0
theorem numL_le : ∀ l, numL l ≤ l.length
  | [] => Nat.le_refl _
  | [c] => by unfold numL; split <;> simp
  | c :: d :: r => by
    have h1 := numL_le (d :: r)
    have h2 := numL_le r
    unfold numL
    split
    · simp at h1 ⊢; omega
    · split
      · simp; omega
      · simp

end Go.Proofs.YtgkgpjbbmnfnmaaGreatDoor

/- Where a number ends. -/
namespace Go.Proofs.YtgkgpjbbmnfnmaaGreatDoor
open Go.RowKit
set_option linter.unusedSimpArgs false
set_option linter.unusedVariables false

set_option maxRecDepth 20000 in
set_option maxHeartbeats 1000000 in
theorem numberEnd_any (s : ByteArray) (k : Nat) (hk : k ≤ s.size) (hs : s.size ≤ 100000) (w : World) :
    Calls Tryz.prog 47 #[.string s, .int .i64 (k : Int)] w fun e w' => e = .returned (.int .i64 ((k + numL ((bl s).drop k) : Nat) : Int)) ∧ w = w' := by
  obtain ⟨R, HR⟩ : ∃ R, Hid (k + numL ((bl s).drop k) = R) := ⟨_, show _ = _ from rfl⟩
  rw [HR.out]
  go_enter Tryz.func47, Tryz.ntmps47
  go_wp2_with fail
  go_step3
  go_wp2_with fail
  go_step3
  go_wp2_with fail
  go_loop [5] (fun i => ∃ j : Nat, j ≤ s.size ∧ i = .int .i64 j ∧ Hid (j + numL ((bl s).drop j) = R)) (fun i => s.size - (intOf i).toNat)
  case atStart => exact ⟨k, hk, rfl, HR.out⟩
  case round =>
    clear HR
    obtain ⟨j, hj, rfl, HJ⟩ := hrel
    by_cases hlt : j < s.size
    · have hd := bl_drop s hlt
      have HN : Hid (∀ w, Calls Tryz.prog 44 #[.int .u8 (s[j].toNat : Int)] w fun e w' => e = .returned (.bool (isNm s[j])) ∧ w = w') := fun w => isInName_any _ w
      have HE := HJ.out
      rw [hd] at HE
      cases hb : isNm s[j] with
      | true =>
        have HJ2 : Hid (j + 1 + numL ((bl s).drop (j + 1)) = R) := by
          show _ = _
          rw [← HE]
          cases hr : (bl s).drop (j + 1) with
          | nil => simp [numL, hb]
          | cons d r => rw [numL, if_pos hb]; omega
        rw [hb] at HN
        clear HE hb hd HJ
        go_wp2_with (go_at_call 44; refine Calls.mono (HN.out _) ?_; rintro e w' ⟨rfl, rfl⟩)
        go_round
        case rel => exact ⟨j + 1, by omega, by go_num, HJ2⟩
        case measure => simp [intOf] <;> omega
      | false =>
        rw [hb] at HN
        by_cases h46 : s[j].toNat = 46
        · have b46 : ((s[j].toNat : Int) == 46) = true := by rw [beq_iff_eq]; omega
          have H46 : Hid (s[j].toNat = 46) := h46
          clear h46
          by_cases hl2 : j + 1 < s.size
          · have l2 : (j : Int) + 1 < (s.size : Int) := by omega
            have dl2 : decide ((j : Int) + 1 < (s.size : Int)) = true := decide_eq_true l2
            have hd2 := bl_drop s hl2
            have HD : Hid (∀ w, Calls Tryz.prog 46 #[.int .u8 (s[j + 1].toNat : Int)] w fun e w' => e = .returned (.bool (isDg s[j + 1])) ∧ w = w') := fun w => isDigit_any _ w
            rw [hd2] at HE
            cases hdg : isDg s[j + 1] with
            | true =>
              have HJ2 : Hid (j + 2 + numL ((bl s).drop (j + 2)) = R) := by
                show _ = _
                rw [← HE, numL, if_neg (by rw [hb]; decide), if_pos ⟨H46.out, hdg⟩]; show _ = j + (2 + numL ((bl s).drop (j + 2))); omega
              rw [hdg] at HD
              clear HE hb hd HJ hdg hd2
              go_wp2_with (first | (go_at_call 44; refine Calls.mono (HN.out _) ?_; rintro e w' ⟨rfl, rfl⟩) | (go_at_call 46; refine Calls.mono (HD.out _) ?_; rintro e w' ⟨rfl, rfl⟩))
              go_round
              case rel => exact ⟨j + 2, by omega, by go_num, HJ2⟩
              case measure => simp [intOf] <;> omega
            | false =>
              have HR2 : Hid (R = j) := by
                show _ = _
                rw [← HE, numL, if_neg (by rw [hb]; decide), if_neg (fun h => by rw [hdg] at h; exact absurd h.2 (by decide))]; rfl
              rw [hdg] at HD
              clear HE hb hd HJ hdg hd2
              go_wp2_with (first | (go_at_call 44; refine Calls.mono (HN.out _) ?_; rintro e w' ⟨rfl, rfl⟩) | (go_at_call 46; refine Calls.mono (HD.out _) ?_; rintro e w' ⟨rfl, rfl⟩))
              try unfold Exit.noGoto
              go_ret
              exact ⟨by rw [HR2.out]; rfl, rfl⟩
          · have l2 : ¬ (j : Int) + 1 < (s.size : Int) := by omega
            have dl2 : decide ((j : Int) + 1 < (s.size : Int)) = false := decide_eq_false l2
            have HR2 : Hid (R = j) := by
              show _ = _
              rw [← HE, List.drop_eq_nil_of_le (by rw [bl_len]; omega), numL, if_neg (by rw [hb]; decide)]; rfl
            clear HE hb hd HJ
            go_wp2_with (go_at_call 44; refine Calls.mono (HN.out _) ?_; rintro e w' ⟨rfl, rfl⟩)
            try unfold Exit.noGoto
            go_ret
            exact ⟨by rw [HR2.out]; rfl, rfl⟩
        · have b46 : ((s[j].toNat : Int) == 46) = false := by rw [beq_eq_false_iff_ne]; omega
          have HR2 : Hid (R = j) := by
            show _ = _
            rw [← HE]
            cases hr : (bl s).drop (j + 1) with
            | nil => simp [numL, hb]
            | cons d r => rw [numL, if_neg (by rw [hb]; decide), if_neg (fun h => h46 h.1)]; rfl
          clear HE hb hd HJ
          go_wp2_with (go_at_call 44; refine Calls.mono (HN.out _) ?_; rintro e w' ⟨rfl, rfl⟩)
          try unfold Exit.noGoto
          go_ret
          exact ⟨by rw [HR2.out]; rfl, rfl⟩
    · obtain rfl : j = s.size := by omega
      have HR2 : Hid (R = s.size) := by
        show _ = _
        rw [← HJ.out, List.drop_eq_nil_of_le (by rw [bl_len]; exact Nat.le_refl _)]; rfl
      clear HJ
      go_wp2
      try unfold Exit.noGoto
      go_ret
      exact ⟨by rw [HR2.out]; rfl, rfl⟩
end Go.Proofs.YtgkgpjbbmnfnmaaGreatDoor

/- Shorter words for regions that draw their order. -/
namespace Go.Proofs.YtgkgpjbbmnfnmaaGreatDoor
open Go.RowKit
set_option linter.unusedSimpArgs false
set_option linter.unusedVariables false

theorem sm : (∀ (a : Act) (v : Value), a.put none v = a) ∧ (∀ (a : Act) (d : Tmp) (v : Value), a.put (some d) v = { a with tmps := a.tmps.setIfInBounds d v }) ∧ (∀ (l : List Value) (i : Nat) (x : Value), l.toArray.setIfInBounds i x = (l.set i x).toArray) ∧ (∀ (a b : Value) (l : List Value), (a :: l).set 0 b = b :: l) ∧ (∀ (a b : Value) (l : List Value) (n : Nat), (a :: l).set (n + 1) b = a :: l.set n b) ∧
    (∀ (l : List Value) (i : Nat) (h : i < l.toArray.size), l.toArray[i] = l[i]'(by simpa using h)) ∧ (∀ (a : Value) (l : List Value) (h : 0 < (a :: l).length), (a :: l)[0] = a) ∧ (∀ (a : Value) (l : List Value) (n : Nat) (h : n + 1 < (a :: l).length), (a :: l)[n + 1] = l[n]'(by simpa using h)) :=
  ⟨fun _ _ => rfl, fun _ _ _ => rfl, fun l i x => by simp, fun _ _ _ => rfl, fun _ _ _ _ => rfl, fun _ _ _ => rfl, fun _ _ _ => rfl, fun _ _ _ _ => rfl⟩
section
variable {P : Program} {ops : Array Oper} {Q : Exit → Act → World → Prop} {md : Region.Mode} {S : World → Prop} {fuel : Nat} {listed : Array Bool} {a : Act} {w : World}
theorem tk1 {oi : Oper} (i : Nat) (v : Value) (hi : ops[i]? = some oi) (hS : S w) (h : wpAnyH P md ops Q S fuel (listed.setIfInBounds i true) (a.put oi.dst v) w)
    (hs : Region.noSelect ops = true := by kernel_rfl) (hf : Region.free md ops listed i = true := by kernel_rfl) (hr : (Region.ready md ops listed).contains i = true := by kernel_rfl) (hQ : ∀ c a w, Q (.panic c) (a.put oi.dst v) w → Q (.panic c) a w := by exact fun _ _ _ h => h)
    (hw : Region.wanted oi (yielded ops a.tmps) = true := by rfl) (hy : ∀ w', S w' → (execOp a.eval oi).run P w' = .ok (.value v) w' := by intro w' hw; go_simp) : wpAnyH P md ops Q S (fuel + 1) listed a w :=
  wpAnyH_take hi hs hf hr hQ (Or.inl ⟨hw, hy⟩) hS h
theorem rd1 {o : Oper} (i : Nat) (ho : ops[i]? = some o)
    (h : ∀ K' : Act → World → Prop, Shut (∀ a w, S w → (S w → wpAnyH P md ops Q S fuel (listed.setIfInBounds i true) a w) → K' a w) → if Region.wanted o (yielded ops a.tmps) = true then Oper.wp P o a w K' Q else K' (a.put o.dst undef) w)
    (hr : Region.ready md ops listed = [i] := by kernel_rfl) : wpAnyH P md ops Q S (fuel + 1) listed a w :=
  wpAnyH_ready hr (by simp) (AllReadyH.cons ho h AllReadyH.nil)
theorem rd2 {o o' : Oper} (i j : Nat) (ho : ops[i]? = some o) (ho' : ops[j]? = some o')
    (h : ∀ K' : Act → World → Prop, Shut (∀ a w, S w → (S w → wpAnyH P md ops Q S fuel (listed.setIfInBounds i true) a w) → K' a w) → if Region.wanted o (yielded ops a.tmps) = true then Oper.wp P o a w K' Q else K' (a.put o.dst undef) w)
    (h' : ∀ K' : Act → World → Prop, Shut (∀ a w, S w → (S w → wpAnyH P md ops Q S fuel (listed.setIfInBounds j true) a w) → K' a w) → if Region.wanted o' (yielded ops a.tmps) = true then Oper.wp P o' a w K' Q else K' (a.put o'.dst undef) w)
    (hr : Region.ready md ops listed = [i, j] := by kernel_rfl) : wpAnyH P md ops Q S (fuel + 1) listed a w :=
  wpAnyH_ready hr (by simp) (AllReadyH.cons ho h (AllReadyH.cons ho' h' AllReadyH.nil))
end
end Go.Proofs.YtgkgpjbbmnfnmaaGreatDoor
