/- What is known of a mode's rules in memory. -/
import Derived.Test.YtnihfakhijjjkaaA7
namespace Go.Proofs.Ytnihfakhijjjkaa
open Go.RowKit
set_option linter.unusedSimpArgs false
set_option linter.unusedVariables false

theorem mixed : Try.prog.follows .mixedOrders = true := by kernel_rfl
/-- What breaks a rule in ModeGen. -/
def brG (wh : Int) (L : List Int) (s : Sn) : Bool := !fits s.col s.age wh (decide (0 < cnt L L.length s.h))
def mnG (s t : Sn) : Bool := tooY s.age t.age
/-- .. in ModeInc. -/
def brI (wh : Int) (s : Sn) : Bool := !decide (s.age = 0) || !decide (s.col = wh)
def mnI (_ _ : Sn) : Bool := false

def RuG (sv gv av pv : Value) (wh : Int) (L : List Int) (X : World) (r1 r2 r3 r4 : Nat) : Prop :=
  X.heap[r1]? = some (BV 1 0 wh sv gv av pv) ∧ X.heap[r2]? = some (.cells #[.map (some r3)] 56) ∧ MapJ X r3 r4 (cnt L L.length)
def RuI (sv gv av pv : Value) (wh : Int) (X : World) (r1 r2 _r3 _r4 : Nat) : Prop :=
  X.heap[r1]? = some (BV 0 0 wh sv gv av pv) ∧ X.heap[r2]? = some (.cells #[Fc 37 #[PT r1]] 44)
theorem RuG.no {sv gv av pv : Value} {wh : Int} {L : List Int} {X X' : World} {r1 r2 r3 r4 : Nat} (h : RuG sv gv av pv wh L X r1 r2 r3 r4) (hk : Kept No X X') : RuG sv gv av pv wh L X' r1 r2 r3 r4 := ⟨hk.heap h.1 id, hk.heap h.2.1 id, h.2.2.kept hk id⟩
theorem RuI.no {sv gv av pv : Value} {wh : Int} {X X' : World} {r1 r2 r3 r4 : Nat} (h : RuI sv gv av pv wh X r1 r2 r3 r4) (hk : Kept No X X') : RuI sv gv av pv wh X' r1 r2 r3 r4 := ⟨hk.heap h.1 id, hk.heap h.2 id⟩
theorem ne_47 {X : World} {a b : Nat} {c c' : Array Value} {e : TypeId} {f f' : Nat × Nat} (h : X.heap[a]? = some (.cells c e f)) (h' : X.heap[b]? = some (.cells c' 47 f')) (he : e ≠ 47) : ¬ a = b := by
  rintro rfl
  rw [h] at h'
  injection h' with h'
  injection h' with _ h'
  exact he h'
theorem RuG.other {sv gv av pv : Value} {wh : Int} {L : List Int} {X X' : World} {r1 r2 r3 r4 a : Nat} {c : Array Value} {f : Nat × Nat} (h : RuG sv gv av pv wh L X r1 r2 r3 r4) (hk : Kept (fun k => k = a) X X') (ha : X.heap[a]? = some (.cells c 47 f)) : RuG sv gv av pv wh L X' r1 r2 r3 r4 :=
  ⟨hk.heap h.1 (ne_47 h.1 ha (by decide)), hk.heap h.2.1 (ne_47 h.2.1 ha (by decide)), h.2.2.kept hk (h.2.2.cells ha)⟩
theorem RuI.other {sv gv av pv : Value} {wh : Int} {X X' : World} {r1 r2 r3 r4 a : Nat} {c : Array Value} {f : Nat × Nat} (h : RuI sv gv av pv wh X r1 r2 r3 r4) (hk : Kept (fun k => k = a) X X') (ha : X.heap[a]? = some (.cells c 47 f)) : RuI sv gv av pv wh X' r1 r2 r3 r4 :=
  ⟨hk.heap h.1 (ne_47 h.1 ha (by decide)), hk.heap h.2 (ne_47 h.2 ha (by decide))⟩
theorem RuG.brk {sv gv av pv : Value} {wh : Int} {L : List Int} {X : World} {r1 r2 r3 r4 : Nat} (h : RuG sv gv av pv wh L X r1 r2 r3 r4) {br : Sn → Bool} (hb : br = brG wh L) (s : Sn) (so : Option Addr) (sn sc : Nat) (hw : wf s.h) :
    Calls Try.prog 30 #[AS s (.slice so sn sc), PT r1, PT r2] X fun e w' => e = .returned (.bool (br s)) ∧ Kept No X w' := by
  rw [hb]; exact gen1_any h.1 h.2.1 h.2.2 s so sn sc hw
theorem RuI.brk {sv gv av pv : Value} {wh : Int} {X : World} {r1 r2 r3 r4 : Nat} (h : RuI sv gv av pv wh X r1 r2 r3 r4) {br : Sn → Bool} (hb : br = brI wh) (s : Sn) (so : Option Addr) (sn sc : Nat) (hw : wf s.h) :
    Calls Try.prog 28 #[AS s (.slice so sn sc), PT r2] X fun e w' => e = .returned (.bool (br s)) ∧ Kept No X w' := by
  rw [hb]; exact inc1_any h.1 h.2 s so sn sc
theorem RuG.led {mn : Sn → Sn → Bool} (hm : mn = mnG) (s t : Sn) (so : Option Addr) (sn sc : Nat) (to : Option Addr) (tn tc : Nat) (X : World) :
    Calls Try.prog 32 #[AS s (.slice so sn sc), AS t (.slice to tn tc)] X fun e w' => e = .returned (.bool (mn s t)) ∧ Kept No X w' := by
  rw [hm]; exact gen2_any s t so sn sc to tn tc X
theorem RuI.led {mn : Sn → Sn → Bool} (hm : mn = mnI) (s t : Sn) (so : Option Addr) (sn sc : Nat) (to : Option Addr) (tn tc : Nat) (X : World) :
    Calls Try.prog 36 #[AS s (.slice so sn sc), AS t (.slice to tn tc)] X fun e w' => e = .returned (.bool (mn s t)) ∧ Kept No X w' := by
  rw [hm]; exact str3_any s t so sn sc to tn tc X
theorem MapN.cells {w : World} {M n b : Nat} {sl : Int → Int → Option Nat} {c : Array Value} {e : TypeId} {f : Nat × Nat} (h : MapN w M n sl) (hb : w.heap[b]? = some (.cells c e f)) : ¬ M = b := by
  obtain ⟨D, ⟨es, cc, hm, r⟩, hD⟩ := h
  rintro rfl
  rw [hm] at hb; cases hb
theorem VRow.down {w : World} {B B' : Nat} {v : Value} {L : List V} (h : VRow w B v L) (hB : B' ≤ B) : VRow w B' v L := by
  refine ⟨h.1, h.2.imp id ?_⟩
  rintro ⟨g, cap, cur, e1, e2, r⟩
  exact ⟨g, cap, cur, e1, by omega, r⟩
theorem VRow.no {w w' : World} {B : Nat} {v : Value} {L : List V} (h : VRow w B v L) (hk : Kept No w w') : VRow w' B v L := by
  refine h.turn (fun k e => ?_)
  obtain ⟨_, c, hc⟩ := h.block e
  rw [hc]; exact hk.heap hc id
/-- What an append leaves of a box. -/
theorem keep_row {w w' : World} {B sb : Nat} {v : Value} {L : List V} {o : Obj} {c : Array Value} (h : VRow w B v L) (hg : (w.alloc o).grownBy w' v.ownBlock) (hb : w.heap[sb]? = some (.cells c 36 (0, 0))) : w'.heap[sb]? = some (.cells c 36 (0, 0)) := by
  rw [hg.block sb (by rw [World.size_alloc]; have := hp_lt hb; omega) (fun e => ?_)]
  · exact (Below.heap_alloc w _ _ (hp_lt hb)).trans hb
  · obtain ⟨_, c', hc⟩ := h.block e.symm
    rw [hb] at hc; cases hc
end Go.Proofs.Ytnihfakhijjjkaa
