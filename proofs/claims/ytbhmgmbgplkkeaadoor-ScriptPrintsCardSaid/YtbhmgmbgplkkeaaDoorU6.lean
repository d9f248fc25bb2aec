/- Is a scene not gone through? What Print and Parse tell, case by case. -/
import Derived.Test.YtbhmgmbgplkkeaaDoorU5
import Derived.Test.YtbhmgmbgplkkeaaDoorM6
import Derived.Test.YtbhmgmbgplkkeaaDoorP12
import Derived.Test.YtbhmgmbgplkkeaaDoorS6
namespace Go.Proofs.YtbhmgmbgplkkeaaDoor
open Go.RowKit
set_option linter.unusedSimpArgs false
set_option linter.unusedVariables false

abbrev SC (z n : Int) (pv : Value) (src : ByteArray) : Value := .agg #[.int .i64 z, .int .i64 n, pv, .string src]
set_option maxRecDepth 20000 in
set_option maxHeartbeats 2000000 in
theorem vast_any {z n : Int} {ao : Option Addr} {c : Nat} {src : ByteArray} (l : Nat) (w : World) :
    Calls Tryd.prog 14 #[SC z n (.slice ao l c) src] w fun e w' => e = .returned (.bool (decide (5000 < l) || decide (20000 < src.size))) ∧ Kept No w w' := by
  have HK : Hid (∀ o, Kept No w (w.alloc o)) := fun o => (Kept.refl No w).alloc o
  by_cases h1 : 5000 < l
  · have i1 : (5000 : Int) < (l : Int) := by omega
    rw [decide_eq_true h1]
    go_enter Tryd.func14, Tryd.ntmps14
    go_wp2
    go_ret
    exact ⟨rfl, HK.out _⟩
  · have i1 : ¬ (5000 : Int) < (l : Int) := by omega
    rw [decide_eq_false h1]
    by_cases h2 : 20000 < src.size
    · have i2 : (20000 : Int) < (src.size : Int) := by omega
      rw [decide_eq_true h2]
      go_enter Tryd.func14, Tryd.ntmps14
      go_wp2
      go_ret
      exact ⟨rfl, HK.out _⟩
    · have i2 : ¬ (20000 : Int) < (src.size : Int) := by omega
      rw [decide_eq_false h2]
      go_enter Tryd.func14, Tryd.ntmps14
      go_wp2
      go_ret
      exact ⟨rfl, HK.out _⟩
/-- A text that is a scene's. -/
theorem parse_ok (s : ByteArray) (hs : s.size ≤ 1000000) (x : Sc) (hx : parseF (bl s) = .ok x) (w : World) (hm : MaxIs w) (hr : RowsIs w) :
    Calls Tryd.prog 10 #[.string s] w fun e w' => (∃ ao c, e = .returned (.tuple #[SC x.size x.steps (.slice ao x.pts.length c) (mk x.src), .int .i64 0, .int .i64 0]) ∧ RdV w' (.slice ao x.pts.length c) x.pts) ∧ Kept No w w' := by
  refine Calls.mono (Parse_any s (by omega) w hm hr) ?_
  rintro e w' ⟨hp, hk⟩
  obtain ⟨pv, he, hv, _⟩ := hp.1 x hx
  obtain ⟨ao, c, rfl⟩ := hv.form
  exact ⟨⟨ao, c, he, hv.rd⟩, hk⟩
theorem parse_no (s : ByteArray) (hs : s.size ≤ 1000000) (a er : Nat) (hx : parseF (bl s) = .err a er) (w : World) (hm : MaxIs w) (hr : RowsIs w) :
    Calls Tryd.prog 10 #[.string s] w fun e w' => e = .returned (.tuple #[SC 0 0 (.slice none 0 0) ⟨#[]⟩, .int .i64 (a : Int), .int .i64 (er : Int)]) ∧ Kept No w w' := by
  refine Calls.mono (Parse_any s (by omega) w hm hr) ?_
  rintro e w' ⟨hp, hk⟩
  exact ⟨hp.2 a er hx, hk⟩
theorem rd_nil (w : World) : RdV w (.slice none 0 0) [] := ⟨none, 0, rfl, Nat.le_refl _, fun j hj => by simp at hj⟩
theorem Same_nil (w : World) :
    Calls Tryd.prog 12 #[SC 0 0 (.slice none 0 0) ⟨#[]⟩, SC 0 0 (.slice none 0 0) ⟨#[]⟩] w fun e w' => e = .returned (.bool true) ∧ Kept No w w' :=
  Same_eq (rd_nil w) (rd_nil w) (by simp)
theorem mk_text_size (x : Sc) : (mk (textF x)).size = (textF x).length := mk_size _
end Go.Proofs.YtbhmgmbgplkkeaaDoor
