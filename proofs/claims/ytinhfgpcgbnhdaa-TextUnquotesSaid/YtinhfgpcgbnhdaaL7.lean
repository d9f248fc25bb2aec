/- TextUnquotes, walked. -/
import Derived.Test.YtinhfgpcgbnhdaaT15
namespace Go.Proofs.Ytinhfgpcgbnhdaa
open Go.RowKit

theorem unquote_pair (s : ByteArray) : ∃ (t : ByteArray) (e : Int), unquoteT s = .tuple #[.string t, .int .i64 e] := by
  unfold unquoteT
  split
  · split
    · exact ⟨_, _, rfl⟩
    · exact ⟨_, _, rfl⟩
  · exact ⟨_, _, rfl⟩

set_option maxHeartbeats 1000000 in
theorem TextUnquotes_any (s : ByteArray) (w : World) (hs : s.size ≤ maxLen) :
    Calls Try.prog 7 #[.string s] w fun e w' => e = .returned (.bool true) ∧ Below w.heap.size w w' := by
  unfold maxLen at hs
  by_cases hb : (500 : Int) < (s.size : Int)
  · go_enter Try.func7, Try.ntmps7
    go_wp2_with (first | (go_at_call 11; refine (alive_any _).mono ?_; rintro e w1 ⟨rfl, hb1⟩))
    go_ret
    exact ⟨rfl, hb1⟩
  · have h3 : s.size ≤ 500 := by omega
    obtain ⟨T, E, hTE⟩ := unquote_pair s
    have U1 : Hid (∀ w, Calls Try.prog 26 #[.string s] w fun e w' => e = .returned (.tuple #[.string T, .int .i64 E]) ∧ Below w.heap.size w w') := by
      intro w; rw [← hTE]; exact Unquote_any s w (by omega)
    have U2 : Hid (∀ w, Calls Try.prog 27 #[.string s] w fun e w' => e = .returned (.tuple #[.string T, .int .i64 E]) ∧ Below w.heap.size w w') := by
      intro w; rw [← hTE]; exact RUnquote_any s w h3
    have hT : (T.toList == T.toList) = true := by simp
    clear hTE
    go_enter Try.func7, Try.ntmps7
    go_wp2_with fail
    refine (U1.out _).mono ?_
    rintro e w1 ⟨rfl, hb1⟩
    go_wp2_with fail
    refine (U2.out _).mono ?_
    rintro e w2 ⟨rfl, hb2⟩
    have HB2 : Hid (Below w.heap.size w w2) := hb1.trans (hb2.mono hb1.size)
    clear hb1 hb2
    go_wp2_with (first | (go_at_call 11; refine (alive_any _).mono ?_; rintro e w5 ⟨rfl, hb5⟩) | (go_at_call 23; refine (no_any _ _).mono ?_; rintro e w' ⟨rfl, rfl⟩))
    go_ret
    exact ⟨rfl, HB2.out.trans (hb5.mono HB2.out.size)⟩
end Go.Proofs.Ytinhfgpcgbnhdaa
