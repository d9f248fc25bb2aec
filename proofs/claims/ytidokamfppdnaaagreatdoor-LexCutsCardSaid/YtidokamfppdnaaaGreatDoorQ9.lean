/- LexCuts. -/
import Derived.Test.YtidokamfppdnaaaGreatDoorQ8
namespace Go.Proofs.YtidokamfppdnaaaGreatDoor
open Go.RowKit
set_option linter.unusedSimpArgs false
set_option linter.unusedVariables false

set_option maxRecDepth 20000 in
set_option maxHeartbeats 4000000 in
/-- Both give the same slice's worth of tokens, the same place, the same error. -/
theorem cuts_of (s : ByteArray) (w : World) (he : ErrIs w) (hg : SgIs w) (L : List Tk) (hl : L.length ≤ 100000) (a x : Int)
    (hA : Calls Tryz.prog 4 #[.string s] w fun r w' => (∃ ao cap, r = .returned (.tuple #[.slice ao L.length cap, .int .i64 a, .int .i64 x]) ∧ SRow w' ao L) ∧ Kept No w w')
    (hB : ∀ w', Kept No w w' → Calls Tryz.prog 5 #[.string s] w' fun r w'' => (∃ ao cap, r = .returned (.tuple #[.slice ao L.length cap, .int .i64 a, .int .i64 x]) ∧ SRow w'' ao L) ∧ Kept No w' w'') :
    Calls Tryz.prog 3 #[.string s] w fun r w' => r = .returned (.bool true) ∧ Kept No w w' := by
  have HA1 : Hid (Calls Tryz.prog 4 #[.string s] w _) := hA
  have HB1 : Hid (∀ w', Kept No w w' → Calls Tryz.prog 5 #[.string s] w' _) := hB
  have HA : Hid (∀ w', Kept No w w' → Calls Tryz.prog 8 #[] w' fun r w'' => r = .returned (.bool true) ∧ Kept No w' w'') := fun w' hk => alive_any w' (he.no hk) (hg.no hk)
  have HN : Hid (∀ (x : Int) w, Calls Tryz.prog 7 #[.int .i64 x] w fun e w' => e = .returned (.int .i64 x) ∧ w = w') := no_any
  clear hA hB he hg
  go_enter Tryz.func3, Tryz.ntmps3
  go_wp2_with fail
  refine Calls.mono HA1.out ?_
  rintro e W1 ⟨⟨ao, cap, rfl, hs1⟩, hk1⟩
  have HK : Hid (Kept No w W1 ∧ SRow W1 ao L) := ⟨hk1, hs1⟩
  clear hk1 hs1 HA1
  go_wp2_with fail
  refine Calls.mono (HB1.out _ HK.out.1) ?_
  rintro e W2 ⟨⟨bo, cap2, rfl, hs2⟩, hk2⟩
  have S1 : Hid (Calls Tryz.prog 6 #[.slice ao L.length cap, .slice bo L.length cap2, .bool true] W2 fun r w' => r = .returned (.bool true) ∧ Kept No W2 w') :=
    Same_true (HK.out.2.no hk2) hs2 rfl hl cap cap2 true (fun _ _ _ => rfl)
  have HK2 : Hid (Kept No w W2) := HK.out.1.trans hk2
  clear hk2 hs2 HB1 HK
  go_wp2_with fail
  refine Calls.mono S1.out ?_
  rintro e W3 ⟨rfl, hk3⟩
  have HK3 : Hid (Kept No w W3) := HK2.out.trans hk3
  clear hk3 S1 HK2
  go_wp2_with (first | (go_at_call 7; refine Calls.mono (HN.out _ _) ?_; rintro e w' ⟨rfl, rfl⟩) | fail)
  refine Calls.mono (HA.out _ HK3.out) ?_
  rintro e W5 ⟨rfl, hk5⟩
  have HK6 : Hid (Kept No w W5) := HK3.out.trans hk5
  clear hk5 HK3 HA
  go_wp2_with fail
  go_ret
  exact ⟨rfl, HK6.out⟩

theorem Lx.len {s : ByteArray} {hs : s.size ≤ 8192} {k0 : Nat} {e : Option (Nat × Int)} {L : List Tk} (h : Lx s hs k0 e L) : L.length ≤ s.size - k0 := by
  induction h with
  | done k h => simp
  | bad k x h1 h2 h3 => simp
  | more k E X e L h1 h2 h3 h4 h5 h6 h7 ih => simp; omega
theorem srow_nil (w : World) (ao : Option Addr) : SRow w ao [] := fun j hj => by simp at hj
theorem LexCuts_any (s : ByteArray) (w : World) (hz : s.size ≤ 140737488351232) (he : ErrIs w) (hg : SgIs w) :
    Calls Tryz.prog 3 #[.string s] w fun r w' => r = .returned (.bool true) ∧ Kept No w w' := by
  by_cases hs : s.size ≤ 8192
  · obtain ⟨e, L, hL⟩ := Lx.all s hs _ (skipB false (bl s)) (Nat.le_refl _)
    have hlen : L.length ≤ 100000 := by have := hL.len; omega
    cases e with
    | none =>
      refine cuts_of s w he hg L hlen 0 0 ((Lex_is s w he hg hs hL).mono ?_) (fun w1 _ => (RLex_is s w1 hs hL).mono ?_)
      · rintro r w' ⟨⟨v, rfl, ht⟩, hk⟩
        obtain ⟨ao, cap, rfl, h⟩ := ht.srow
        exact ⟨⟨ao, cap, rfl, h⟩, hk⟩
      · rintro r w' ⟨⟨v, rfl, ht⟩, hk⟩
        obtain ⟨ao, cap, rfl, h⟩ := ht.srow
        exact ⟨⟨ao, cap, rfl, h⟩, hk⟩
    | some p =>
      obtain ⟨a, x⟩ := p
      refine cuts_of s w he hg [] (by simp) a x ((Lex_is s w he hg hs hL).mono ?_) (fun w1 _ => (RLex_is s w1 hs hL).mono ?_)
      · rintro r w' ⟨rfl, hk⟩
        exact ⟨⟨none, 0, rfl, srow_nil _ _⟩, hk⟩
      · rintro r w' ⟨rfl, hk⟩
        exact ⟨⟨none, 0, rfl, srow_nil _ _⟩, hk⟩
  · refine cuts_of s w he hg [] (by simp) 0 3 ((Lex_long s w hs).mono ?_) (fun w1 _ => (RLex_long s w1 hs).mono ?_)
    · rintro r w' ⟨rfl, hk⟩
      exact ⟨⟨none, 0, rfl, srow_nil _ _⟩, hk⟩
    · rintro r w' ⟨rfl, hk⟩
      exact ⟨⟨none, 0, rfl, srow_nil _ _⟩, hk⟩
end Go.Proofs.YtidokamfppdnaaaGreatDoor
