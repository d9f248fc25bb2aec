/- each: every value of a row is needed. -/
import Derived.Test.YtnofmpbdfcolfaaA7
namespace Go.Proofs.Ytnofmpbdfcolfaa
open Go.RowKit
set_option linter.unusedSimpArgs false
set_option linter.unusedVariables false

theorem foldl_take_succ {α β : Type} (f : β → α → β) (b : β) (L : List α) (j : Nat) (hj : j < L.length) : (L.take (j + 1)).foldl f b = f ((L.take j).foldl f b) L[j] := by
  rw [List.take_succ_eq_append_getElem hj, List.foldl_append]; rfl

set_option maxRecDepth 20000 in
set_option maxHeartbeats 4000000 in
theorem each_any {E : Ev} (hE : E.Ok) {c nb wb kb : Nat} {w : World} {s : St} (h : Wk E c nb wb kb w s) {v : Value} {L : List V} (hL : L.length ≤ 1000000) (hR : ∀ W', Tn [3, 4, 26] E.B w W' → RdV W' v L) :
    Calls Try.prog 42 #[v, .func (.func 28) #[PT c] #[]] w (Does E c nb wb kb [3, 4, 26] w (L.foldl (need E.T) s)) := by
  have HE : Hid E.Ok := hE
  have HW : Hid (Wk E c nb wb kb w s) := h
  obtain ⟨ao, cap, rfl, _⟩ := hR w (Tn.refl _ _ _)
  have HR : Hid (∀ W' j (hj : j < L.length), Tn [3, 4, 26] E.B w W' → ∃ b off, ao = some ⟨b, off, none⟩ ∧ W'.cell? ⟨b, off + j * 2, none⟩ = some (.int .i64 L[j].1) ∧ W'.cell? ⟨b, off + j * 2 + 1, none⟩ = some (.int .i64 L[j].2)) := fun W' j hj ht => by
    obtain ⟨ao', cap', e, h⟩ := hR W' ht
    injection e with e1 e2 e3
    subst e1
    exact h j hj
  clear h hR
  obtain ⟨sF, HSF⟩ : ∃ sF, Hid (L.foldl (need E.T) s = sF) := ⟨_, rfl⟩
  rw [HSF.out]
  go_enter Try.func42, Try.ntmps42
  go_wp2_with fail
  go_loopw [8] (fun i wr => ∃ j : Nat, j ≤ L.length ∧ i = .int .i64 j ∧ Hid (Wk E c nb wb kb wr ((L.take j).foldl (need E.T) s) ∧ Tn [3, 4, 26] E.B w wr)) (fun i _ => L.length - (intOf i).toNat)
  case atStart => exact ⟨0, by omega, rfl, by simpa using HW.out, Tn.refl _ _ _⟩
  case round =>
    obtain ⟨j, hj, rfl, HJ⟩ := hrel
    by_cases hlt : j < L.length
    · have k1 : (j : Int) < (L.length : Int) := by omega
      obtain ⟨b, off, rfl, r0, r1⟩ := HR.out wr j hlt HJ.out.2
      obtain ⟨x, hx⟩ : ∃ x, L[j] = x := ⟨_, rfl⟩
      have HFs : Hid ((L.take (j + 1)).foldl (need E.T) s = need E.T ((L.take j).foldl (need E.T) s) x) := by
        show _ = _
        rw [foldl_take_succ _ _ _ _ hlt, hx]
      rw [hx] at r0 r1
      obtain ⟨x1, x2⟩ := x
      dsimp only at r0 r1
      clear hx
      have HA : Hid (∀ o, Wk E c nb wb kb (wr.alloc o) ((L.take j).foldl (need E.T) s)) := fun o => HJ.out.1.no HE.out ((Kept.refl _ _).alloc _)
      go_wp2_with fail
      go_at_call 28
      refine (need_any HE.out (HA.out _) (x1, x2)).mono ?_
      rintro e w2 ⟨⟨v, rfl⟩, h2, h3⟩
      have HD : Hid (Wk E c nb wb kb w2 ((L.take (j + 1)).foldl (need E.T) s) ∧ Tn [3, 4, 26] E.B w w2) := by
        refine ⟨by rw [HFs.out]; exact h2, HJ.out.2.trans ((Tn.no ((Kept.refl _ _).alloc _)).trans h3)⟩
      clear h2 h3 HJ HA HFs r0 r1
      go_wp2
      go_roundw
      case rel => exact ⟨j + 1, by omega, by go_num, HD.out⟩
      case measure => simp [intOf]; omega
    · have k1 : ¬ (j : Int) < (L.length : Int) := by omega
      obtain rfl : j = L.length := by omega
      rw [List.take_length] at HJ
      go_wp2
      go_end0
      exact ⟨⟨_, rfl⟩, by rw [← HSF.out]; exact HJ.out.1, HJ.out.2⟩
end Go.Proofs.Ytnofmpbdfcolfaa
