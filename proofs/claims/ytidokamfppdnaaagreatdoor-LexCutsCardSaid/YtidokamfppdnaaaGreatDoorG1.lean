/- R.Same. -/
import Derived.Test.YtidokamfppdnaaaGreatDoorF2
namespace Go.Proofs.YtidokamfppdnaaaGreatDoor
open Go.RowKit
set_option linter.unusedSimpArgs false
set_option linter.unusedVariables false

/-- A slice of tokens that can be read. -/
def SRow (w : World) (ao : Option Addr) (L : List Tk) : Prop := ∀ j (hj : j < L.length), ∃ g o, ao = some ⟨g, o, none⟩ ∧ ∀ w', Kept No w w' → ∀ i, i < 7 → w'.cell? ⟨g, o + j * 7 + i, none⟩ = (tc L[j])[i]?
/-- A token without its places. -/
def np (X : Tk) : Tk := ⟨X.k, X.t, X.vt, X.vn, X.sy, 0, 0⟩

set_option maxRecDepth 20000 in
set_option maxHeartbeats 4000000 in
theorem Same_true {w : World} {ao bo : Option Addr} {A B : List Tk} (ha : SRow w ao A) (hb : SRow w bo B) (hl : A.length = B.length) (hn : A.length ≤ 100000) (ca cb : Nat) (pl : Bool)
    (he : ∀ j (h1 : j < A.length) (h2 : j < B.length), if pl then A[j] = B[j] else np A[j] = np B[j]) :
    Calls Tryz.prog 6 #[.slice ao A.length ca, .slice bo B.length cb, .bool pl] w fun r w' => r = .returned (.bool true) ∧ Kept No w w' := by
  have HA : Hid (SRow w ao A ∧ SRow w bo B) := ⟨ha, hb⟩
  have HE : Hid (∀ j (h1 : j < A.length) (h2 : j < B.length), if pl then A[j] = B[j] else np A[j] = np B[j]) := he
  clear ha hb he
  rw [← hl]
  go_enter Tryz.func6, Tryz.ntmps6
  go_wp2_with fail
  go_loopw [7] (fun i wr => ∃ j : Nat, j ≤ A.length ∧ i = .int .i64 j ∧ Hid (Kept No w wr)) (fun i _ => A.length - (intOf i).toNat)
  case atStart => exact ⟨0, by omega, rfl, Kept.refl _ _⟩
  case round =>
    obtain ⟨j, hj, rfl, HK⟩ := hrel
    by_cases hlt : j < A.length
    · have dlt : decide ((j : Int) < (A.length : Int)) = true := decide_eq_true (by omega)
      have lt : (j : Int) < (A.length : Int) := by omega
      obtain ⟨g, o, rfl, hcA⟩ := HA.out.1 j hlt
      obtain ⟨g', o', rfl, hcB⟩ := HA.out.2 j (by omega)
      have hE := HE.out j hlt (by omega)
      have cA := hcA wr HK.out
      have cB := fun ob => hcB (wr.alloc ob) (HK.out.alloc ob)
      clear hcA hcB HA HE
      generalize A[j] = x at cA hE
      generalize B[j]'(by omega) = y at cB hE
      obtain ⟨xk, xt, xvt, xvn, xsy, xa, xe⟩ := x
      obtain ⟨yk, yt, yvt, yvn, ysy, ya, ye⟩ := y
      have a0 := cA 0 (by omega)
      have a1 := cA 1 (by omega)
      have a2 := cA 2 (by omega)
      have a3 := cA 3 (by omega)
      have a4 := cA 4 (by omega)
      have a5 := cA 5 (by omega)
      have a6 := cA 6 (by omega)
      have b0 := fun ob => cB ob 0 (by omega)
      have b1 := fun ob => cB ob 1 (by omega)
      have b2 := fun ob => cB ob 2 (by omega)
      have b3 := fun ob => cB ob 3 (by omega)
      have b4 := fun ob => cB ob 4 (by omega)
      have b5 := fun ob => cB ob 5 (by omega)
      have b6 := fun ob => cB ob 6 (by omega)
      clear cA cB
      simp only [tc, List.getElem?_cons_zero, List.getElem?_cons_succ, Nat.add_zero] at a0 a1 a2 a3 a4 a5 a6 b0 b1 b2 b3 b4 b5 b6
      cases pl with
      | true =>
        rw [if_pos rfl] at hE
        injection hE with e1 e2 e3 e4 e5 e6 e7
        subst e1 e2 e3 e4 e5 e6 e7
        go_wp2_with fail
        go_roundw
        case rel => exact ⟨j + 1, by omega, by go_num, (HK.out.alloc _).alloc _⟩
        case measure => simp [intOf] <;> omega
      | false =>
        rw [if_neg (by decide)] at hE
        unfold np at hE
        injection hE with e1 e2 e3 e4 e5 e6 e7
        dsimp only at e1 e2 e3 e4 e5
        subst e1 e2 e3 e4 e5
        clear e6 e7
        go_wp2_with fail
        go_roundw
        case rel => exact ⟨j + 1, by omega, by go_num, (HK.out.alloc _).alloc _⟩
        case measure => simp [intOf] <;> omega
    · obtain rfl : j = A.length := by omega
      have dlt : decide ((A.length : Int) < (A.length : Int)) = false := decide_eq_false (by omega)
      clear HA HE
      go_wp2_with fail
      go_ret
      exact ⟨rfl, HK.out⟩
end Go.Proofs.YtidokamfppdnaaaGreatDoor
