/- Pack and Unpack, in the program and in the document's answer. -/
import Derived.Test.YtnmchcanijkggaaO4
import Derived.Test.YtnmchcanijkggaaO2
import Derived.Test.YtnmchcanijkggaaE1
namespace Go.Proofs.Ytnmchcanijkggaa
open Go.RowKit

def pkA (h : Hd) : Int := if rightE h = 0 then c1 h else 0
def pkB (h : Hd) : Int := if rightE h = 0 then c2 h else 0

set_option maxHeartbeats 2000000 in
theorem Pack_any (h : Hd) (w : World) :
    Calls Try.prog 12 #[AH h] w fun e w' => e = .returned (.tuple #[.int .i64 (pkA h), .int .i64 (pkB h), .int .i64 (rightE h)]) ∧ Below w.heap.size w w' := by
  by_cases hr : rightE h = 0
  · rw [show pkA h = c1 h by simp [pkA, hr], show pkB h = c2 h by simp [pkB, hr], hr]
    have HJ := fun w => joined_any h w hr
    go_enter Try.func12, Try.ntmps12
    go_wp2_with fail
    refine (Right_any _ _).mono ?_
    rintro e w1 ⟨rfl, hb1⟩
    rw [hr]
    obtain ⟨hc, hf⟩ := bcell hb1
    have HB : Hid (Below w.heap.size w w1) := ((Below.refl _ _).alloc (Nat.le_refl _) _).trans (hb1.mono (by simp))
    have hz : w.heap.size < w1.heap.size := by have := hb1.size; simp at this; omega
    clear hb1
    go_wp2_with fail
    refine (HJ _).mono ?_
    rintro e w2 ⟨rfl, hb2⟩
    have HB2 : Hid (Below w.heap.size w w2) := HB.out.trans (hb2.mono (by omega))
    have hz2 : w.heap.size < w2.heap.size := by have := hb2.size; omega
    clear hb2 HB hc hf HJ
    go_wp2
    go_region
    go_wp2
    exact bodyPost_ret (v := .tuple #[.int .i64 (c1 h), .int .i64 (c2 h), .int .i64 0]) (by simp [results, Try.results12, go_sem]) rfl ⟨rfl, (HB2.out.alloc (by omega) _).drew⟩
  · rw [show pkA h = 0 by simp [pkA, hr], show pkB h = 0 by simp [pkB, hr]]
    have hr' : (rightE h != 0) = true := by simp [hr]
    clear hr
    go_enter Try.func12, Try.ntmps12
    go_wp2_with fail
    refine (Right_any _ _).mono ?_
    rintro e w1 ⟨rfl, hb1⟩
    go_wp2
    exact bodyPost_ret (v := .tuple #[.int .i64 0, .int .i64 0, .int .i64 (rightE h)]) (by simp [results, Try.results12, go_sem]) rfl ⟨rfl, ((Below.refl _ _).alloc (Nat.le_refl _) _).trans (hb1.mono (by simp))⟩

/-- A head lies in block N, two cells in block A. -/
def SeenH (N A : Nat) (h : Hd) (a b : Int) (w' : World) : Prop := w'.cell? ⟨N, 0, none⟩ = some (.int .i64 h.k) ∧ w'.cell? ⟨N, 1, none⟩ = some (.int .i64 h.c) ∧ w'.cell? ⟨N, 2, none⟩ = some (.int .i64 h.a) ∧ w'.cell? ⟨N, 3, none⟩ = some (.int .i64 h.w) ∧ w'.cell? ⟨N, 4, none⟩ = some (.int .i64 h.s) ∧ w'.cell? ⟨N, 5, none⟩ = some (.int .i64 h.f) ∧ w'.cell? ⟨N, 6, none⟩ = some (.int .i64 h.x) ∧ w'.cell? ⟨N, 7, none⟩ = some (.int .i64 h.l) ∧ w'.cell? ⟨A, 0, none⟩ = some (.int .i64 a) ∧ w'.cell? ⟨A, 1, none⟩ = some (.int .i64 b)

theorem seen_keep {N A : Nat} {h : Hd} {a b : Int} {W w2 : World} (hs : SeenH N A h a b W) (hN : N < W.heap.size) (hA : A < W.heap.size) (hb : Below W.heap.size W w2) : SeenH N A h a b w2 := by
  obtain ⟨q0, q1, q2, q3, q4, q5, q6, q7, q8, q9⟩ := hs
  obtain ⟨hc, _⟩ := bcell hb
  exact ⟨by rw [hc _ _ hN]; exact q0, by rw [hc _ _ hN]; exact q1, by rw [hc _ _ hN]; exact q2, by rw [hc _ _ hN]; exact q3, by rw [hc _ _ hN]; exact q4, by rw [hc _ _ hN]; exact q5, by rw [hc _ _ hN]; exact q6, by rw [hc _ _ hN]; exact q7, by rw [hc _ _ hA]; exact q8, by rw [hc _ _ hA]; exact q9⟩

/-- A head without anything lies in block R, and can be written. -/
def Zero8 (R : Nat) (w' : World) : Prop := w'.cell? ⟨R, 0, none⟩ = some (.int .i64 0) ∧ w'.cell? ⟨R, 1, none⟩ = some (.int .i64 0) ∧ w'.cell? ⟨R, 2, none⟩ = some (.int .i64 0) ∧ w'.cell? ⟨R, 3, none⟩ = some (.int .i64 0) ∧ w'.cell? ⟨R, 4, none⟩ = some (.int .i64 0) ∧ w'.cell? ⟨R, 5, none⟩ = some (.int .i64 0) ∧ w'.cell? ⟨R, 6, none⟩ = some (.int .i64 0) ∧ w'.cell? ⟨R, 7, none⟩ = some (.int .i64 0) ∧ w'.frozen? ⟨R, 0, none⟩ = false ∧ w'.frozen? ⟨R, 1, none⟩ = false ∧ w'.frozen? ⟨R, 2, none⟩ = false ∧ w'.frozen? ⟨R, 3, none⟩ = false ∧ w'.frozen? ⟨R, 4, none⟩ = false ∧ w'.frozen? ⟨R, 5, none⟩ = false ∧ w'.frozen? ⟨R, 6, none⟩ = false ∧ w'.frozen? ⟨R, 7, none⟩ = false
theorem zero_keep {R : Nat} {W w2 : World} (hs : Zero8 R W) (hN : R < W.heap.size) (hb : Below W.heap.size W w2) : Zero8 R w2 := by
  obtain ⟨q0, q1, q2, q3, q4, q5, q6, q7, q8, q9, q10, q11, q12, q13, q14, q15⟩ := hs
  obtain ⟨hc, hf⟩ := bcell hb
  exact ⟨by rw [hc _ _ hN]; exact q0, by rw [hc _ _ hN]; exact q1, by rw [hc _ _ hN]; exact q2, by rw [hc _ _ hN]; exact q3, by rw [hc _ _ hN]; exact q4, by rw [hc _ _ hN]; exact q5, by rw [hc _ _ hN]; exact q6, by rw [hc _ _ hN]; exact q7, by rw [hf _ _ hN]; exact q8, by rw [hf _ _ hN]; exact q9, by rw [hf _ _ hN]; exact q10, by rw [hf _ _ hN]; exact q11, by rw [hf _ _ hN]; exact q12, by rw [hf _ _ hN]; exact q13, by rw [hf _ _ hN]; exact q14, by rw [hf _ _ hN]; exact q15⟩

theorem set8_below {R B : Nat} {w W : World} (h : Below B w W) (hR : B ≤ R) (v0 v1 v2 v3 v4 v5 v6 v7 : Value) :
    Below B w ((((((((W.setCell ⟨R, 0, none⟩ v0).setCell ⟨R, 1, none⟩ v1).setCell ⟨R, 2, none⟩ v2).setCell ⟨R, 3, none⟩ v3).setCell ⟨R, 4, none⟩ v4).setCell ⟨R, 5, none⟩ v5).setCell ⟨R, 6, none⟩ v6).setCell ⟨R, 7, none⟩ v7) :=
  (((((((h.setCell hR v0).setCell hR v1).setCell hR v2).setCell hR v3).setCell hR v4).setCell hR v5).setCell hR v6).setCell hR v7

end Go.Proofs.Ytnmchcanijkggaa
