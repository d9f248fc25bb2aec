/- ArenaFirst, walked. -/
import Derived.Test.YtdaklohfecinjaaP3
namespace Go.Proofs.Ytdaklohfecinjaa
open Go.RowKit Go.Maps Go.Sort Go.Shelf
set_option linter.unusedSimpArgs false
set_option linter.unusedVariables false

theorem row_h {w : World} {B : Nat} {v : Value} {xs hb : List (Nat × Nd)} (hl : xs.length = hb.length) (hx : hs xs = hsS hb) (h : w.ownsRow B 3 1 v hb.length ((hsS hb).map (Value.int .i64))) : HRow w v xs := by
  rw [← hx, ← hl] at h
  exact row_cells h
theorem own_ge {w : World} {B : Nat} {v : Value} {n : Nat} {xs : List Value} (h : w.ownsRow B 3 1 v n xs) {g : Nat} (hg : v.ownBlock = some g) : B ≤ g ∧ g < w.heap.size := h.lt g hg

set_option maxRecDepth 100000 in
set_option maxHeartbeats 4000000 in
/-- What is asked where no block was made. -/
theorem First_refused {w w2 w3 : World} {A C M F f f' size least : Nat} {cs : List Int} {hb xs : List (Nat × Nd)} {v : Value} (H3 : Rx w w3 A C M F f' size least 80 cs hb) (hl : xs.length = hb.length) (hx : hs xs = hsS hb) (hv : HRow w3 v xs) (hvb : ∀ g, v.ownBlock = some g → g < w3.heap.size) :
    Calls Try.prog 23 #[.pointer (some ⟨A, 0, none⟩)] w3 fun e w' => ∃ v', e = .returned v' ∧ HRow w' v' xs ∧ HRow w' v xs ∧ Kept No w3 w' := by
  refine (Handles_any H3.1).mono ?_
  rintro e w4 ⟨v', rfl, hrow, hb4⟩
  exact ⟨v', rfl, row_h hl hx hrow, hv.heap (fun g hg => hb4.block g (hvb g hg)), Kept.of_below hb4⟩
end Go.Proofs.Ytdaklohfecinjaa
