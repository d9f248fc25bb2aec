/- The chapter's examples. -/
import Derived.Test.YtbhmgmbgplkkeaaDoorP11
namespace Go.Proofs.YtbhmgmbgplkkeaaDoor
open Go.RowKit
set_option linter.unusedSimpArgs false
set_option linter.unusedVariables false

theorem no_any (n : Int) (w : World) : Calls Tryd.prog 13 #[.int .i64 n] w fun e w' => e = .returned (.int .i64 n) ∧ w = w' := by
  go_enter Tryd.func13, Tryd.ntmps13
  go_wp2
  go_ret
  exact ⟨rfl, rfl⟩

abbrev ex1 : List UInt8 := [115, 105, 122, 101, 32, 57, 48, 48, 10, 115, 116, 101, 112, 115, 32, 53, 48, 10, 121, 111, 117, 110, 103, 32, 120, 51, 10, 109, 111, 100, 101, 32, 49, 10, 115, 111, 117, 114, 99, 101, 10, 101, 109, 105, 116, 40, 49, 41]
abbrev ex2 : List UInt8 := [115, 105, 122, 101, 32, 48, 10]
abbrev ex3 : List UInt8 := [115, 116, 101, 112, 115, 32, 53, 10]
def exS : Sc := ⟨900, 50, [(2, 0), (2, 0), (2, 0), (4, 1)], [101, 109, 105, 116, 40, 49, 41]⟩
theorem parse_ex1 : parseF ex1 = .ok exS := by
  unfold parseF
  rw [if_neg (by decide)]
  rw [outS_go _ _ _ (.s1 900) (ex1.drop 9) (fun x e => by cases e) (by rfl)]
  rw [outS_go _ _ _ (.s2 900 50 []) (ex1.drop 18) (fun x e => by cases e) (by rfl)]
  rw [outS_go _ _ _ (.s2 900 50 [(2, 0), (2, 0), (2, 0)]) (ex1.drop 27) (fun x e => by cases e) (by rfl)]
  rw [outS_go _ _ _ (.s2 900 50 [(2, 0), (2, 0), (2, 0), (4, 1)]) (ex1.drop 34) (fun x e => by cases e) (by rfl)]
  rw [outS_go _ _ _ (.done exS) [] (fun x e => by cases e) (by rfl)]
  rw [outS_done]
theorem parse_ex2 : parseF ex2 = .err 0 7 := by
  unfold parseF
  rw [if_neg (by decide)]
  exact outS_err _ _ _ _ (fun x e => by cases e) (by rfl)
theorem parse_ex3 : parseF ex3 = .err 0 6 := by
  unfold parseF
  rw [if_neg (by decide)]
  exact outS_err _ _ _ _ (fun x e => by cases e) (by rfl)

set_option maxRecDepth 20000 in
set_option maxHeartbeats 4000000 in
theorem alive_any (w : World) (hm : MaxIs w) (hr : RowsIs w) : Calls Tryd.prog 9 #[] w fun e w' => e = .returned (.bool true) ∧ Kept No w w' := by
  have HP : Hid (∀ (l : List UInt8) X, l.length ≤ 1000 → Kept No w X → Calls Tryd.prog 10 #[.string (mk l)] X fun e w' => ParsePost X.heap.size (parseF l) e w' ∧ Kept No X w') := fun l X hl hX => by
    have := Parse_any (mk l) (by rw [mk_size]; omega) X (hm.no hX) (hr.no hX)
    rwa [bl_mk] at this
  clear hm hr
  go_enter Tryd.func9, Tryd.ntmps9
  go_wp2_with fail
  refine Calls.mono (HP.out ex1 w (by decide) (Kept.refl _ _)) ?_
  rintro e w1 ⟨hp, hk1⟩
  obtain ⟨pv, rfl, hrow, _⟩ := hp.1 exS parse_ex1
  have HK1 : Hid (Kept No w w1) := hk1
  obtain ⟨g, cp, rfl, hcp, d0, d1⟩ : ∃ g cp, pv = .slice (some ⟨g, 0, none⟩) 4 cp ∧ 4 ≤ cp ∧ w1.cell? ⟨g, 6, none⟩ = some (.int .i64 4) ∧ w1.cell? ⟨g, 7, none⟩ = some (.int .i64 1) := by
    obtain ⟨ao, cp, e, hcp, hC⟩ := hrow.rd
    obtain ⟨b, off, rfl, c0, c1⟩ := hC 3 (by decide)
    rcases hrow.2 with ⟨e2, h0⟩ | ⟨g, cap, cur, e2, _⟩
    · cases h0
    · rw [e2] at e
      injection e with e3
      injection e3 with e3
      injection e3 with e4 e5
      subst e4 e5
      exact ⟨g, cap, e2, by subst_vars; assumption, c0, c1⟩
  clear hp hk1 hrow
  obtain ⟨W1, HW1⟩ : ∃ W1, Hid (W1 = w1.alloc (.cells #[.int .i64 900, .int .i64 50, .slice (some ⟨g, 0, none⟩) 4 cp, .string (mk [101, 109, 105, 116, 40, 49, 41])] 25)) := ⟨_, rfl⟩
  have HKW1 : Hid (Kept No w1 W1) := by show Kept _ _ _; rw [HW1.out]; exact (Kept.refl _ _).alloc _
  have HB1 : Hid (W1.heap[w1.heap.size]? = some (.cells #[.int .i64 900, .int .i64 50, .slice (some ⟨g, 0, none⟩) 4 cp, .string (mk [101, 109, 105, 116, 40, 49, 41])] 25 (0, 0))) := by show _ = _; rw [HW1.out]; exact World.alloc_heap_new w1 _
  have HD : Hid (∀ X, Kept No W1 X → (X.cell? ⟨g, 6, none⟩ = some (.int .i64 4) ∧ X.cell? ⟨g, 7, none⟩ = some (.int .i64 1)) ∧ X.heap[w1.heap.size]? = some (.cells #[.int .i64 900, .int .i64 50, .slice (some ⟨g, 0, none⟩) 4 cp, .string (mk [101, 109, 105, 116, 40, 49, 41])] 25 (0, 0))) := fun X hX =>
    ⟨⟨cell_kept d0 (HKW1.out.trans hX), cell_kept d1 (HKW1.out.trans hX)⟩, hX.heap HB1.out id⟩
  have hx : (Value.agg #[.int .i64 exS.size, .int .i64 exS.steps, .slice (some ⟨g, 0, none⟩) 4 cp, .string (mk exS.src)]) = .agg #[.int .i64 900, .int .i64 50, .slice (some ⟨g, 0, none⟩) 4 cp, .string (mk [101, 109, 105, 116, 40, 49, 41])] := rfl
  rw [hx]
  clear d0 d1 hx
  obtain ⟨b1, hb1⟩ : ∃ b1, Hid (b1 = w1.heap.size) := ⟨_, rfl⟩
  go_wp2_with fail
  rw [← HW1.out, ← hb1.out]
  refine Calls.mono (HP.out ex2 W1 (by decide) (HK1.out.trans HKW1.out)) ?_
  rintro e w2 ⟨hp, hk2⟩
  obtain rfl := hp.2 0 7 parse_ex2
  have HK2 : Hid (Kept No W1 w2) := hk2
  clear hp hk2
  obtain ⟨W2, HW2⟩ : ∃ W2, Hid (W2 = w2.alloc (.cells #[.int .i64 0, .int .i64 0, .slice none 0 0, .string ⟨#[]⟩] 25)) := ⟨_, rfl⟩
  have HKW2 : Hid (Kept No W1 W2) := by show Kept _ _ _; rw [HW2.out]; exact HK2.out.alloc _
  go_wp2_with fail
  rw [← HW2.out]
  refine Calls.mono (HP.out ex3 W2 (by decide) ((HK1.out.trans HKW1.out).trans HKW2.out)) ?_
  rintro e w3 ⟨hp, hk3⟩
  obtain rfl := hp.2 0 6 parse_ex3
  obtain ⟨W3, HW3⟩ : ∃ W3, Hid (W3 = w3.alloc (.cells #[.int .i64 0, .int .i64 0, .slice none 0 0, .string ⟨#[]⟩] 25)) := ⟨_, rfl⟩
  have HKW3 : Hid (Kept No W1 W3) := by show Kept _ _ _; rw [HW3.out]; exact (HKW2.out.trans hk3).alloc _
  clear hp hk3
  obtain ⟨⟨e0, e1⟩, hB⟩ := HD.out W3 HKW3.out
  rw [← hb1.out] at hB
  have z0 : W3.cell? ⟨b1, 0, none⟩ = some (.int .i64 900) := by rw [cell_of hB]; rfl
  have z1 : W3.cell? ⟨b1, 1, none⟩ = some (.int .i64 50) := by rw [cell_of hB]; rfl
  have z2 : W3.cell? ⟨b1, 2, none⟩ = some (.slice (some ⟨g, 0, none⟩) 4 cp) := by rw [cell_of hB]; rfl
  have z3 : W3.cell? ⟨b1, 3, none⟩ = some (.string (mk [101, 109, 105, 116, 40, 49, 41])) := by rw [cell_of hB]; rfl
  have HF : Hid (Kept No w W3) := (HK1.out.trans HKW1.out).trans HKW3.out
  clear hB HD HP
  go_wp2_with fail
  rw [← HW3.out]
  refine Calls.mono (no_any _ _) ?_
  rintro e w9 ⟨rfl, rfl⟩
  go_wp2_with (go_at_call 13; refine Calls.mono (no_any _ _) ?_; rintro e w' ⟨rfl, rfl⟩)
  go_ret
  exact ⟨rfl, HF.out⟩
end Go.Proofs.YtbhmgmbgplkkeaaDoor
