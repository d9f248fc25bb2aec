/- The document's Parse: all. -/
import Derived.Test.YtbhmgmbgplkkeaaDoorT1
namespace Go.Proofs.YtbhmgmbgplkkeaaDoor
open Go.RowKit
set_option linter.unusedSimpArgs false
set_option linter.unusedVariables false

/-- Its scene so far in memory, and its result. -/
structure RPs (R X : Nat) (w wr : World) (z n : Int) (pv : Value) (pts : List V) : Prop where
  rr : wr.heap[R]? = some (.cells #[.int .i64 0, .int .i64 0, .slice none 0 0, .string ⟨#[]⟩] 25 (0, 0))
  xx : wr.heap[X]? = some (.cells #[.int .i64 z, .int .i64 n, pv, .string ⟨#[]⟩] 25 (0, 0))
  row : VRow wr (X + 1) pv pts
  pl : pts.length ≤ 4000
  kp : Kept No w wr
theorem RPs.no {R X : Nat} {w wr w1 : World} {z n : Int} {pv : Value} {pts : List V} (h : RPs R X w wr z n pv pts) (hk : Kept No wr w1) : RPs R X w w1 z n pv pts :=
  ⟨hk.heap h.rr id, hk.heap h.xx id, row_no h.row hk, h.pl, h.kp.trans hk⟩
/-- While points are appended. -/
structure RPq (R X bx : Nat) (p : V) (w wr : World) (z n : Int) (pv : Value) (pts : List V) : Prop where
  ps : RPs R X w wr z n pv pts
  ne : ∀ g, pv.ownBlock = some g → g ≠ bx
  box : wr.heap[bx]? = some (.cells #[.int .i64 p.1, .int .i64 p.2] 45 (0, 0))

theorem post_err {B : Nat} {w' : World} {O : Out} {a er : Nat} (h : O = .err a er) : ParsePost B O (.returned (.tuple #[.agg #[.int .i64 0, .int .i64 0, .slice none 0 0, .string ⟨#[]⟩], .int .i64 (a : Int), .int .i64 (er : Int)])) w' :=
  ⟨fun y e => (by rw [h] at e; cases e), fun a' er' e => (by rw [h] at e; injection e with e1 e2; subst e1 e2; rfl)⟩
/-- What is next, told by the line. -/
theorem outS_lineB (st : St) (a : Nat) (l line rest : List UInt8) (er : Nat) (hs : ∀ x, st ≠ .done x) (hc : cutO [10] l = some (line, rest)) (h : lineS st line rest = .inl er) : outS st a l = .err a er :=
  outS_err st a l er hs (by unfold stepS; simp only [hc]; exact h)
theorem outS_lineG (st : St) (a : Nat) (l line rest : List UInt8) (st' : St) (l' : List UInt8) (hs : ∀ x, st ≠ .done x) (hc : cutO [10] l = some (line, rest)) (h : lineS st line rest = .inr (st', l')) : outS st a l = outS st' (a + 1) l' :=
  outS_go st a l st' l' hs (by unfold stepS; simp only [hc]; exact h)

set_option maxRecDepth 20000 in
set_option maxHeartbeats 8000000 in
theorem RParse_any (s : ByteArray) (hs : s.size ≤ 1000000) (w : World) :
    Calls Tryd.prog 11 #[.string s] w fun e w' => ParsePost w.heap.size (parseF (bl s)) e w' ∧ Kept No w w' := by
  obtain ⟨W, HW⟩ : ∃ W, Hid (W = w.alloc (.cells #[.int .i64 0, .int .i64 0, .slice none 0 0, .string ⟨#[]⟩] 25)) := ⟨_, rfl⟩
  have HK : Hid (Kept No w W) := by show Kept _ _ _; rw [HW.out]; exact (Kept.refl No w).alloc _
  obtain ⟨R, HR⟩ : ∃ R, Hid (w.heap.size = R) := ⟨_, rfl⟩
  have HB2 : Hid (W.heap[R]? = some (.cells #[.int .i64 0, .int .i64 0, .slice none 0 0, .string ⟨#[]⟩] 25 (0, 0))) := by show _ = _; rw [HW.out, ← HR.out]; exact World.alloc_heap_new w _
  have HWs : Hid (W.heap.size = R + 1) := by show _ = _; rw [HW.out, World.size_alloc, HR.out]
  obtain ⟨O, HO⟩ : ∃ O, Hid (parseF (bl s) = O) := ⟨_, rfl⟩
  have HRw : Hid (w.heap.size ≤ R) := by rw [HR.out]; exact Nat.le_refl _
  have HPst : Hid (∀ e w', ParsePost R O e w' → Kept No w w' → ParsePost w.heap.size O e w' ∧ Kept No w w') := fun e w' h1 h2 => by
    rw [HR.out]; exact ⟨h1, h2⟩
  rw [HO.out]
  by_cases hlong : 73728 < s.size
  · have i1 : (73728 : Int) < (s.size : Int) := by omega
    have hO : O = .err 0 3 := by rw [← HO.out]; unfold parseF; rw [if_pos (by rw [bl_len]; exact hlong)]
    have z0 : W.cell? ⟨R, 0, none⟩ = some (.int .i64 0) := by rw [cell_of HB2.out]; rfl
    have z1 : W.cell? ⟨R, 1, none⟩ = some (.int .i64 0) := by rw [cell_of HB2.out]; rfl
    have z2 : W.cell? ⟨R, 2, none⟩ = some (.slice none 0 0) := by rw [cell_of HB2.out]; rfl
    have z3 : W.cell? ⟨R, 3, none⟩ = some (.string ⟨#[]⟩) := by rw [cell_of HB2.out]; rfl
    have zf : ∀ o, W.frozen? ⟨R, o, none⟩ = false := fun o => frozen_of HB2.out o
    have zl : R < W.heap.size := hp_lt HB2.out
    go_enter Tryd.func11, Tryd.ntmps11
    go_wp2_with (first | rw [← HW.out, HR.out])
    refine bodyPost_ret (v := .tuple #[.agg #[.int .i64 0, .int .i64 0, .slice none 0 0, .string ⟨#[]⟩], .int .i64 0, .int .i64 3]) (by simp [results, Tryd.results11, go_sem, cell_alloc_old, size_set, zl, z0, z1, z2, z3]) rfl (HPst.out _ _ (post_err hO) ?_)
    exact (((HK.out.set _ _ _ (.inr HRw.out)).set _ _ _ (.inr HRw.out)).set _ _ _ (.inr HRw.out)).set _ _ _ (.inr HRw.out)
  have i1 : ¬ (73728 : Int) < (s.size : Int) := by omega
  have HO2 : Hid (outS .s0 0 (bl s) = O) := by show _ = _; rw [← HO.out]; unfold parseF; rw [if_neg (by rw [bl_len]; exact hlong)]
  have HL0 : Hid (0 + s.size ≤ 73728) := by show _ ≤ _; omega
  obtain ⟨W2, HW2⟩ : ∃ W2, Hid (W2 = W.alloc (.cells #[.int .i64 0, .int .i64 0, .slice none 0 0, .string ⟨#[]⟩] 25)) := ⟨_, rfl⟩
  obtain ⟨X, HX⟩ : ∃ X, Hid (X = R + 1) := ⟨_, rfl⟩
  have HP0 : Hid (RPs R X w W2 0 0 (.slice none 0 0) []) := by
    have hk : Kept No W W2 := by rw [HW2.out]; exact (Kept.refl No W).alloc _
    refine ⟨hk.heap HB2.out id, ?_, VRow.nil _ _, by simp, HK.out.trans hk⟩
    rw [HW2.out, HX.out, ← HWs.out]; exact World.alloc_heap_new W _
  have hRX : R ≠ X := by have := HX.out; omega
  have hXR : X ≠ R := by have := HX.out; omega
  have HXw : Hid (w.heap.size ≤ X) := by have := HX.out; have := HRw.out; show _ ≤ _; omega
  have HRle : Hid (R ≤ X) := by have := HX.out; show _ ≤ _; omega
  clear HO
  go_enter Tryd.func11, Tryd.ntmps11
  go_wp2_with fail
  rw [← HW.out, ← HW2.out, HR.out, ← HX.out]
  clear HW HW2 HWs HK HB2 HX
  go_loopw [0, 6] (fun v0 v6 wr => ∃ (r : ByteArray) (i : Nat) (st : St), i ≤ 73728 ∧ v6 = .int .i64 i ∧ v0 = .string r ∧ Hid (((i = 0 ∧ st = .s0) ∨ (i = 1 ∧ ∃ z, st = .s1 z) ∨ (2 ≤ i ∧ ∃ z n pts, st = .s2 z n pts)) ∧ outS st i (bl r) = O ∧ i + r.size ≤ 73728 ∧ ∃ pv, RPs R X w wr (scOf st).size (scOf st).steps pv (scOf st).pts)) (fun _ v6 _ => 100000 - (intOf v6).toNat)
  case atStart => exact ⟨s, 0, .s0, by omega, rfl, rfl, .inl ⟨rfl, rfl⟩, HO2.out, HL0.out, _, HP0.out⟩
  case round =>
    clear HP0 HO2 HL0 hs hlong i1
    obtain ⟨r, i, st, hi, rfl, rfl, HI⟩ := hrel
    have HIc : Hid ((i = 0 ∧ st = .s0) ∨ (i = 1 ∧ ∃ z, st = .s1 z) ∨ (2 ≤ i ∧ ∃ z n pts, st = .s2 z n pts)) := HI.out.1
    have HOu : Hid (outS st i (bl r) = O) := HI.out.2.1
    have hle : i + r.size ≤ 73728 := HI.out.2.2.1
    obtain ⟨pv, hps⟩ := HI.out.2.2.2
    have HPs : Hid (RPs R X w wr (scOf st).size (scOf st).steps pv (scOf st).pts) := hps
    have hnd : ∀ x, st ≠ .done x := by
      rcases HIc.out with ⟨_, rfl⟩ | ⟨_, z, rfl⟩ | ⟨_, z, n, pts, rfl⟩ <;> exact fun x e => by cases e
    obtain ⟨ao, ln, cp, hpv⟩ : ∃ ao ln cp, pv = .slice ao ln cp := by
      obtain ⟨ao, cp, e⟩ := hps.row.form
      exact ⟨ao, _, cp, e⟩
    subst hpv
    clear hps HI
    have HCu : Hid (∀ X, Calls Tryd.prog 23 #[.string r, .int .u8 10] X fun e w' => e = .returned (.tuple #[.string (cA (bl r) (cutO [10] (bl r))), .string (cB (cutO [10] (bl r))), .bool (cutO [10] (bl r)).isSome]) ∧ Kept No X w') := fun X => RCut_any r 10 (by omega) X
    cases hcut : cutO [10] (bl r) with
    | none =>
      have hO : O = .err i 6 := by rw [← HOu.out, outS_err st i _ 6 hnd (by unfold stepS; simp only [hcut])]
      rw [hcut, show cA (bl r) none = r from mk_bl r] at HCu
      clear hcut HOu HIc hnd
      go_wp2_with fail
      refine Calls.mono (HCu.out wr) ?_
      rintro e w1 ⟨rfl, hk1⟩
      have HP1 : Hid (RPs R X w w1 (scOf st).size (scOf st).steps (.slice ao ln cp) (scOf st).pts) := HPs.out.no hk1
      clear hk1 HCu HPs
      have z0 : w1.cell? ⟨R, 0, none⟩ = some (.int .i64 0) := by rw [cell_of HP1.out.rr]; rfl
      have z1 : w1.cell? ⟨R, 1, none⟩ = some (.int .i64 0) := by rw [cell_of HP1.out.rr]; rfl
      have z2 : w1.cell? ⟨R, 2, none⟩ = some (.slice none 0 0) := by rw [cell_of HP1.out.rr]; rfl
      have z3 : w1.cell? ⟨R, 3, none⟩ = some (.string ⟨#[]⟩) := by rw [cell_of HP1.out.rr]; rfl
      have zf : ∀ o, w1.frozen? ⟨R, o, none⟩ = false := fun o => frozen_of HP1.out.rr o
      have zl : R < w1.heap.size := hp_lt HP1.out.rr
      have x0 : w1.cell? ⟨X, 0, none⟩ = some (.int .i64 ((scOf st).size)) := by rw [cell_of HP1.out.xx]; rfl
      have x1 : w1.cell? ⟨X, 1, none⟩ = some (.int .i64 ((scOf st).steps)) := by rw [cell_of HP1.out.xx]; rfl
      have x2 : w1.cell? ⟨X, 2, none⟩ = some (.slice ao ln cp) := by rw [cell_of HP1.out.xx]; rfl
      have x3 : w1.cell? ⟨X, 3, none⟩ = some (.string ⟨#[]⟩) := by rw [cell_of HP1.out.xx]; rfl
      have xf : ∀ o, w1.frozen? ⟨X, o, none⟩ = false := fun o => frozen_of HP1.out.xx o
      go_wp2_with fail
      refine bodyPost_ret (v := .tuple #[.agg #[.int .i64 0, .int .i64 0, .slice none 0 0, .string ⟨#[]⟩], .int .i64 (i : Int), .int .i64 6]) (by simp [results, Tryd.results11, go_sem, cell_alloc_old, size_set, zl, z0, z1, z2, z3]) rfl (HPst.out _ _ (post_err hO) ?_)
      first | exact ((((HP1.out.kp.set _ _ _ (.inr HRw.out)).set _ _ _ (.inr HRw.out)).set _ _ _ (.inr HRw.out)).set _ _ _ (.inr HRw.out)) | exact (((((HP1.out.kp.set _ _ _ (.inr HRw.out)).set _ _ _ (.inr HRw.out)).set _ _ _ (.inr HRw.out)).set _ _ _ (.inr HRw.out))).alloc _
    | some q =>
      obtain ⟨line, rest0⟩ := q
      obtain ⟨rs, rfl⟩ : ∃ rs : ByteArray, rest0 = bl rs := ⟨mk rest0, (bl_mk _).symm⟩
      rw [hcut, show cB (some (line, bl rs)) = rs from mk_bl rs, show cA (bl r) (some (line, bl rs)) = mk line from rfl] at HCu
      have hlen : r.size = line.length + 1 + rs.size := by
        have h1 := congrArg List.length (cut1_some _ _ _ _ hcut).1
        rw [bl_len, List.length_append, List.length_cons, bl_len] at h1
        omega
      rcases HIc.out with ⟨rfl, rfl⟩ | ⟨rfl, z, rfl⟩ | ⟨hi2, z, n, pts, rfl⟩
      · clear HIc hnd
        have HPs1 : Hid (RPs R X w wr (0) (0) (.slice ao ln cp) []) := HPs.out
        have HA : Hid (∀ Y, Calls Tryd.prog 24 #[.string (mk line), .string ⟨#[115, 105, 122, 101]⟩] Y fun e w' => e = .returned (.int .i64 (optM (afterF szW line))) ∧ Y = w') := fun Y => by
          have := Rafter_any (mk line) ⟨#[115, 105, 122, 101]⟩ (by rw [mk_size]; omega) (by decide) Y
          rw [bl_mk (l := line), show bl (⟨#[115, 105, 122, 101]⟩ : ByteArray) = szW from rfl] at this
          exact this
        cases ha : afterF szW line with
        | none =>
          have hO : O = .err 0 6 := by rw [← HOu.out, outS_lineB _ _ _ _ _ 6 (fun x e => by cases e) hcut (by unfold lineS; simp only [ha])]
          rw [ha] at HA
          replace HA : Hid (∀ Y, Calls Tryd.prog 24 #[.string (mk line), .string ⟨#[115, 105, 122, 101]⟩] Y fun e w' => e = .returned (.int .i64 (-1)) ∧ Y = w') := HA.out
          clear hcut HOu ha HPs
          go_wp2_with fail
          refine Calls.mono (HCu.out wr) ?_
          rintro e w1 ⟨rfl, hk1⟩
          obtain ⟨w2, HW2⟩ : ∃ w2, Hid (w2 = w1.alloc (.cells #[.string ⟨#[115, 105, 122, 101]⟩, .string ⟨#[115, 116, 101, 112, 115]⟩] 9)) := ⟨_, rfl⟩
          have HP2 : Hid (RPs R X w w2 (0) (0) (.slice ao ln cp) []) := by rw [HW2.out]; exact HPs1.out.no (hk1.alloc _)
          clear hk1 HCu HPs1
          have z0 : w2.cell? ⟨R, 0, none⟩ = some (.int .i64 0) := by rw [cell_of HP2.out.rr]; rfl
          have z1 : w2.cell? ⟨R, 1, none⟩ = some (.int .i64 0) := by rw [cell_of HP2.out.rr]; rfl
          have z2 : w2.cell? ⟨R, 2, none⟩ = some (.slice none 0 0) := by rw [cell_of HP2.out.rr]; rfl
          have z3 : w2.cell? ⟨R, 3, none⟩ = some (.string ⟨#[]⟩) := by rw [cell_of HP2.out.rr]; rfl
          have zf : ∀ o, w2.frozen? ⟨R, o, none⟩ = false := fun o => frozen_of HP2.out.rr o
          have zl : R < w2.heap.size := hp_lt HP2.out.rr
          have x0 : w2.cell? ⟨X, 0, none⟩ = some (.int .i64 (0)) := by rw [cell_of HP2.out.xx]; rfl
          have x1 : w2.cell? ⟨X, 1, none⟩ = some (.int .i64 (0)) := by rw [cell_of HP2.out.xx]; rfl
          have x2 : w2.cell? ⟨X, 2, none⟩ = some (.slice ao ln cp) := by rw [cell_of HP2.out.xx]; rfl
          have x3 : w2.cell? ⟨X, 3, none⟩ = some (.string ⟨#[]⟩) := by rw [cell_of HP2.out.xx]; rfl
          have xf : ∀ o, w2.frozen? ⟨X, o, none⟩ = false := fun o => frozen_of HP2.out.xx o
          go_wp2_with fail
          rw [← HW2.out]
          refine Calls.mono (HA.out w2) ?_
          rintro e w9 ⟨rfl, rfl⟩
          go_wp2_with fail
          refine bodyPost_ret (v := .tuple #[.agg #[.int .i64 0, .int .i64 0, .slice none 0 0, .string ⟨#[]⟩], .int .i64 0, .int .i64 6]) (by simp [results, Tryd.results11, go_sem, cell_alloc_old, size_set, zl, z0, z1, z2, z3]) rfl (HPst.out _ _ (post_err hO) ?_)
          first | exact ((((HP2.out.kp.set _ _ _ (.inr HRw.out)).set _ _ _ (.inr HRw.out)).set _ _ _ (.inr HRw.out)).set _ _ _ (.inr HRw.out)) | exact (((((HP2.out.kp.set _ _ _ (.inr HRw.out)).set _ _ _ (.inr HRw.out)).set _ _ _ (.inr HRw.out)).set _ _ _ (.inr HRw.out))).alloc _
        | some m =>
          have hm9 : m ≤ 999999999 := by
            unfold afterF at ha
            split at ha
            · exact numP_lt _ _ ha
            · cases ha
          rw [ha] at HA
          replace HA : Hid (∀ Y, Calls Tryd.prog 24 #[.string (mk line), .string ⟨#[115, 105, 122, 101]⟩] Y fun e w' => e = .returned (.int .i64 (m : Int)) ∧ Y = w') := HA.out
          by_cases hm : m < 1 ∨ 65536 < m
          · have hO : O = .err 0 7 := by rw [← HOu.out, outS_lineB _ _ _ _ _ 7 (fun x e => by cases e) hcut (by unfold lineS; simp only [ha, if_pos hm])]
            clear hcut HOu ha HPs
            by_cases hm1 : m < 1
            · have j1 : (m : Int) < 1 := by omega
              go_wp2_with fail
              refine Calls.mono (HCu.out wr) ?_
              rintro e w1 ⟨rfl, hk1⟩
              obtain ⟨w2, HW2⟩ : ∃ w2, Hid (w2 = w1.alloc (.cells #[.string ⟨#[115, 105, 122, 101]⟩, .string ⟨#[115, 116, 101, 112, 115]⟩] 9)) := ⟨_, rfl⟩
              have HP2 : Hid (RPs R X w w2 (0) (0) (.slice ao ln cp) []) := by rw [HW2.out]; exact HPs1.out.no (hk1.alloc _)
              clear hk1 HCu HPs1
              have z0 : w2.cell? ⟨R, 0, none⟩ = some (.int .i64 0) := by rw [cell_of HP2.out.rr]; rfl
              have z1 : w2.cell? ⟨R, 1, none⟩ = some (.int .i64 0) := by rw [cell_of HP2.out.rr]; rfl
              have z2 : w2.cell? ⟨R, 2, none⟩ = some (.slice none 0 0) := by rw [cell_of HP2.out.rr]; rfl
              have z3 : w2.cell? ⟨R, 3, none⟩ = some (.string ⟨#[]⟩) := by rw [cell_of HP2.out.rr]; rfl
              have zf : ∀ o, w2.frozen? ⟨R, o, none⟩ = false := fun o => frozen_of HP2.out.rr o
              have zl : R < w2.heap.size := hp_lt HP2.out.rr
              have x0 : w2.cell? ⟨X, 0, none⟩ = some (.int .i64 (0)) := by rw [cell_of HP2.out.xx]; rfl
              have x1 : w2.cell? ⟨X, 1, none⟩ = some (.int .i64 (0)) := by rw [cell_of HP2.out.xx]; rfl
              have x2 : w2.cell? ⟨X, 2, none⟩ = some (.slice ao ln cp) := by rw [cell_of HP2.out.xx]; rfl
              have x3 : w2.cell? ⟨X, 3, none⟩ = some (.string ⟨#[]⟩) := by rw [cell_of HP2.out.xx]; rfl
              have xf : ∀ o, w2.frozen? ⟨X, o, none⟩ = false := fun o => frozen_of HP2.out.xx o
              go_wp2_with fail
              rw [← HW2.out]
              refine Calls.mono (HA.out w2) ?_
              rintro e w9 ⟨rfl, rfl⟩
              go_wp2_with fail
              refine bodyPost_ret (v := .tuple #[.agg #[.int .i64 0, .int .i64 0, .slice none 0 0, .string ⟨#[]⟩], .int .i64 0, .int .i64 7]) (by simp [results, Tryd.results11, go_sem, cell_alloc_old, size_set, zl, z0, z1, z2, z3]) rfl (HPst.out _ _ (post_err hO) ?_)
              first | exact ((((HP2.out.kp.set _ _ _ (.inr HRw.out)).set _ _ _ (.inr HRw.out)).set _ _ _ (.inr HRw.out)).set _ _ _ (.inr HRw.out)) | exact (((((HP2.out.kp.set _ _ _ (.inr HRw.out)).set _ _ _ (.inr HRw.out)).set _ _ _ (.inr HRw.out)).set _ _ _ (.inr HRw.out))).alloc _
            · have j1 : decide ((m : Int) < 1) = false := by rw [decide_eq_false_iff_not]; omega
              have j2 : decide ((65536 : Int) < (m : Int)) = true := by rw [decide_eq_true_eq]; omega
              go_wp2_with fail
              refine Calls.mono (HCu.out wr) ?_
              rintro e w1 ⟨rfl, hk1⟩
              obtain ⟨w2, HW2⟩ : ∃ w2, Hid (w2 = w1.alloc (.cells #[.string ⟨#[115, 105, 122, 101]⟩, .string ⟨#[115, 116, 101, 112, 115]⟩] 9)) := ⟨_, rfl⟩
              have HP2 : Hid (RPs R X w w2 (0) (0) (.slice ao ln cp) []) := by rw [HW2.out]; exact HPs1.out.no (hk1.alloc _)
              clear hk1 HCu HPs1
              have z0 : w2.cell? ⟨R, 0, none⟩ = some (.int .i64 0) := by rw [cell_of HP2.out.rr]; rfl
              have z1 : w2.cell? ⟨R, 1, none⟩ = some (.int .i64 0) := by rw [cell_of HP2.out.rr]; rfl
              have z2 : w2.cell? ⟨R, 2, none⟩ = some (.slice none 0 0) := by rw [cell_of HP2.out.rr]; rfl
              have z3 : w2.cell? ⟨R, 3, none⟩ = some (.string ⟨#[]⟩) := by rw [cell_of HP2.out.rr]; rfl
              have zf : ∀ o, w2.frozen? ⟨R, o, none⟩ = false := fun o => frozen_of HP2.out.rr o
              have zl : R < w2.heap.size := hp_lt HP2.out.rr
              have x0 : w2.cell? ⟨X, 0, none⟩ = some (.int .i64 (0)) := by rw [cell_of HP2.out.xx]; rfl
              have x1 : w2.cell? ⟨X, 1, none⟩ = some (.int .i64 (0)) := by rw [cell_of HP2.out.xx]; rfl
              have x2 : w2.cell? ⟨X, 2, none⟩ = some (.slice ao ln cp) := by rw [cell_of HP2.out.xx]; rfl
              have x3 : w2.cell? ⟨X, 3, none⟩ = some (.string ⟨#[]⟩) := by rw [cell_of HP2.out.xx]; rfl
              have xf : ∀ o, w2.frozen? ⟨X, o, none⟩ = false := fun o => frozen_of HP2.out.xx o
              go_wp2_with fail
              rw [← HW2.out]
              refine Calls.mono (HA.out w2) ?_
              rintro e w9 ⟨rfl, rfl⟩
              go_wp2_with fail
              refine bodyPost_ret (v := .tuple #[.agg #[.int .i64 0, .int .i64 0, .slice none 0 0, .string ⟨#[]⟩], .int .i64 0, .int .i64 7]) (by simp [results, Tryd.results11, go_sem, cell_alloc_old, size_set, zl, z0, z1, z2, z3]) rfl (HPst.out _ _ (post_err hO) ?_)
              first | exact ((((HP2.out.kp.set _ _ _ (.inr HRw.out)).set _ _ _ (.inr HRw.out)).set _ _ _ (.inr HRw.out)).set _ _ _ (.inr HRw.out)) | exact (((((HP2.out.kp.set _ _ _ (.inr HRw.out)).set _ _ _ (.inr HRw.out)).set _ _ _ (.inr HRw.out)).set _ _ _ (.inr HRw.out))).alloc _
          have j1 : decide ((m : Int) < 1) = false := by rw [decide_eq_false_iff_not]; omega
          have j2 : decide ((65536 : Int) < (m : Int)) = false := by rw [decide_eq_false_iff_not]; omega
          have HO3 : Hid (outS (.s1 m) (0 + 1) (bl rs) = O) := by show _ = _; rw [← HOu.out, outS_lineG .s0 0 _ line (bl rs) (.s1 m) (bl rs) (fun x e => by cases e) hcut (by unfold lineS; simp only [ha, if_neg hm])]
          have hm0 : ¬ (m : Int) < 0 := by omega
          have HLe : Hid (0 + 1 + rs.size ≤ 73728) := by show _ ≤ _; omega
          clear hcut HOu ha hm HPs hlen
          by_cases h2k : (20000 : Int) < (m : Int)
          · have j3 : decide ((20000 : Int) < (m : Int)) = true := decide_eq_true h2k
            go_wp2_with fail
            refine Calls.mono (HCu.out wr) ?_
            rintro e w1 ⟨rfl, hk1⟩
            obtain ⟨w2, HW2⟩ : ∃ w2, Hid (w2 = w1.alloc (.cells #[.string ⟨#[115, 105, 122, 101]⟩, .string ⟨#[115, 116, 101, 112, 115]⟩] 9)) := ⟨_, rfl⟩
            have HP2 : Hid (RPs R X w w2 (0) (0) (.slice ao ln cp) []) := by rw [HW2.out]; exact HPs1.out.no (hk1.alloc _)
            clear hk1 HCu HPs1
            have z0 : w2.cell? ⟨R, 0, none⟩ = some (.int .i64 0) := by rw [cell_of HP2.out.rr]; rfl
            have z1 : w2.cell? ⟨R, 1, none⟩ = some (.int .i64 0) := by rw [cell_of HP2.out.rr]; rfl
            have z2 : w2.cell? ⟨R, 2, none⟩ = some (.slice none 0 0) := by rw [cell_of HP2.out.rr]; rfl
            have z3 : w2.cell? ⟨R, 3, none⟩ = some (.string ⟨#[]⟩) := by rw [cell_of HP2.out.rr]; rfl
            have zf : ∀ o, w2.frozen? ⟨R, o, none⟩ = false := fun o => frozen_of HP2.out.rr o
            have zl : R < w2.heap.size := hp_lt HP2.out.rr
            have x0 : w2.cell? ⟨X, 0, none⟩ = some (.int .i64 (0)) := by rw [cell_of HP2.out.xx]; rfl
            have x1 : w2.cell? ⟨X, 1, none⟩ = some (.int .i64 (0)) := by rw [cell_of HP2.out.xx]; rfl
            have x2 : w2.cell? ⟨X, 2, none⟩ = some (.slice ao ln cp) := by rw [cell_of HP2.out.xx]; rfl
            have x3 : w2.cell? ⟨X, 3, none⟩ = some (.string ⟨#[]⟩) := by rw [cell_of HP2.out.xx]; rfl
            have xf : ∀ o, w2.frozen? ⟨X, o, none⟩ = false := fun o => frozen_of HP2.out.xx o
            go_wp2_with fail
            rw [← HW2.out]
            refine Calls.mono (HA.out w2) ?_
            rintro e w9 ⟨rfl, rfl⟩
            have HP3 : Hid (RPs R X w (w2.setCell ⟨X, 0, none⟩ (.int .i64 (m : Int))) (m) (0) (.slice ao ln cp) []) := by
              have h1 := HP2.out
              refine ⟨hp_set_other h1.rr 0 _ hRX, hp_set_same h1.xx 0 _, h1.row.turn (fun g hg => Below.heap_setCell w2 _ _ g (fun e => ?_)), h1.pl, h1.kp.set _ _ _ (.inr HXw.out)⟩
              have := (h1.row.block hg).1
              have e2 : g = X := e
              omega
            clear HA
            go_wp2
            go_roundw
            case rel => exact ⟨rs, 0 + 1, .s1 (m : Int), by omega, by go_num, rfl, .inr (.inl ⟨rfl, _, rfl⟩), HO3.out, HLe.out, _, HP3.out⟩
            case measure => simp [intOf]
          · have j3 : decide ((20000 : Int) < (m : Int)) = false := decide_eq_false h2k
            go_wp2_with fail
            refine Calls.mono (HCu.out wr) ?_
            rintro e w1 ⟨rfl, hk1⟩
            obtain ⟨w2, HW2⟩ : ∃ w2, Hid (w2 = w1.alloc (.cells #[.string ⟨#[115, 105, 122, 101]⟩, .string ⟨#[115, 116, 101, 112, 115]⟩] 9)) := ⟨_, rfl⟩
            have HP2 : Hid (RPs R X w w2 (0) (0) (.slice ao ln cp) []) := by rw [HW2.out]; exact HPs1.out.no (hk1.alloc _)
            clear hk1 HCu HPs1
            have z0 : w2.cell? ⟨R, 0, none⟩ = some (.int .i64 0) := by rw [cell_of HP2.out.rr]; rfl
            have z1 : w2.cell? ⟨R, 1, none⟩ = some (.int .i64 0) := by rw [cell_of HP2.out.rr]; rfl
            have z2 : w2.cell? ⟨R, 2, none⟩ = some (.slice none 0 0) := by rw [cell_of HP2.out.rr]; rfl
            have z3 : w2.cell? ⟨R, 3, none⟩ = some (.string ⟨#[]⟩) := by rw [cell_of HP2.out.rr]; rfl
            have zf : ∀ o, w2.frozen? ⟨R, o, none⟩ = false := fun o => frozen_of HP2.out.rr o
            have zl : R < w2.heap.size := hp_lt HP2.out.rr
            have x0 : w2.cell? ⟨X, 0, none⟩ = some (.int .i64 (0)) := by rw [cell_of HP2.out.xx]; rfl
            have x1 : w2.cell? ⟨X, 1, none⟩ = some (.int .i64 (0)) := by rw [cell_of HP2.out.xx]; rfl
            have x2 : w2.cell? ⟨X, 2, none⟩ = some (.slice ao ln cp) := by rw [cell_of HP2.out.xx]; rfl
            have x3 : w2.cell? ⟨X, 3, none⟩ = some (.string ⟨#[]⟩) := by rw [cell_of HP2.out.xx]; rfl
            have xf : ∀ o, w2.frozen? ⟨X, o, none⟩ = false := fun o => frozen_of HP2.out.xx o
            go_wp2_with fail
            rw [← HW2.out]
            refine Calls.mono (HA.out w2) ?_
            rintro e w9 ⟨rfl, rfl⟩
            have HP3 : Hid (RPs R X w (w2.setCell ⟨X, 0, none⟩ (.int .i64 (m : Int))) (m) (0) (.slice ao ln cp) []) := by
              have h1 := HP2.out
              refine ⟨hp_set_other h1.rr 0 _ hRX, hp_set_same h1.xx 0 _, h1.row.turn (fun g hg => Below.heap_setCell w2 _ _ g (fun e => ?_)), h1.pl, h1.kp.set _ _ _ (.inr HXw.out)⟩
              have := (h1.row.block hg).1
              have e2 : g = X := e
              omega
            clear HA
            go_wp2
            go_roundw
            case rel => exact ⟨rs, 0 + 1, .s1 (m : Int), by omega, by go_num, rfl, .inr (.inl ⟨rfl, _, rfl⟩), HO3.out, HLe.out, _, HP3.out⟩
            case measure => simp [intOf]
      · clear HIc hnd
        have HPs1 : Hid (RPs R X w wr (z) (0) (.slice ao ln cp) []) := HPs.out
        have HA : Hid (∀ Y, Calls Tryd.prog 24 #[.string (mk line), .string ⟨#[115, 116, 101, 112, 115]⟩] Y fun e w' => e = .returned (.int .i64 (optM (afterF stW line))) ∧ Y = w') := fun Y => by
          have := Rafter_any (mk line) ⟨#[115, 116, 101, 112, 115]⟩ (by rw [mk_size]; omega) (by decide) Y
          rw [bl_mk (l := line), show bl (⟨#[115, 116, 101, 112, 115]⟩ : ByteArray) = stW from rfl] at this
          exact this
        cases ha : afterF stW line with
        | none =>
          have hO : O = .err 1 6 := by rw [← HOu.out, outS_lineB _ _ _ _ _ 6 (fun x e => by cases e) hcut (by unfold lineS; simp only [ha])]
          rw [ha] at HA
          replace HA : Hid (∀ Y, Calls Tryd.prog 24 #[.string (mk line), .string ⟨#[115, 116, 101, 112, 115]⟩] Y fun e w' => e = .returned (.int .i64 (-1)) ∧ Y = w') := HA.out
          clear hcut HOu ha HPs
          go_wp2_with fail
          refine Calls.mono (HCu.out wr) ?_
          rintro e w1 ⟨rfl, hk1⟩
          obtain ⟨w2, HW2⟩ : ∃ w2, Hid (w2 = w1.alloc (.cells #[.string ⟨#[115, 105, 122, 101]⟩, .string ⟨#[115, 116, 101, 112, 115]⟩] 9)) := ⟨_, rfl⟩
          have HP2 : Hid (RPs R X w w2 (z) (0) (.slice ao ln cp) []) := by rw [HW2.out]; exact HPs1.out.no (hk1.alloc _)
          clear hk1 HCu HPs1
          have z0 : w2.cell? ⟨R, 0, none⟩ = some (.int .i64 0) := by rw [cell_of HP2.out.rr]; rfl
          have z1 : w2.cell? ⟨R, 1, none⟩ = some (.int .i64 0) := by rw [cell_of HP2.out.rr]; rfl
          have z2 : w2.cell? ⟨R, 2, none⟩ = some (.slice none 0 0) := by rw [cell_of HP2.out.rr]; rfl
          have z3 : w2.cell? ⟨R, 3, none⟩ = some (.string ⟨#[]⟩) := by rw [cell_of HP2.out.rr]; rfl
          have zf : ∀ o, w2.frozen? ⟨R, o, none⟩ = false := fun o => frozen_of HP2.out.rr o
          have zl : R < w2.heap.size := hp_lt HP2.out.rr
          have x0 : w2.cell? ⟨X, 0, none⟩ = some (.int .i64 (z)) := by rw [cell_of HP2.out.xx]; rfl
          have x1 : w2.cell? ⟨X, 1, none⟩ = some (.int .i64 (0)) := by rw [cell_of HP2.out.xx]; rfl
          have x2 : w2.cell? ⟨X, 2, none⟩ = some (.slice ao ln cp) := by rw [cell_of HP2.out.xx]; rfl
          have x3 : w2.cell? ⟨X, 3, none⟩ = some (.string ⟨#[]⟩) := by rw [cell_of HP2.out.xx]; rfl
          have xf : ∀ o, w2.frozen? ⟨X, o, none⟩ = false := fun o => frozen_of HP2.out.xx o
          go_wp2_with fail
          rw [← HW2.out]
          refine Calls.mono (HA.out w2) ?_
          rintro e w9 ⟨rfl, rfl⟩
          go_wp2_with fail
          refine bodyPost_ret (v := .tuple #[.agg #[.int .i64 0, .int .i64 0, .slice none 0 0, .string ⟨#[]⟩], .int .i64 1, .int .i64 6]) (by simp [results, Tryd.results11, go_sem, cell_alloc_old, size_set, zl, z0, z1, z2, z3]) rfl (HPst.out _ _ (post_err hO) ?_)
          first | exact ((((HP2.out.kp.set _ _ _ (.inr HRw.out)).set _ _ _ (.inr HRw.out)).set _ _ _ (.inr HRw.out)).set _ _ _ (.inr HRw.out)) | exact (((((HP2.out.kp.set _ _ _ (.inr HRw.out)).set _ _ _ (.inr HRw.out)).set _ _ _ (.inr HRw.out)).set _ _ _ (.inr HRw.out))).alloc _
        | some m =>
          have hm9 : m ≤ 999999999 := by
            unfold afterF at ha
            split at ha
            · exact numP_lt _ _ ha
            · cases ha
          rw [ha] at HA
          replace HA : Hid (∀ Y, Calls Tryd.prog 24 #[.string (mk line), .string ⟨#[115, 116, 101, 112, 115]⟩] Y fun e w' => e = .returned (.int .i64 (m : Int)) ∧ Y = w') := HA.out
          by_cases hm : 20000 < m
          · have hO : O = .err 1 7 := by rw [← HOu.out, outS_lineB _ _ _ _ _ 7 (fun x e => by cases e) hcut (by unfold lineS; simp only [ha, if_pos hm])]
            clear hcut HOu ha HPs
            have j1 : decide ((20000 : Int) < (m : Int)) = true := by rw [decide_eq_true_eq]; omega
            go_wp2_with fail
            refine Calls.mono (HCu.out wr) ?_
            rintro e w1 ⟨rfl, hk1⟩
            obtain ⟨w2, HW2⟩ : ∃ w2, Hid (w2 = w1.alloc (.cells #[.string ⟨#[115, 105, 122, 101]⟩, .string ⟨#[115, 116, 101, 112, 115]⟩] 9)) := ⟨_, rfl⟩
            have HP2 : Hid (RPs R X w w2 (z) (0) (.slice ao ln cp) []) := by rw [HW2.out]; exact HPs1.out.no (hk1.alloc _)
            clear hk1 HCu HPs1
            have z0 : w2.cell? ⟨R, 0, none⟩ = some (.int .i64 0) := by rw [cell_of HP2.out.rr]; rfl
            have z1 : w2.cell? ⟨R, 1, none⟩ = some (.int .i64 0) := by rw [cell_of HP2.out.rr]; rfl
            have z2 : w2.cell? ⟨R, 2, none⟩ = some (.slice none 0 0) := by rw [cell_of HP2.out.rr]; rfl
            have z3 : w2.cell? ⟨R, 3, none⟩ = some (.string ⟨#[]⟩) := by rw [cell_of HP2.out.rr]; rfl
            have zf : ∀ o, w2.frozen? ⟨R, o, none⟩ = false := fun o => frozen_of HP2.out.rr o
            have zl : R < w2.heap.size := hp_lt HP2.out.rr
            have x0 : w2.cell? ⟨X, 0, none⟩ = some (.int .i64 (z)) := by rw [cell_of HP2.out.xx]; rfl
            have x1 : w2.cell? ⟨X, 1, none⟩ = some (.int .i64 (0)) := by rw [cell_of HP2.out.xx]; rfl
            have x2 : w2.cell? ⟨X, 2, none⟩ = some (.slice ao ln cp) := by rw [cell_of HP2.out.xx]; rfl
            have x3 : w2.cell? ⟨X, 3, none⟩ = some (.string ⟨#[]⟩) := by rw [cell_of HP2.out.xx]; rfl
            have xf : ∀ o, w2.frozen? ⟨X, o, none⟩ = false := fun o => frozen_of HP2.out.xx o
            go_wp2_with fail
            rw [← HW2.out]
            refine Calls.mono (HA.out w2) ?_
            rintro e w9 ⟨rfl, rfl⟩
            go_wp2_with fail
            refine bodyPost_ret (v := .tuple #[.agg #[.int .i64 0, .int .i64 0, .slice none 0 0, .string ⟨#[]⟩], .int .i64 1, .int .i64 7]) (by simp [results, Tryd.results11, go_sem, cell_alloc_old, size_set, zl, z0, z1, z2, z3]) rfl (HPst.out _ _ (post_err hO) ?_)
            first | exact ((((HP2.out.kp.set _ _ _ (.inr HRw.out)).set _ _ _ (.inr HRw.out)).set _ _ _ (.inr HRw.out)).set _ _ _ (.inr HRw.out)) | exact (((((HP2.out.kp.set _ _ _ (.inr HRw.out)).set _ _ _ (.inr HRw.out)).set _ _ _ (.inr HRw.out)).set _ _ _ (.inr HRw.out))).alloc _
          have j1 : decide ((20000 : Int) < (m : Int)) = false := by rw [decide_eq_false_iff_not]; omega
          have HO3 : Hid (outS (.s2 z m []) (1 + 1) (bl rs) = O) := by show _ = _; rw [← HOu.out, outS_lineG (.s1 z) 1 _ line (bl rs) (.s2 z m []) (bl rs) (fun x e => by cases e) hcut (by unfold lineS; simp only [ha, if_neg hm])]
          have hm0 : ¬ (m : Int) < 0 := by omega
          have HLe : Hid (1 + 1 + rs.size ≤ 73728) := by show _ ≤ _; omega
          clear hcut HOu ha hm HPs hlen
          go_wp2_with fail
          refine Calls.mono (HCu.out wr) ?_
          rintro e w1 ⟨rfl, hk1⟩
          obtain ⟨w2, HW2⟩ : ∃ w2, Hid (w2 = w1.alloc (.cells #[.string ⟨#[115, 105, 122, 101]⟩, .string ⟨#[115, 116, 101, 112, 115]⟩] 9)) := ⟨_, rfl⟩
          have HP2 : Hid (RPs R X w w2 (z) (0) (.slice ao ln cp) []) := by rw [HW2.out]; exact HPs1.out.no (hk1.alloc _)
          clear hk1 HCu HPs1
          have z0 : w2.cell? ⟨R, 0, none⟩ = some (.int .i64 0) := by rw [cell_of HP2.out.rr]; rfl
          have z1 : w2.cell? ⟨R, 1, none⟩ = some (.int .i64 0) := by rw [cell_of HP2.out.rr]; rfl
          have z2 : w2.cell? ⟨R, 2, none⟩ = some (.slice none 0 0) := by rw [cell_of HP2.out.rr]; rfl
          have z3 : w2.cell? ⟨R, 3, none⟩ = some (.string ⟨#[]⟩) := by rw [cell_of HP2.out.rr]; rfl
          have zf : ∀ o, w2.frozen? ⟨R, o, none⟩ = false := fun o => frozen_of HP2.out.rr o
          have zl : R < w2.heap.size := hp_lt HP2.out.rr
          have x0 : w2.cell? ⟨X, 0, none⟩ = some (.int .i64 (z)) := by rw [cell_of HP2.out.xx]; rfl
          have x1 : w2.cell? ⟨X, 1, none⟩ = some (.int .i64 (0)) := by rw [cell_of HP2.out.xx]; rfl
          have x2 : w2.cell? ⟨X, 2, none⟩ = some (.slice ao ln cp) := by rw [cell_of HP2.out.xx]; rfl
          have x3 : w2.cell? ⟨X, 3, none⟩ = some (.string ⟨#[]⟩) := by rw [cell_of HP2.out.xx]; rfl
          have xf : ∀ o, w2.frozen? ⟨X, o, none⟩ = false := fun o => frozen_of HP2.out.xx o
          go_wp2_with fail
          rw [← HW2.out]
          refine Calls.mono (HA.out w2) ?_
          rintro e w9 ⟨rfl, rfl⟩
          have HP3 : Hid (RPs R X w (w2.setCell ⟨X, 1, none⟩ (.int .i64 (m : Int))) (z) (m) (.slice ao ln cp) []) := by
            have h1 := HP2.out
            refine ⟨hp_set_other h1.rr 1 _ hRX, hp_set_same h1.xx 1 _, h1.row.turn (fun g hg => Below.heap_setCell w2 _ _ g (fun e => ?_)), h1.pl, h1.kp.set _ _ _ (.inr HXw.out)⟩
            have := (h1.row.block hg).1
            have e2 : g = X := e
            omega
          clear HA
          go_wp2
          go_roundw
          case rel => exact ⟨rs, 1 + 1, .s2 z (m : Int) [], by omega, by go_num, rfl, .inr (.inr ⟨by omega, _, _, _, rfl⟩), HO3.out, HLe.out, _, HP3.out⟩
          case measure => simp [intOf]
      · clear HIc hnd
        have HPs1 : Hid (RPs R X w wr z n (.slice ao ln cp) pts) := HPs.out
        have hln : ln = pts.length := by
          obtain ⟨a, c, e⟩ := HPs1.out.row.form
          injection e with _ e2 _
        subst hln
        have k0 : ((i : Int) == 0) = false := by rw [beq_eq_false_iff_ne]; omega
        have k1 : ((i : Int) == 1) = false := by rw [beq_eq_false_iff_ne]; omega
        by_cases hsr : line = srW
        · subst hsr
          by_cases h8 : 8192 < rs.size
          · have hO : O = .err i 3 := by rw [← HOu.out, outS_lineB _ _ _ _ _ 3 (fun x e => by cases e) hcut (by unfold lineS; simp only [if_true]; rw [if_pos (by rw [bl_len]; exact h8)])]
            have j8 : (8192 : Int) < (rs.size : Int) := by omega
            clear hcut HOu HPs
            go_wp2_with fail
            refine Calls.mono (HCu.out wr) ?_
            rintro e w1 ⟨rfl, hk1⟩
            have HP1 : Hid (RPs R X w w1 z n (.slice ao pts.length cp) pts) := HPs1.out.no hk1
            clear hk1 HCu HPs1
            have z0 : w1.cell? ⟨R, 0, none⟩ = some (.int .i64 0) := by rw [cell_of HP1.out.rr]; rfl
            have z1 : w1.cell? ⟨R, 1, none⟩ = some (.int .i64 0) := by rw [cell_of HP1.out.rr]; rfl
            have z2 : w1.cell? ⟨R, 2, none⟩ = some (.slice none 0 0) := by rw [cell_of HP1.out.rr]; rfl
            have z3 : w1.cell? ⟨R, 3, none⟩ = some (.string ⟨#[]⟩) := by rw [cell_of HP1.out.rr]; rfl
            have zf : ∀ o, w1.frozen? ⟨R, o, none⟩ = false := fun o => frozen_of HP1.out.rr o
            have zl : R < w1.heap.size := hp_lt HP1.out.rr
            have x0 : w1.cell? ⟨X, 0, none⟩ = some (.int .i64 (z)) := by rw [cell_of HP1.out.xx]; rfl
            have x1 : w1.cell? ⟨X, 1, none⟩ = some (.int .i64 (n)) := by rw [cell_of HP1.out.xx]; rfl
            have x2 : w1.cell? ⟨X, 2, none⟩ = some (.slice ao pts.length cp) := by rw [cell_of HP1.out.xx]; rfl
            have x3 : w1.cell? ⟨X, 3, none⟩ = some (.string ⟨#[]⟩) := by rw [cell_of HP1.out.xx]; rfl
            have xf : ∀ o, w1.frozen? ⟨X, o, none⟩ = false := fun o => frozen_of HP1.out.xx o
            go_wp2_with fail
            refine bodyPost_ret (v := .tuple #[.agg #[.int .i64 0, .int .i64 0, .slice none 0 0, .string ⟨#[]⟩], .int .i64 (i : Int), .int .i64 3]) (by simp [results, Tryd.results11, go_sem, cell_alloc_old, size_set, zl, z0, z1, z2, z3]) rfl (HPst.out _ _ (post_err hO) ?_)
            first | exact ((((HP1.out.kp.set _ _ _ (.inr HRw.out)).set _ _ _ (.inr HRw.out)).set _ _ _ (.inr HRw.out)).set _ _ _ (.inr HRw.out)) | exact (((((HP1.out.kp.set _ _ _ (.inr HRw.out)).set _ _ _ (.inr HRw.out)).set _ _ _ (.inr HRw.out)).set _ _ _ (.inr HRw.out))).alloc _
          have hO : O = .ok ⟨z, n, pts, bl rs⟩ := by rw [← HOu.out, outS_lineG (.s2 z n pts) i _ srW (bl rs) (.done ⟨z, n, pts, bl rs⟩) [] (fun x e => by cases e) hcut (by unfold lineS; simp only [if_true]; rw [if_neg (by rw [bl_len]; exact h8)]), outS_done]
          have j8 : ¬ (8192 : Int) < (rs.size : Int) := by omega
          clear hcut HOu HPs
          go_wp2_with fail
          refine Calls.mono (HCu.out wr) ?_
          rintro e w1 ⟨rfl, hk1⟩
          have HP1 : Hid (RPs R X w w1 z n (.slice ao pts.length cp) pts) := HPs1.out.no hk1
          clear hk1 HCu HPs1
          have z0 : w1.cell? ⟨R, 0, none⟩ = some (.int .i64 0) := by rw [cell_of HP1.out.rr]; rfl
          have z1 : w1.cell? ⟨R, 1, none⟩ = some (.int .i64 0) := by rw [cell_of HP1.out.rr]; rfl
          have z2 : w1.cell? ⟨R, 2, none⟩ = some (.slice none 0 0) := by rw [cell_of HP1.out.rr]; rfl
          have z3 : w1.cell? ⟨R, 3, none⟩ = some (.string ⟨#[]⟩) := by rw [cell_of HP1.out.rr]; rfl
          have zf : ∀ o, w1.frozen? ⟨R, o, none⟩ = false := fun o => frozen_of HP1.out.rr o
          have zl : R < w1.heap.size := hp_lt HP1.out.rr
          have x0 : w1.cell? ⟨X, 0, none⟩ = some (.int .i64 (z)) := by rw [cell_of HP1.out.xx]; rfl
          have x1 : w1.cell? ⟨X, 1, none⟩ = some (.int .i64 (n)) := by rw [cell_of HP1.out.xx]; rfl
          have x2 : w1.cell? ⟨X, 2, none⟩ = some (.slice ao pts.length cp) := by rw [cell_of HP1.out.xx]; rfl
          have x3 : w1.cell? ⟨X, 3, none⟩ = some (.string ⟨#[]⟩) := by rw [cell_of HP1.out.xx]; rfl
          have xf : ∀ o, w1.frozen? ⟨X, o, none⟩ = false := fun o => frozen_of HP1.out.xx o
          go_wp2_with fail
          refine bodyPost_ret (v := .tuple #[.agg #[.int .i64 z, .int .i64 n, .slice ao pts.length cp, .string rs], .int .i64 0, .int .i64 0]) (by simp [results, Tryd.results11, go_sem, cell_alloc_old, size_set, zl, z0, z1, z2, z3]) rfl (HPst.out _ _ ⟨fun y e => ?_, fun a er e => ?_⟩ ?_)
          · rw [hO] at e
            injection e with e
            subst e
            refine ⟨.slice ao pts.length cp, by rw [show mk (bl rs) = rs from mk_bl rs], ?_, HP1.out.pl⟩
            refine (HP1.out.row.lower (by have := HRle.out; omega)).turn (fun g hg => ?_)
            have hg1 := (HP1.out.row.block hg).1
            have hgX : g ≠ X := by omega
            have hgR : g ≠ R := by intro e; subst e; obtain ⟨_, cc, hcc⟩ := HP1.out.row.block hg; have h2 := hcc.symm.trans HP1.out.rr; injection h2 with h2; injection h2 with _ h3; exact absurd h3 (by decide)
            rw [Below.heap_setCell _ _ _ g hgR, Below.heap_setCell _ _ _ g hgR, Below.heap_setCell _ _ _ g hgR, Below.heap_setCell _ _ _ g hgR, Below.heap_setCell _ _ _ g hgX]
          · rw [hO] at e; cases e
          · exact ((((HP1.out.kp.set _ _ _ (.inr HXw.out)).set _ _ _ (.inr HRw.out)).set _ _ _ (.inr HRw.out)).set _ _ _ (.inr HRw.out)).set _ _ _ (.inr HRw.out)
        have hcm : (line == [115, 111, 117, 114, 99, 101]) = false := by rw [beq_eq_false_iff_ne]; exact hsr
        have HLn : Hid (∀ Y, Calls Tryd.prog 25 #[.string (mk line)] Y fun e w' => ∃ (p1 p2 : Int) (k : Nat), e = .returned (.tuple #[.agg #[.int .i64 p1, .int .i64 p2], .int .i64 (k : Int)]) ∧ (lineF line = none → k = 0) ∧ (∀ q, lineF line = some q → q = ((p1, p2), k)) ∧ Kept No Y w') := fun Y => by
          have := RLine_any (mk line) (by rw [mk_size]; omega) Y
          rw [bl_mk] at this
          refine Calls.mono this ?_
          rintro e w' ⟨v, rfl, ⟨p, k, rfl, h1, h2⟩, h3⟩
          exact ⟨p.1, p.2, k, rfl, h1, h2, h3⟩
        clear HPs
        go_wp2_with fail
        refine Calls.mono (HCu.out wr) ?_
        rintro e w1 ⟨rfl, hk1⟩
        have HP1 : Hid (RPs R X w w1 z n (.slice ao pts.length cp) pts) := HPs1.out.no hk1
        clear hk1 HCu HPs1
        go_wp2_with fail
        refine Calls.mono (HLn.out w1) ?_
        rintro e w2 ⟨p1, p2, k, rfl, hq1, hq2, hk2⟩
        have HP2 : Hid (RPs R X w w2 z n (.slice ao pts.length cp) pts) := HP1.out.no hk2
        clear hk2 HLn HP1
        cases hlf : lineF line with
        | none =>
          obtain rfl := hq1 hlf
          have hO : O = .err i 6 := by rw [← HOu.out, outS_lineB _ _ _ _ _ 6 (fun x e => by cases e) hcut (by unfold lineS; simp only [if_neg hsr, hlf])]
          clear hq1 hq2 hlf hcut HOu
          have z0 : w2.cell? ⟨R, 0, none⟩ = some (.int .i64 0) := by rw [cell_of HP2.out.rr]; rfl
          have z1 : w2.cell? ⟨R, 1, none⟩ = some (.int .i64 0) := by rw [cell_of HP2.out.rr]; rfl
          have z2 : w2.cell? ⟨R, 2, none⟩ = some (.slice none 0 0) := by rw [cell_of HP2.out.rr]; rfl
          have z3 : w2.cell? ⟨R, 3, none⟩ = some (.string ⟨#[]⟩) := by rw [cell_of HP2.out.rr]; rfl
          have zf : ∀ o, w2.frozen? ⟨R, o, none⟩ = false := fun o => frozen_of HP2.out.rr o
          have zl : R < w2.heap.size := hp_lt HP2.out.rr
          have x0 : w2.cell? ⟨X, 0, none⟩ = some (.int .i64 (z)) := by rw [cell_of HP2.out.xx]; rfl
          have x1 : w2.cell? ⟨X, 1, none⟩ = some (.int .i64 (n)) := by rw [cell_of HP2.out.xx]; rfl
          have x2 : w2.cell? ⟨X, 2, none⟩ = some (.slice ao pts.length cp) := by rw [cell_of HP2.out.xx]; rfl
          have x3 : w2.cell? ⟨X, 3, none⟩ = some (.string ⟨#[]⟩) := by rw [cell_of HP2.out.xx]; rfl
          have xf : ∀ o, w2.frozen? ⟨X, o, none⟩ = false := fun o => frozen_of HP2.out.xx o
          go_wp2_with fail
          refine bodyPost_ret (v := .tuple #[.agg #[.int .i64 0, .int .i64 0, .slice none 0 0, .string ⟨#[]⟩], .int .i64 (i : Int), .int .i64 6]) (by simp [results, Tryd.results11, go_sem, cell_alloc_old, size_set, zl, z0, z1, z2, z3]) rfl (HPst.out _ _ (post_err hO) ?_)
          first | exact ((((HP2.out.kp.set _ _ _ (.inr HRw.out)).set _ _ _ (.inr HRw.out)).set _ _ _ (.inr HRw.out)).set _ _ _ (.inr HRw.out)) | exact (((((HP2.out.kp.set _ _ _ (.inr HRw.out)).set _ _ _ (.inr HRw.out)).set _ _ _ (.inr HRw.out)).set _ _ _ (.inr HRw.out))).alloc _
        | some q =>
          obtain rfl := hq2 q hlf
          have hk1 : k ≠ 0 ∧ k ≤ 999999999 := lineF_pos line (p1, p2) k hlf
          have kz : ((k : Int) == 0) = false := by rw [beq_eq_false_iff_ne]; omega
          clear hq1 hq2
          by_cases hmany : 4000 < pts.length + k
          · have hO : O = .err i 4 := by rw [← HOu.out, outS_lineB _ _ _ _ _ 4 (fun x e => by cases e) hcut (by unfold lineS; simp only [if_neg hsr, hlf, if_pos hmany])]
            have hpl := HP2.out.pl
            have k4 : (4000 : Int) < (pts.length : Int) + (k : Int) := by omega
            have u4 : IntKind.i64.wrap ((pts.length : Int) + (k : Int)) = (pts.length : Int) + (k : Int) := by rw [IntKind.wrap_i64]; omega
            clear hlf hcut HOu
            obtain ⟨w3, HW3⟩ : ∃ w3, Hid (w3 = w2.alloc (.cells #[.int .i64 p1, .int .i64 p2] 45)) := ⟨_, rfl⟩
            have HP3 : Hid (RPs R X w w3 z n (.slice ao pts.length cp) pts) := by rw [HW3.out]; exact HP2.out.no ((Kept.refl _ _).alloc _)
            clear HP2
            have z0 : w3.cell? ⟨R, 0, none⟩ = some (.int .i64 0) := by rw [cell_of HP3.out.rr]; rfl
            have z1 : w3.cell? ⟨R, 1, none⟩ = some (.int .i64 0) := by rw [cell_of HP3.out.rr]; rfl
            have z2 : w3.cell? ⟨R, 2, none⟩ = some (.slice none 0 0) := by rw [cell_of HP3.out.rr]; rfl
            have z3 : w3.cell? ⟨R, 3, none⟩ = some (.string ⟨#[]⟩) := by rw [cell_of HP3.out.rr]; rfl
            have zf : ∀ o, w3.frozen? ⟨R, o, none⟩ = false := fun o => frozen_of HP3.out.rr o
            have zl : R < w3.heap.size := hp_lt HP3.out.rr
            have x0 : w3.cell? ⟨X, 0, none⟩ = some (.int .i64 (z)) := by rw [cell_of HP3.out.xx]; rfl
            have x1 : w3.cell? ⟨X, 1, none⟩ = some (.int .i64 (n)) := by rw [cell_of HP3.out.xx]; rfl
            have x2 : w3.cell? ⟨X, 2, none⟩ = some (.slice ao pts.length cp) := by rw [cell_of HP3.out.xx]; rfl
            have x3 : w3.cell? ⟨X, 3, none⟩ = some (.string ⟨#[]⟩) := by rw [cell_of HP3.out.xx]; rfl
            have xf : ∀ o, w3.frozen? ⟨X, o, none⟩ = false := fun o => frozen_of HP3.out.xx o
            go_wp2_with (first | rw [← HW3.out])
            go_wp2_with fail
            refine bodyPost_ret (v := .tuple #[.agg #[.int .i64 0, .int .i64 0, .slice none 0 0, .string ⟨#[]⟩], .int .i64 (i : Int), .int .i64 4]) (by simp [results, Tryd.results11, go_sem, cell_alloc_old, size_set, zl, z0, z1, z2, z3]) rfl (HPst.out _ _ (post_err hO) ?_)
            first | exact ((((HP3.out.kp.set _ _ _ (.inr HRw.out)).set _ _ _ (.inr HRw.out)).set _ _ _ (.inr HRw.out)).set _ _ _ (.inr HRw.out)) | exact (((((HP3.out.kp.set _ _ _ (.inr HRw.out)).set _ _ _ (.inr HRw.out)).set _ _ _ (.inr HRw.out)).set _ _ _ (.inr HRw.out))).alloc _
          have hpl := HP2.out.pl
          have k4 : ¬ (4000 : Int) < (pts.length : Int) + (k : Int) := by omega
          have u4 : IntKind.i64.wrap ((pts.length : Int) + (k : Int)) = (pts.length : Int) + (k : Int) := by rw [IntKind.wrap_i64]; omega
          have HO3 : Hid (outS (.s2 z n (pts ++ List.replicate k (p1, p2))) (i + 1) (bl rs) = O) := by show _ = _; rw [← HOu.out, outS_lineG (.s2 z n pts) i _ line (bl rs) (.s2 z n (pts ++ List.replicate k (p1, p2))) (bl rs) (fun x e => by cases e) hcut (by unfold lineS; simp only [if_neg hsr, hlf, if_neg hmany])]
          have HLe : Hid (i + 1 + rs.size ≤ 73728) := by show _ ≤ _; omega
          clear hlf hcut HOu hlen
          obtain ⟨w3, HW3⟩ : ∃ w3, Hid (w3 = w2.alloc (.cells #[.int .i64 p1, .int .i64 p2] 45)) := ⟨_, rfl⟩
          obtain ⟨bx, HBx⟩ : ∃ bx, Hid (bx = w2.heap.size) := ⟨_, rfl⟩
          have HP3 : Hid (RPq R X bx (p1, p2) w w3 z n (.slice ao pts.length cp) (pts ++ List.replicate 0 (p1, p2))) := by
            refine ⟨?_, fun g hg => ?_, by rw [HW3.out, HBx.out]; exact World.alloc_heap_new w2 _⟩
            · rw [HW3.out, List.replicate_zero, List.append_nil]; exact HP2.out.no ((Kept.refl _ _).alloc _)
            · have := hp_lt (HP2.out.row.block hg).2.choose_spec
              have := HBx.out
              omega
          have x2 : w3.cell? ⟨X, 2, none⟩ = some (.slice ao pts.length cp) := by rw [cell_of HP3.out.ps.xx]; rfl
          clear HP2
          go_wp2_with (first | rw [← HW3.out, ← HBx.out])
          clear HW3 HBx x2
          obtain ⟨wo, hwo⟩ : ∃ wo, wo = w3 := ⟨_, rfl⟩
          subst hwo
          go_loopw [14] (fun v14 wq => ∃ j : Nat, j ≤ k ∧ v14 = .int .i64 j ∧ Hid (∃ pv, RPq R X bx (p1, p2) w wq z n pv (pts ++ List.replicate j (p1, p2)))) (fun v14 _ => k - (intOf v14).toNat)
          case atStart => exact ⟨0, by omega, rfl, _, HP3.out⟩
          case round =>
            clear HP3
            obtain ⟨j, hj, rfl, HQ⟩ := hrel
            obtain ⟨pv, hq⟩ := HQ.out
            have HQ1 : Hid (RPq R X bx (p1, p2) w wr z n pv (pts ++ List.replicate j (p1, p2))) := hq
            obtain ⟨ao1, cp1, hpv⟩ := hq.ps.row.form
            have hL : (pts ++ List.replicate j (p1, p2)).length = pts.length + j := by simp
            rw [hL] at hpv
            subst hpv
            clear hq HQ
            by_cases hlt : j < k
            · have hjk : (j : Int) < (k : Int) := by omega
              have x2 : wr.cell? ⟨X, 2, none⟩ = some (.slice ao1 (pts.length + j) cp1) := by rw [cell_of HQ1.out.ps.xx]; rfl
              have b0 : wr.cell? ⟨bx, 0, none⟩ = some (.int .i64 p1) := by rw [cell_of HQ1.out.box]; rfl
              have b1 : wr.cell? ⟨bx, 1, none⟩ = some (.int .i64 p2) := by rw [cell_of HQ1.out.box]; rfl
              go_wp2_with (refine app_val2 rfl (.tmp 109) (.tmp 111) rfl (X + 1) (.slice ao1 (pts.length + j) cp1) (pts ++ List.replicate j (p1, p2)) rfl (World.ownsRow.alloc HQ1.out.ps.row _) wr.heap.size (p1, p2) rfl (World.alloc_heap_new wr _) (by rw [hL]; omega) (by have := hp_lt HQ1.out.ps.xx; rw [World.size_alloc]; omega) ?_)
              intro v6 w6 hv hg ho
              obtain ⟨ao6, ln6, cp6, hv6e⟩ : ∃ ao6 ln6 cp6, v6 = .slice ao6 ln6 cp6 := by
                obtain ⟨a, c, e⟩ := hv.out.form
                exact ⟨a, _, c, e⟩
              subst hv6e
              have hne : ∀ x, x = R ∨ x = X ∨ x = bx → x < wr.heap.size := by
                rintro x (rfl | rfl | rfl)
                · exact hp_lt HQ1.out.ps.rr
                · exact hp_lt HQ1.out.ps.xx
                · exact hp_lt HQ1.out.box
              have hb6 : ∀ x, x = R ∨ x = X ∨ x = bx → w6.heap[x]? = wr.heap[x]? := fun x hx => by
                have hx1 := hne x hx
                rw [hg.out.block x (by rw [World.size_alloc]; omega) (fun e => ?_)]
                · exact Below.heap_alloc wr _ x hx1
                · have h1 := HQ1.out.ps.row.block e.symm
                  have h2 := HQ1.out.ne x e.symm
                  rcases hx with rfl | rfl | rfl
                  · have := HRle.out; omega
                  · omega
                  · exact h2 rfl
              have HS6 : Hid (RPq R X bx (p1, p2) w (w6.setCell ⟨X, 2, none⟩ (.slice ao6 ln6 cp6)) z n (.slice ao6 ln6 cp6) (pts ++ List.replicate (j + 1) (p1, p2))) := by
                have hxx := (hb6 X (.inr (.inl rfl))).trans HQ1.out.ps.xx
                have hv6 : ∀ g, (Value.slice ao6 ln6 cp6).ownBlock = some g → g ≠ bx ∧ X + 1 ≤ g := fun g hg' => by
                  have h3 := (hv.out.block hg').1
                  rcases ho.out with e | e
                  · rw [e] at hg'
                    exact ⟨HQ1.out.ne g hg', h3⟩
                  · rw [e] at hg'
                    injection hg' with hg'
                    have hg' : wr.heap.size + 1 = g := by first | exact hg' | (rw [World.size_alloc] at hg'; exact hg')
                    have := hne bx (.inr (.inr rfl))
                    exact ⟨by omega, h3⟩
                have hbX : bx ≠ X := by
                  intro e
                  have h2 := HQ1.out.box
                  rw [e] at h2
                  have h2 := h2.symm.trans HQ1.out.ps.xx
                  injection h2 with h2
                  injection h2 with _ h3
                  exact absurd h3 (by decide)
                refine ⟨⟨hp_set_other ((hb6 R (.inl rfl)).trans HQ1.out.ps.rr) 2 (.slice ao6 ln6 cp6) hRX, hp_set_same hxx 2 (.slice ao6 ln6 cp6), ?_, by simp; omega, ?_⟩, fun g hg' => (hv6 g hg').1, hp_set_other ((hb6 bx (.inr (.inr rfl))).trans HQ1.out.box) 2 (.slice ao6 ln6 cp6) hbX⟩
                · rw [show List.replicate (j + 1) (p1, p2) = List.replicate j (p1, p2) ++ [(p1, p2)] from List.replicate_succ']
                  exact hv.out.turn (fun g hg' => Below.heap_setCell w6 ⟨X, 2, none⟩ (.slice ao6 ln6 cp6) g (fun e => by have := (hv6 g hg').2; have e2 : g = X := e; omega))
                · exact Kept.set (Kept.grown (HQ1.out.ps.kp.alloc _) hg.out (fun g hg' => .inr (by have := (HQ1.out.ps.row.block hg').1; have := HXw.out; omega))) X 2 (.slice ao6 ln6 cp6) (.inr HXw.out)
              have e2 : w6.cell? ⟨X, 2, none⟩ = some (.slice ao1 (pts.length + j) cp1) := by rw [World.cell?_of_block (hb6 X (.inr (.inl rfl)))]; exact x2
              have ef : ∀ o, w6.frozen? ⟨X, o, none⟩ = false := fun o => frozen_of ((hb6 X (.inr (.inl rfl))).trans HQ1.out.ps.xx) o
              clear hv hg ho hb6 hne x2 b0 b1 HQ1 hL
              go_wp2
              go_roundw
              case rel => exact ⟨j + 1, by omega, by go_num, _, HS6.out⟩
              case measure => simp [intOf] <;> omega
            · obtain rfl : j = k := by omega
              go_wp2
              go_roundw
              case rel => exact ⟨rs, i + 1, .s2 z n (pts ++ List.replicate j (p1, p2)), by have := HLe.out; omega, by go_num, rfl, .inr (.inr ⟨by omega, _, _, _, rfl⟩), HO3.out, HLe.out, _, HQ1.out.ps⟩
              case measure => simp [intOf] <;> omega
end Go.Proofs.YtbhmgmbgplkkeaaDoor
