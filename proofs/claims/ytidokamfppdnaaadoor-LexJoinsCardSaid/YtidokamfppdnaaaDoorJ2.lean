/- Join. -/
import Derived.Test.YtidokamfppdnaaaDoorF6
import Derived.Test.YtidokamfppdnaaaDoorJ1
namespace Go.Proofs.YtidokamfppdnaaaDoor
open Go.RowKit
set_option linter.unusedSimpArgs false
set_option linter.unusedVariables false

/-- How long tokens are. -/
def tot (L : List Tk) : Nat := (L.map (fun X => X.t.size + 1)).sum
theorem jB_le : ∀ L : List Tk, (jB L).length ≤ tot L
  | [] => by simp [jB]
  | [X] => by simp [jB, tot, bl_len]
  | X :: Y :: L => by
    have := jB_le (Y :: L)
    have e : tot (X :: Y :: L) = X.t.size + 1 + tot (Y :: L) := by simp [tot]
    rw [e]
    simp only [jB, List.length_append, List.length_cons, bl_len] at this ⊢
    omega
theorem tot_take (L : List Tk) (j : Nat) : tot (L.take j) ≤ tot L := by
  have : tot L = tot (L.take j) + tot (L.drop j) := by
    unfold tot
    rw [← List.sum_append, ← List.map_append, List.take_append_drop]
  omega
theorem jB_take {L : List Tk} {j : Nat} (hj : j < L.length) (h0 : j ≠ 0) : jB (L.take (j + 1)) = jB (L.take j) ++ (32 :: bl L[j].t) := by
  rw [List.take_succ_eq_append_getElem hj]
  exact jB_snoc _ _ (fun e => h0 (by have := congrArg List.length e; rw [List.length_take, List.length_nil] at this; omega))
theorem jB_first {L : List Tk} (hj : 0 < L.length) : jB (L.take 1) = bl L[0].t := by
  rw [show (1 : Nat) = 0 + 1 from rfl, List.take_succ_eq_append_getElem hj]; rfl
theorem ib_alloc {B b : Nat} {bs : List Value} {w : World} (h : Lib.IsBuilderF 42 5 B b bs w) (o : Obj) : Lib.IsBuilderF 42 5 B b bs (w.alloc o) := by
  have key : ∀ p, Lib.BuilderAtF 42 5 B b p bs w → Lib.BuilderAtF 42 5 B b p bs (w.alloc o) := by
    rintro p ⟨hB, v, hb, hown, hne⟩
    have hlt : b < w.heap.size := by
      rcases Nat.lt_or_ge b w.heap.size with h' | h'
      · exact h'
      · simp [Array.getElem?_eq_none h'] at hb
    exact ⟨hB, v, by rw [Lib.alloc_old w o b hlt]; exact hb, hown.alloc _, hne⟩
  exact h.imp (key _) (key _)
theorem ib_lt {B b : Nat} {bs : List Value} {w : World} (h : Lib.IsBuilderF 42 5 B b bs w) : b < w.heap.size := by
  have key : ∀ p, Lib.BuilderAtF 42 5 B b p bs w → b < w.heap.size := by
    rintro p ⟨hB, v, hb, hown, hne⟩
    rcases Nat.lt_or_ge b w.heap.size with h' | h'
    · exact h'
    · simp [Array.getElem?_eq_none h'] at hb
  exact h.elim (key _) (key _)

set_option maxRecDepth 20000 in
set_option maxHeartbeats 4000000 in
theorem Join_any {w : World} {ao : Option Addr} {L : List Tk} (h : SRow w ao L) (hn : L.length ≤ 100000) (ht : tot L ≤ 10000000) (cap : Nat) :
    Calls Tryd.prog 9 #[.slice ao L.length cap] w fun r w' => r = .returned (.string ⟨(jB L).toArray⟩) ∧ Kept No w w' := by
  have HS : Hid (SRow w ao L) := h
  have HT : Hid (tot L ≤ 10000000) := ht
  have HB0 : Hid (Lib.IsBuilderF 42 5 w.heap.size w.heap.size (Lib.byteCells (jB (L.take 0))) (w.alloc (.cells #[.pointer none, .slice none 0 0] 42)) ∧ Below w.heap.size w (w.alloc (.cells #[.pointer none, .slice none 0 0] 42))) :=
    ⟨(Lib.fresh_isBuilder 42 5 w).imp Lib.BuilderAtF.of Lib.BuilderAtF.of, (Below.refl _ w).alloc (Nat.le_refl _) _⟩
  clear h ht
  go_enter Tryd.func9, Tryd.ntmps9
  go_wp2_with fail
  obtain ⟨W0, HW0⟩ : ∃ W0, Hid (w.alloc (.cells #[.pointer none, .slice none 0 0] 42) = W0) := ⟨_, show _ = _ from rfl⟩
  rw [HW0.out] at HB0 ⊢
  go_loopw [8] (fun i wr => ∃ j : Nat, j ≤ L.length ∧ i = .int .i64 j ∧ Hid (Lib.IsBuilderF 42 5 w.heap.size w.heap.size (Lib.byteCells (jB (L.take j))) wr ∧ Below w.heap.size w wr)) (fun i _ => L.length - (intOf i).toNat)
  case atStart => exact ⟨0, by omega, rfl, HB0.out⟩
  case round =>
    obtain ⟨j, hj, rfl, HK⟩ := hrel
    by_cases hlt : j < L.length
    · have dlt : decide ((j : Int) < (L.length : Int)) = true := decide_eq_true (by omega)
      have lt : (j : Int) < (L.length : Int) := by omega
      obtain ⟨g, o, rfl, hc⟩ := HS.out j hlt
      have cA := hc wr (Kept.of_below HK.out.2)
      have HX : Hid ((jB (L.take j)).length ≤ 10000000 ∧ L[j].t.size ≤ 10000000) := by
        have h1 := jB_le (L.take j)
        have h2 := tot_take L j
        have h3 := HT.out
        have h4 : tot (L.take (j + 1)) = tot (L.take j) + (L[j].t.size + 1) := by unfold tot; rw [List.take_succ_eq_append_getElem hlt, List.map_append, List.sum_append]; simp only [List.map_cons, List.map_nil, List.sum_cons, List.sum_nil, Nat.add_zero]
        have h5 := tot_take L (j + 1)
        exact ⟨by omega, by omega⟩
      have HJ : Hid (jB (L.take (j + 1)) = if j = 0 then bl L[j].t else jB (L.take j) ++ (32 :: bl L[j].t)) := by
        show _ = _
        by_cases h0 : j = 0
        · subst h0; rw [if_pos rfl]; exact jB_first hlt
        · rw [if_neg h0]; exact jB_take hlt h0
      clear hc
      generalize L[j] = x at cA HX HJ
      obtain ⟨xk, xt, xvt, xvn, xsy, xa, xe⟩ := x
      have a0 := cA 0 (by omega)
      have a1 := cA 1 (by omega)
      have a2 := cA 2 (by omega)
      have a3 := cA 3 (by omega)
      have a4 := cA 4 (by omega)
      have a5 := cA 5 (by omega)
      have a6 := cA 6 (by omega)
      clear cA
      simp only [tc, List.getElem?_cons_zero, List.getElem?_cons_succ, Nat.add_zero] at a0 a1 a2 a3 a4 a5 a6
      have HB2 : Hid (Lib.IsBuilderF 42 5 w.heap.size w.heap.size (Lib.byteCells (jB (L.take j))) (wr.alloc (tb ⟨xk, xt, xvt, xvn, xsy, xa, xe⟩)) ∧ Below w.heap.size w (wr.alloc (tb ⟨xk, xt, xvt, xvn, xsy, xa, xe⟩)) ∧ (wr.alloc (tb ⟨xk, xt, xvt, xvn, xsy, xa, xe⟩)).heap[wr.heap.size]? = some (tb ⟨xk, xt, xvt, xvn, xsy, xa, xe⟩) ∧ w.heap.size < wr.heap.size) :=
        ⟨ib_alloc HK.out.1 _, HK.out.2.alloc (HK.out.2.size) _, World.alloc_heap_new wr _, ib_lt HK.out.1⟩
      obtain ⟨W2, HW2⟩ : ∃ W2, Hid (wr.alloc (tb ⟨xk, xt, xvt, xvn, xsy, xa, xe⟩) = W2) := ⟨_, show _ = _ from rfl⟩
      rw [HW2.out] at HB2
      have t1 := (tb_cells HB2.out.2.2.1).2.1
      dsimp only at t1
      unfold tb at HW2
      dsimp only at HW2
      by_cases h0 : j = 0
      · subst h0
        simp only [Nat.zero_mul, Nat.add_zero] at a0 a1 a2 a3 a4 a5 a6
        go_wp2_with fail
        rw [HW2.out]
        go_wp2_with fail
        refine Calls.mono (WriteString_any w.heap.size w.heap.size _ xt W2 HB2.out.1 (by rw [Lib.byteCells_length]; have := HX.out; omega) HB2.out.2.1.size) ?_
        rintro _ w3 ⟨rfl, b3, l3, k3⟩
        have HR : Hid (Lib.IsBuilderF 42 5 w.heap.size w.heap.size (Lib.byteCells (jB (L.take (0 + 1)))) w3 ∧ Below w.heap.size w w3) := by
          refine ⟨?_, HB2.out.2.1.trans l3⟩
          rw [HJ.out, if_pos trivial]
          rw [Lib.strCells_eq] at b3
          exact b3
        clear b3 l3 k3 a0 a1 a2 a3 a4 a5 a6 t1 HB2 HW2 HK
        go_wp2_with fail
        go_roundw
        case rel => exact ⟨0 + 1, by omega, by go_num, HR.out⟩
        case measure => simp [intOf] <;> omega
      · have d0 : decide ((0 : Int) < (j : Int)) = true := decide_eq_true (by omega)
        go_wp2_with fail
        rw [HW2.out]
        go_wp2_with fail
        refine Calls.mono (WriteByte_any w.heap.size w.heap.size _ 32 W2 HB2.out.1 (by rw [Lib.byteCells_length]; have := HX.out; omega) HB2.out.2.1.size) ?_
        rintro _ w3 ⟨rfl, b3, l3, k3⟩
        have HC3 : Hid (Lib.IsBuilderF 42 5 w.heap.size w.heap.size (Lib.byteCells (jB (L.take j)) ++ [.int .u8 32]) w3 ∧ Below w.heap.size w w3 ∧ W2.heap.size ≤ w3.heap.size) := ⟨b3, HB2.out.2.1.trans l3, l3.size⟩
        have t3 : w3.cell? ⟨wr.heap.size, 1, none⟩ = some (.string xt) :=
          (tb_cells (k3 _ _ HB2.out.2.2.1 (fun e => by have := HB2.out.2.2.2; injection e with e; omega) (fun c fz e => by unfold tb at e; injection e with _ e _; exact absurd e (by decide)))).2.1
        have hsz : w.heap.size ≤ w3.heap.size := HC3.out.2.1.size
        clear b3 l3 k3 a0 a1 a2 a3 a4 a5 a6 t1 HB2 HW2 HK
        go_wp2_with fail
        refine Calls.mono (WriteString_any w.heap.size w.heap.size _ xt w3 HC3.out.1 (by rw [List.length_append, Lib.byteCells_length]; have := HX.out; simp only [List.length_cons, List.length_nil]; omega) hsz) ?_
        rintro _ w4 ⟨rfl, b4, l4, k4⟩
        have HR : Hid (Lib.IsBuilderF 42 5 w.heap.size w.heap.size (Lib.byteCells (jB (L.take (j + 1)))) w4 ∧ Below w.heap.size w w4) := by
          refine ⟨?_, HC3.out.2.1.trans l4⟩
          rw [HJ.out, if_neg h0]
          rw [Lib.strCells_eq] at b4
          rw [Lib.byteCells_append]
          rw [List.append_assoc] at b4
          exact b4
        clear b4 l4 k4 HC3 t3
        go_wp2_with fail
        go_roundw
        case rel => exact ⟨j + 1, by omega, by go_num, HR.out⟩
        case measure => simp [intOf] <;> omega
    · have dlt : decide ((j : Int) < (L.length : Int)) = false := decide_eq_false (by omega)
      have hje : j = L.length := by omega
      have HK2 : Hid (Lib.IsBuilderF 42 5 w.heap.size w.heap.size (Lib.byteCells (jB L)) wr ∧ Below w.heap.size w wr) := by
        have := HK.out
        rwa [hje, List.take_length] at this
      clear HK
      go_wp2_with fail
      refine Calls.mono (Tryd.Builder_String_any_k w.heap.size w.heap.size (jB L) wr HK2.out.1 HK2.out.2.size) ?_
      rintro _ w3 ⟨rfl, b3, l3, k3⟩
      have HR := Kept.of_below (HK2.out.2.trans l3)
      clear b3 l3 k3 HK2
      go_wp2_with fail
      exact bodyPost_ret (v := .string ⟨(jB L).toArray⟩) (by simp [results, Tryd.results9, go_sem]) rfl ⟨rfl, HR⟩
end Go.Proofs.YtidokamfppdnaaaDoor
