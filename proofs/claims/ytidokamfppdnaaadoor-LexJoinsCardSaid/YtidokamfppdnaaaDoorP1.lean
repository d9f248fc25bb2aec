/- Tokens in an argument; the document's Join. -/
import Derived.Test.YtidokamfppdnaaaDoorJ4
import Derived.ProofKit
import Derived.Deep.Slices
import Derived.Lib.SmallJoins
import Derived.SizedLaws
namespace Go.Proofs.YtidokamfppdnaaaDoor
open Go.ChangeShapes Go.WideShapes Go.ChangeAt Go.WideMaps Go.WideElems Go.RowKit
set_option linter.unusedSimpArgs false
set_option linter.unusedVariables false

theorem cellsT2 : Tryd.prog.cellsOf 2 = 1 := by kernel_rfl
theorem cellsT3 : Tryd.prog.cellsOf 3 = 1 := by kernel_rfl
theorem cellsT9 : Tryd.prog.cellsOf 9 = 1 := by kernel_rfl
theorem cellsT24 : Tryd.prog.cellsOf 24 = 2 := by kernel_rfl
theorem cellsT26 : Tryd.prog.cellsOf 26 = 7 := by kernel_rfl
theorem add_plain (b off j : Nat) : (⟨b, off, none⟩ : Addr).add j = ⟨b, off + j, none⟩ := by simp [Addr.add]

section
variable {H : Type} {enc : TypeId × Value → H} {W : World} {base : Nat} {spare : Nat → Bool} {held : Bool}

theorem weights_all {P : Program} {e : TypeId} {d : DataW H} {n : Nat} (hn : n ∈ d.weights P e) : ∀ l : List (DataW H), d ∈ l → n ∈ DataW.weightsAll P e l
  | [], h => by simp at h
  | x :: r, h => by
    simp only [DataW.weightsAll, List.mem_append]
    rcases List.mem_cons.1 h with rfl | h
    · exact .inl hn
    · exact .inr (weights_all hn r h)

set_option maxRecDepth 100000 in
theorem open_av {fuel : Nat} {cs : List Value} {x : DataW H × List MemPlace} (h : DataW.trod enc Tryd.prog W base spare held fuel 24 cs = some x) : ∃ t n : Int, cs = [.int .i64 t, .int .i64 n] := by
  obtain ⟨xs, n, _, rfl, hl, hlen, hf⟩ := DataW.trod_struct Tryd.underlying24 h
  rw [cellsT24] at hl
  match cs, xs, hl, hlen with
  | [v0, v1], [y0, y1], _, _ =>
    have g0 := hf 0 _ rfl
    have g1 := hf 1 _ rfl
    simp [cellsT2, cellsT3] at g0 g1
    obtain ⟨z0, e0, _, w0⟩ := DataW.trod_int Tryd.underlying3 g0
    obtain ⟨z1, e1, _, w1⟩ := DataW.trod_int Tryd.underlying2 g1
    simp only [List.cons.injEq, and_true] at e0 e1
    subst e0 e1
    exact ⟨z0, z1, rfl⟩

set_option maxRecDepth 100000 in
theorem open_toks {fuel : Nat} {x : DataW H × List MemPlace} {a0 : Option Addr} {len cap R : Nat}
    (h : DataW.trod enc Tryd.prog W base spare held fuel 22 [.slice a0 len cap] = some x) (hR : ∀ n ∈ x.1.weights Tryd.prog 22, n ≤ R) :
    ∃ L : List Tk, len = L.length ∧ len ≤ maxLen ∧ (∀ X ∈ L, X.t.size ≤ R) ∧ SRow W a0 L := by
  rcases Deep.open_slice Tryd.underlying22 h with ⟨hcs, _⟩ | ⟨a, len', cap', m, n, D, Pl, hcs, hb, hl, hm, hmm, hx1, hx⟩
  · simp at hcs
    obtain ⟨rfl, rfl, rfl⟩ := hcs
    exact ⟨[], rfl, by decide, by simp, fun j hj => by simp at hj⟩
  · simp at hcs
    obtain ⟨rfl, rfl, rfl⟩ := hcs
    have hlm : len ≤ m := by rw [hmm]; split <;> omega
    have each : ∀ i, i < len → ∃ q : Tk, (∀ c, c < 7 → W.cell? (a.add (i * 7 + c)) = (tc q)[c]?) ∧ q.t.size ≤ R := by
      intro i hi
      obtain ⟨cs', h1, h2⟩ := hx i (by omega)
      rw [cellsT26] at h1
      obtain ⟨_, hlen, hcell⟩ := World.cells?_some h1
      obtain ⟨xs, n', _, hD, hl', hlen', hf⟩ := DataW.trod_struct Tryd.underlying26 h2
      match cs', xs, hlen, hlen' with
      | [v0, v1, v2, v3, v4, v5, v6], [y0, y1, y2, y3, y4, y5], _, _ =>
        have g0 := hf 0 _ rfl
        have g1 := hf 1 _ rfl
        have g2 := hf 2 _ rfl
        have g3 := hf 3 _ rfl
        have g4 := hf 4 _ rfl
        have g5 := hf 5 _ rfl
        simp [cellsT3, cellsT9, cellsT24] at g0 g1 g2 g3 g4 g5
        obtain ⟨z0, e0, _, _⟩ := DataW.trod_int Tryd.underlying3 g0
        obtain ⟨z1, e1, d1, w1⟩ := DataW.trod_string Tryd.underlying9 g1
        obtain ⟨t2, n2, e2⟩ := open_av g2
        obtain ⟨z3, e3, _, _⟩ := DataW.trod_string Tryd.underlying9 g3
        obtain ⟨z4, e4, _, _⟩ := DataW.trod_int Tryd.underlying3 g4
        obtain ⟨z5, e5, _, _⟩ := DataW.trod_int Tryd.underlying3 g5
        simp only [List.cons.injEq, and_true] at e0 e1 e2 e3 e4 e5
        obtain ⟨e2a, e2b⟩ := e2
        subst e0 e1 e2a e2b e3 e4 e5
        refine ⟨⟨z0, z1, t2, n2, z3, z4, z5⟩, fun c hc => ?_, ?_⟩
        · have := hcell c (by omega)
          rw [Deep.add_add] at this
          rw [this]
          rcases (by omega : c = 0 ∨ c = 1 ∨ c = 2 ∨ c = 3 ∨ c = 4 ∨ c = 5 ∨ c = 6) with rfl | rfl | rfl | rfl | rfl | rfl | rfl <;> rfl
        · refine hR _ ?_
          have hd : D i = .agg [y0.1, y1.1, y2.1, y3.1, y4.1, y5.1] := (Prod.mk.inj hD).1
          have hm1 : z1.size ∈ (D i).weights Tryd.prog 26 := by
            rw [hd, d1]
            simp only [DataW.weights, Tryd.underlying26]
            refine DataW.weights_mem_each (j := 1) (t := 9) (d := .lit (.string z1.data.toList)) rfl rfl _ ?_
            simp only [DataW.weights, List.mem_singleton]
            exact Lib.size_eq z1
          rw [hx1]
          simp only [DataW.weights, Tryd.underlying22, List.mem_cons, List.mem_append]
          exact .inr (.inl (weights_all hm1 _ (List.mem_map.2 ⟨i, List.mem_range.2 hi, rfl⟩)))
    haveI : Inhabited Tk := ⟨⟨0, ⟨#[]⟩, 0, 0, ⟨#[]⟩, 0, 0⟩⟩
    obtain ⟨q, hq⟩ := Deep.choose_lt each
    refine ⟨(List.range len).map q, by simp, Nat.le_trans hl hm, fun y hy => ?_, fun j hj => ?_⟩
    · obtain ⟨i, hi, rfl⟩ := List.mem_map.1 hy
      exact (hq i (List.mem_range.1 hi)).2
    · have hjl : j < len := by simpa using hj
      obtain ⟨b, off, spot⟩ := a
      have hspot : spot = none := by
        have := (hq 0 (by omega)).1 0 (by omega)
        rw [show (tc (q 0))[0]? = some (.int .i64 (q 0).k) from rfl] at this
        simpa [Addr.add] using World.cell?_spot this
      subst hspot
      refine ⟨b, off, rfl, fun w' hk i hi => ?_⟩
      have := (hq j hjl).1 i hi
      rw [add_plain] at this
      have hsome : ∃ v, (tc (q j))[i]? = some v := ⟨_, List.getElem?_eq_getElem (by simp [tc]; omega)⟩
      obtain ⟨v, hv⟩ := hsome
      rw [hv] at this
      have h3 := cell_kept this hk
      rw [List.getElem_map, List.getElem_range, hv, ← h3]
      congr 2
      omega
end

set_option maxRecDepth 20000 in
set_option maxHeartbeats 4000000 in
theorem RJoin_any {w : World} {ao : Option Addr} {L : List Tk} (h : SRow w ao L) (hn : L.length ≤ 100000) (ht : tot L ≤ 10000000) (cap : Nat) :
    Calls Tryd.prog 10 #[.slice ao L.length cap] w fun r w' => r = .returned (.string ⟨(jB L).toArray⟩) ∧ Kept No w w' := by
  have HS : Hid (SRow w ao L) := h
  have HT : Hid (tot L ≤ 10000000) := ht
  clear h ht
  go_enter Tryd.func10, Tryd.ntmps10
  go_wp2_with fail
  go_loopw [3, 4] (fun t i wr => ∃ j : Nat, j ≤ L.length ∧ i = .int .i64 j ∧ t = .string ⟨(jB (L.take j)).toArray⟩ ∧ Hid (Kept No w wr)) (fun _ i _ => L.length - (intOf i).toNat)
  case atStart => exact ⟨0, by omega, rfl, rfl, Kept.refl _ _⟩
  case round =>
    obtain ⟨j, hj, rfl, rfl, HK⟩ := hrel
    by_cases hlt : j < L.length
    · have dlt : decide ((j : Int) < (L.length : Int)) = true := decide_eq_true (by omega)
      have lt : (j : Int) < (L.length : Int) := by omega
      obtain ⟨g, o, rfl, hc⟩ := HS.out j hlt
      have a1 := hc wr HK.out 1 (by omega)
      have hX : (jB (L.take j)).length ≤ 10000000 ∧ L[j].t.size ≤ 10000000 := by
        have h1 := jB_le (L.take j)
        have h2 := tot_take L j
        have h3 := HT.out
        have h4 := tot_at L j hlt
        exact ⟨by omega, by omega⟩
      have HJ : Hid ((⟨(jB (L.take (j + 1))).toArray⟩ : ByteArray) = if j = 0 then L[j].t else (⟨(jB (L.take j)).toArray⟩ : ByteArray) ++ ⟨#[32]⟩ ++ L[j].t) := by
        show _ = _
        apply bl_inj
        rw [bl_mk]
        by_cases h0 : j = 0
        · subst h0; rw [if_pos rfl]; exact jB_first hlt
        · rw [if_neg h0, bl_add, bl_add, bl_mk, jB_take hlt h0]
          show _ = jB (L.take j) ++ [32] ++ bl L[j].t
          simp
      clear hc
      simp only [tc, List.getElem?_cons_zero, List.getElem?_cons_succ, Nat.add_zero] at a1
      generalize L[j].t = xt at a1 hX HJ
      have hz : (⟨(jB (L.take j)).toArray⟩ : ByteArray).size = (jB (L.take j)).length := by rw [← bl_len, bl_mk]
      by_cases h0 : j = 0
      · subst h0
        have hE : (⟨(jB (L.take 0)).toArray⟩ : ByteArray) = ⟨#[]⟩ := rfl
        rw [hE]
        rw [if_pos rfl] at HJ
        simp only [Nat.zero_mul, Nat.add_zero] at a1
        have y1 : ¬ 9223372036854775807 < xt.size := by omega
        have y2 : (⟨#[]⟩ : ByteArray) ++ xt = xt := by apply bl_inj; rw [bl_add]; rfl
        clear hz hX
        go_wp2_with fail
        exact ⟨⟨0 + 1, by omega, rfl, by rw [HJ.out], HK.out⟩, by simp [intOf]; omega⟩
      · have d0 : decide ((0 : Int) < (j : Int)) = true := decide_eq_true (by omega)
        rw [if_neg h0] at HJ
        generalize (⟨(jB (L.take j)).toArray⟩ : ByteArray) = Tj at hz HJ ⊢
        have y1 : ¬ 9223372036854775807 < Tj.size + 1 := by omega
        have y2 : ¬ 9223372036854775807 < (Tj ++ ⟨#[32]⟩).size + xt.size := by
          rw [ByteArray.size_append, show (⟨#[32]⟩ : ByteArray).size = 1 from rfl]; omega
        have y3 : ¬ 9223372036854775807 < Tj.size + 1 + xt.size := by omega
        clear hz hX
        go_wp2_with fail
        exact ⟨⟨j + 1, by omega, by go_num, by rw [HJ.out], HK.out⟩, by simp [intOf]; omega⟩
    · have dlt : decide ((j : Int) < (L.length : Int)) = false := decide_eq_false (by omega)
      have hje : j = L.length := by omega
      have hE : (⟨(jB (L.take j)).toArray⟩ : ByteArray) = ⟨(jB L).toArray⟩ := by rw [hje, List.take_length]
      rw [hE]
      go_wp2_with fail
      exact bodyPost_ret (v := .string ⟨(jB L).toArray⟩) (by simp [results, Tryd.results10, go_sem]) rfl ⟨rfl, HK.out⟩
end Go.Proofs.YtidokamfppdnaaaDoor
