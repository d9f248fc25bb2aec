/- finTwice. -/
import Derived.Test.YtnofmpbdfcolfaaB2
namespace Go.Proofs.Ytnofmpbdfcolfaa
open Go.RowKit Go.Shelf
set_option linter.unusedSimpArgs false
set_option linter.unusedVariables false

/-- How a number reads. -/
def jR : Value → Option (DataW Unit × List MemPlace)
  | .int .i64 n => some (.lit (.int .i64 n), [])
  | _ => none
def jD (n : Int) : DataW Unit := .lit (.int .i64 n)
theorem jR_mk (n : Int) : jR (.int .i64 n) = some (jD n, []) := rfl
theorem jR_inv {v : Value} {n : Int} {ps : List MemPlace} (h : jR v = some (jD n, ps)) : v = .int .i64 n := by
  unfold jR at h
  split at h
  · simp only [jD, Option.some.injEq, Prod.mk.injEq, DataW.lit.injEq, Lit.int.injEq, true_and] at h
    rw [h.1]
  · cases h
/-- A number that an int can be. -/
def wf (h : Int) : Prop := (Lit.int .i64 h).wf = true
theorem keyed3 : Maps.Keyed Try.prog 3 := Maps.int_keyed Try.underlying3
theorem zero3 (w : World) : (zeroValue 3).run Try.prog w = .ok (.int .i64 0) w := by kernel_rfl

/-- Block M is a map of at most n entries with these numbers. -/
def MapJ (w : World) (M n : Nat) (sl : Int → Int) : Prop :=
  ∃ D : DataW Unit, w.ownsMap Try.prog 3 jR M n D ∧ ∀ h, D.atKey (.int .i64 h) (jD 0) = jD (sl h)
theorem MapJ.kept {S : Nat → Prop} {w w' : World} {M n : Nat} {sl : Int → Int} (h : MapJ w M n sl) (hk : Kept S w w') (hn : ¬ S M) : MapJ w' M n sl := by
  obtain ⟨D, ⟨es, cc, hb, r⟩, hD⟩ := h
  exact ⟨D, ⟨es, cc, hk.heap hb hn, r⟩, hD⟩
theorem MapJ.made (w : World) : MapJ (w.alloc (.map #[] 0)) w.heap.size 0 (fun _ => 0) := ⟨.map [], World.ownsMap_made w _ _ _, fun _ => rfl⟩
theorem MapJ.look {w : World} {M n : Nat} {sl : Int → Int} (hM : MapJ w M n sl) {h : Int} (hw : wf h) :
    (Instr.lookup 79 (.map (some M)) (.int .i64 h) false).run Try.prog w = .ok (.int .i64 (sl h)) w := by
  obtain ⟨D, ho, hD⟩ := hM
  obtain ⟨v, ps, hrun, hR⟩ := ho.lookup keyed3 Try.underlying79 (zero3 w) (zd := jD 0) (zp := []) (jR_mk 0) (Maps.keyOf_int_mk Try.underlying3 hw)
  rw [hD h] at hR
  rw [hrun, jR_inv hR]
theorem key_ne {h h' : Int} (hne : h' ≠ h) : (Lit.int .i64 h') ≠ (Lit.int .i64 h) := by intro e; cases e; exact hne rfl
theorem MapJ.set {w : World} {M n : Nat} {sl : Int → Int} (hM : MapJ w M n sl) (hn : n ≤ 1000000) {h : Int} (hw : wf h) (x : Int) :
    ∃ w', (Instr.mapUpdate 79 (.map (some M)) (.int .i64 h) (.int .i64 x)).run Try.prog w = .ok () w' ∧ MapJ w' M (n + 1) (fun i => if i = h then x else sl i) ∧ Kept (fun k => k = M) w w' := by
  obtain ⟨D, ho, hD⟩ := hM
  obtain ⟨w3, hrun, ho3, hturn⟩ := ho.store keyed3 Try.underlying79 (by unfold maxLen; omega) (Maps.keyOf_int_mk Try.underlying3 hw) (jR_mk x)
  refine ⟨w3, hrun, ⟨_, ho3, fun i => ?_⟩, (Kept.refl _ _).grown hturn.grown (fun j e => by cases e; exact Or.inl rfl)⟩
  have hkl : WideAt.IsKeyLit (.int .i64 h) := keyed3.key (Maps.keyOf_int_mk Try.underlying3 hw)
  show _ = jD (if i = h then x else sl i)
  by_cases e : i = h
  · subst e
    rw [if_pos rfl]
    exact Maps.atKey_put_same ho.isMap hkl _ _
  · rw [if_neg e]
    exact (Maps.atKey_put_other (key_ne e) _ _).trans (hD i)

/-- How often a Fin stands among the first ones. -/
def cntF (T : List Th) (j : Nat) (h : Int) : Int := (((T.take j).map Th.fin).count h : Nat)
theorem cntF_succ (T : List Th) (j : Nat) (hj : j < T.length) (h : Int) : cntF T (j + 1) h = if h = T[j].fin then cntF T j h + 1 else cntF T j h := by
  unfold cntF
  rw [List.take_succ_eq_append_getElem hj, List.map_append, List.count_append]
  by_cases e : h = T[j].fin
  · subst e; simp
  · rw [if_neg e]; simp [List.count_cons, Ne.symm e]
theorem cntF_le (T : List Th) (j : Nat) (h : Int) : 0 ≤ cntF T j h ∧ cntF T j h ≤ (T.length : Int) := by
  unfold cntF
  have h1 := List.count_le_length (a := h) (l := (T.take j).map Th.fin)
  simp only [List.length_map, List.length_take] at h1
  omega
/-- Has a thing the Fin of one ahead? -/
def twAt (T : List Th) (j : Nat) : Bool := !decide ((thAt T j).fin = 0) && decide (1 < cntF T (j + 1) (thAt T j).fin)
def finT (T : List Th) : Bool := (List.range T.length).any (twAt T)

set_option maxRecDepth 20000 in
set_option maxHeartbeats 4000000 in
theorem finTwice_any {w : World} {tv : Value} {T : List Th} (hT : RdT w tv T) (hn : T.length ≤ 1000) (hw : ∀ t ∈ T, wf t.fin) :
    Calls Try.prog 34 #[tv] w fun e w' => e = .returned (.bool (finT T)) ∧ Kept No w w' := by
  have HT : Hid (RdT w tv T) := hT
  have HWf : Hid (∀ t ∈ T, wf t.fin) := hw
  obtain ⟨ao, cap, rfl, _⟩ := hT
  have HR : Hid (∀ W', Kept No w W' → ∀ j (hj : j < T.length), ∃ b off svo svl svc, ao = some ⟨b, off, none⟩ ∧ W'.cell? ⟨b, off + j * 5, none⟩ = some (.int .i64 T[j].kind) ∧ W'.cell? ⟨b, off + j * 5 + 1, none⟩ = some (.int .i64 T[j].weak) ∧
    W'.cell? ⟨b, off + j * 5 + 2, none⟩ = some (.int .i64 T[j].arr) ∧ W'.cell? ⟨b, off + j * 5 + 3, none⟩ = some (.slice svo svl svc) ∧ W'.cell? ⟨b, off + j * 5 + 4, none⟩ = some (.int .i64 T[j].fin)) := fun W' ht j hj => by
    obtain ⟨ao', cap', e, h⟩ := HT.out.no ht
    injection e with e1 e2 e3
    subst e1
    obtain ⟨b, off, sv, e1, h1, h2, h3, h4, h5, ⟨sa, sc, rfl, _⟩⟩ := h j hj
    exact ⟨b, off, sa, _, sc, e1, h1, h2, h3, h4, h5⟩
  have hmm := @run_makeMap Try.prog
  have HM0 : Hid (MapJ (w.alloc (.map #[] 0)) w.heap.size 0 (fun _ => 0)) := MapJ.made w
  have HK0 : Hid (Kept No w (w.alloc (.map #[] 0))) := (Kept.refl _ _).alloc _
  clear hw
  obtain ⟨rr, HRr⟩ : ∃ rr, Hid (finT T = rr) := ⟨_, rfl⟩
  rw [HRr.out]
  go_enter Try.func34, Try.ntmps34
  go_wp2_with fail
  clear hmm
  go_loopw [9, 5, 11, 12, 13, 14, 15, 16, 17, 18, 19, 20, 21, 22, 23, 24, 25, 26, 27, 28] (fun i _ _ _ _ _ _ _ _ _ _ _ _ _ _ _ _ _ _ _ wr => ∃ j : Nat, j ≤ T.length ∧ i = .int .i64 j ∧ Hid (Kept No w wr ∧ MapJ wr w.heap.size j (cntF T j) ∧ ∀ i, i < j → twAt T i = false)) (fun i _ _ _ _ _ _ _ _ _ _ _ _ _ _ _ _ _ _ _ _ => T.length - (intOf i).toNat)
  case atStart => exact ⟨0, by omega, rfl, HK0.out, by
    have : cntF T 0 = fun _ => 0 := by funext h; simp [cntF]
    rw [this]; exact HM0.out, fun i hi => absurd hi (by omega)⟩
  case round =>
    obtain ⟨j, hj, rfl, HJ⟩ := hrel
    by_cases hlt : j < T.length
    · have k1 : (j : Int) < (T.length : Int) := by omega
      obtain ⟨b, off, svo, svl, svc, rfl, r0, r1, r2, r3, r4⟩ := HR.out wr HJ.out.1 j hlt
      have hwf := HWf.out T[j] (List.getElem_mem hlt)
      have hth : thAt T j = T[j] := by unfold thAt; simp only [List.getD, List.getElem?_eq_getElem hlt, Option.getD_some]
      have HSu : Hid (cntF T (j + 1) = fun h => if h = T[j].fin then cntF T j T[j].fin + 1 else cntF T j h) := by
        show _ = _
        funext h
        rw [cntF_succ T j hlt h]
        split
        · rename_i e; rw [e]
        · rfl
      have HTw : Hid (twAt T j = (!decide (T[j].fin = 0) && decide (1 < cntF T j T[j].fin + 1))) := by
        show _ = _
        unfold twAt
        rw [hth, cntF_succ T j hlt, if_pos rfl]
      have hcl := cntF_le T j T[j].fin
      generalize T[j] = tt at r0 r1 r2 r3 r4 hwf HSu HTw hcl
      obtain ⟨tk, tw, ta, tsl, tf⟩ := tt
      dsimp only at r0 r1 r2 r3 r4 hwf HSu HTw hcl
      obtain ⟨cj, HCj⟩ : ∃ cj, Hid (cntF T j tf = cj) := ⟨_, rfl⟩
      rw [HCj.out] at hcl HTw HSu
      obtain ⟨W, HWd⟩ : ∃ W, Hid (W = wr.alloc (.cells #[.int .i64 tk, .int .i64 tw, .int .i64 ta, .slice svo svl svc, .int .i64 tf] 43)) := ⟨_, rfl⟩
      have hkW : Kept No wr W := by rw [HWd.out]; exact (Kept.refl _ _).alloc _
      have hMW := HJ.out.2.1.kept hkW id
      have hl1 := hMW.look hwf
      rw [HCj.out] at hl1
      obtain ⟨W3, hup, hM3, hk3⟩ := hMW.set (by omega) hwf (cj + 1)
      have hl3 := hM3.look hwf
      rw [if_pos rfl] at hl3
      have hbW : W.heap[wr.heap.size]? = some (.cells #[.int .i64 tk, .int .i64 tw, .int .i64 ta, .slice svo svl svc, .int .i64 tf] 43 (0, 0)) := by rw [HWd.out]; exact World.alloc_heap_new wr _
      have hlt2 : w.heap.size < wr.heap.size := by
        obtain ⟨D, ho, _⟩ := HJ.out.2.1
        exact ho.lt
      have hb3 := hk3.heap hbW (show ¬ wr.heap.size = w.heap.size by omega)
      have d4 : W.cell? ⟨wr.heap.size, 4, none⟩ = some (.int .i64 tf) := by rw [cell_of hbW]; rfl
      have e4 : W3.cell? ⟨wr.heap.size, 4, none⟩ = some (.int .i64 tf) := by rw [cell_of hb3]; rfl
      have HK3 : Hid (Kept No w W3 ∧ MapJ W3 w.heap.size (j + 1) (cntF T (j + 1))) := by
        refine ⟨(HJ.out.1.trans hkW).trans' hk3 (fun i e => .inr (by omega)), ?_⟩
        rw [HSu.out]; exact hM3
      have u1 : IntKind.i64.wrap (cj + 1) = cj + 1 := by rw [IntKind.wrap_i64]; omega
      clear hkW hMW hM3 hk3 hbW hb3 HSu hth
      have HNo : Hid (twAt T j = false → ∀ i, i < j + 1 → twAt T i = false) := fun h i hi => by
        by_cases e : i = j
        · rw [e]; exact h
        · exact HJ.out.2.2 i (by omega)
      have HYes : Hid (twAt T j = true → rr = true) := fun h => by
        rw [← HRr.out]
        unfold finT
        rw [List.any_eq_true]
        exact ⟨j, List.mem_range.2 hlt, h⟩
      by_cases hf0 : tf = 0
      · have hno := HNo.out (by rw [HTw.out]; simp [hf0])
        have HNo2 : Hid _ := hno
        subst hf0
        clear HNo HYes hno HTw
        go_wp2_with (first | rw [← HWd.out])
        go_roundw
        case rel => exact ⟨j + 1, by omega, by go_num, HK3.out.1, HK3.out.2, HNo2.out⟩
        case measure => simp [intOf]; omega
      · by_cases hc : 1 < cj + 1
        · have HY : Hid (rr = true) := HYes.out (by rw [HTw.out]; simp [hf0, hc])
          clear HNo HYes HTw
          go_wp2_with (first | rw [← HWd.out])
          go_ret
          exact ⟨by rw [HY.out]; rfl, HK3.out.1⟩
        · have hno := HNo.out (by rw [HTw.out]; simp [hf0, hc])
          have HNo2 : Hid _ := hno
          clear HNo HYes hno HTw
          go_wp2_with (first | rw [← HWd.out])
          go_roundw
          case rel => exact ⟨j + 1, by omega, by go_num, HK3.out.1, HK3.out.2, HNo2.out⟩
          case measure => simp [intOf]; omega
    · have k1 : ¬ (j : Int) < (T.length : Int) := by omega
      obtain rfl : j = T.length := by omega
      have HF : Hid (finT T = false) := by
        show _ = _
        unfold finT
        rw [List.any_eq_false]
        intro i hi
        rw [HJ.out.2.2 i (List.mem_range.1 hi)]; simp
      go_wp2
      go_ret
      exact ⟨by rw [← HRr.out, HF.out]; rfl, HJ.out.1⟩
end Go.Proofs.Ytnofmpbdfcolfaa
