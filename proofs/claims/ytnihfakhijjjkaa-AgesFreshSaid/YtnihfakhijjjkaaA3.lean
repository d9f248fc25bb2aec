/- firstOnes, timesOf. -/
import Derived.Test.YtnihfakhijjjkaaA2
namespace Go.Proofs.Ytnihfakhijjjkaa
open Go.RowKit
set_option linter.unusedSimpArgs false
set_option linter.unusedVariables false

theorem mk49 (n : Int) (w : World) : (Instr.makeMap 49 (some (.int .i64 n))).run Try.prog w = .ok (.map (some w.heap.size)) (w.alloc (.map #[] 0)) := by
  simp [Instr.makeMap, run_underlying Try.underlying49, asInt, asIntOf, Result.andThen]
theorem mk56 (n : Int) (w : World) : (Instr.makeMap 56 (some (.int .i64 n))).run Try.prog w = .ok (.map (some w.heap.size)) (w.alloc (.map #[] 0)) := by
  simp [Instr.makeMap, run_underlying Try.underlying56, asInt, asIntOf, Result.andThen]

set_option maxRecDepth 20000 in
set_option maxHeartbeats 4000000 in
theorem firstOnes_any {w : World} {v : Value} {S : List Sn} (hS : RdS w v S) (hn : S.length ≤ 1000000) (hw : ∀ s ∈ S, wf s.kind ∧ wf s.h) :
    Calls Try.prog 21 #[v] w fun e w' => ∃ M, e = .returned (.map (some M)) ∧ (∃ n, MapN w' M n (fst1 S)) ∧ Kept No w w' := by
  have HS : Hid (RdS w v S) := hS
  have HWf : Hid (∀ s ∈ S, wf s.kind ∧ wf s.h) := hw
  obtain ⟨ao, cap, rfl, _⟩ := hS
  have HR : Hid (∀ W', Kept No w W' → ∀ j (hj : j < S.length), ∃ b off sa sn sc, ao = some ⟨b, off, none⟩ ∧ W'.cell? ⟨b, off + j * 8, none⟩ = some (.int .i64 S[j].h) ∧ W'.cell? ⟨b, off + j * 8 + 1, none⟩ = some (.int .i64 S[j].kind) ∧
    W'.cell? ⟨b, off + j * 8 + 2, none⟩ = some (.int .i64 S[j].weak) ∧ W'.cell? ⟨b, off + j * 8 + 3, none⟩ = some (.int .i64 S[j].arr) ∧ W'.cell? ⟨b, off + j * 8 + 4, none⟩ = some (.slice sa sn sc) ∧ W'.cell? ⟨b, off + j * 8 + 5, none⟩ = some (.int .i64 S[j].fin) ∧
    W'.cell? ⟨b, off + j * 8 + 6, none⟩ = some (.int .i64 S[j].col) ∧ W'.cell? ⟨b, off + j * 8 + 7, none⟩ = some (.int .i64 S[j].age)) := fun W' ht j hj => by
    obtain ⟨ao', cap', e, h⟩ := HS.out.no ht
    injection e with e1 e2 e3
    subst e1
    obtain ⟨b, off, sv, e1, h0, h1, h2, h3, h4, h5, h6, h7, ⟨sa, sc, rfl, _⟩⟩ := h j hj
    exact ⟨b, off, sa, _, sc, e1, h0, h1, h2, h3, h4, h5, h6, h7⟩
  have hmm := mk49
  have HM0 : Hid (MapN (w.alloc (.map #[] 0)) w.heap.size 0 (fun _ _ => none)) := MapN.made w
  have HK0 : Hid (Kept No w (w.alloc (.map #[] 0))) := (Kept.refl _ _).alloc _
  clear hw
  go_enter Try.func21, Try.ntmps21
  go_wp2_with fail
  clear hmm
  go_loopw [14, 4, 5, 6, 7, 8, 15, 16, 17, 18, 19, 20, 21, 22, 23, 24, 25, 26, 27, 28, 29, 30, 31, 32, 33, 34, 35, 36] (fun i _ _ _ _ _ _ _ _ _ _ _ _ _ _ _ _ _ _ _ _ _ _ _ _ _ _ _ wr => ∃ j : Nat, j ≤ S.length ∧ i = .int .i64 j ∧ Hid (Kept No w wr ∧ MapN wr w.heap.size j (fst1 (S.take j)) ∧ w.heap.size < wr.heap.size)) (fun i _ _ _ _ _ _ _ _ _ _ _ _ _ _ _ _ _ _ _ _ _ _ _ _ _ _ _ _ => S.length - (intOf i).toNat)
  case atStart => exact ⟨0, by omega, rfl, HK0.out, HM0.out, by simp⟩
  case round =>
    obtain ⟨j, hj, rfl, HJ⟩ := hrel
    by_cases hlt : j < S.length
    · have k1 : (j : Int) < (S.length : Int) := by omega
      obtain ⟨b, off, sa, sn, sc, rfl, r0, r1, r2, r3, r4, r5, r6, r7⟩ := HR.out wr HJ.out.1 j hlt
      obtain ⟨hwk, hwh⟩ := HWf.out S[j] (List.getElem_mem hlt)
      have HSu : Hid (fst1 (S.take (j + 1)) = fun t h => (fst1 (S.take j) t h).or (if t = S[j].kind ∧ h = S[j].h then some j else none)) := by
        show _ = _
        funext t h
        rw [List.take_succ_eq_append_getElem hlt, fst1_snoc, List.length_take, Nat.min_eq_left (by omega)]
      generalize S[j] = s at r0 r1 r2 r3 r4 r5 r6 r7 hwk hwh HSu
      obtain ⟨sh, sk, sw, sr, ssl, sf, scol, sage⟩ := s
      dsimp only at r0 r1 r2 r3 r4 r5 r6 r7 hwk hwh HSu
      obtain ⟨W, HWd⟩ : ∃ W, Hid (W = wr.alloc (.cells #[.int .i64 sh, .int .i64 sk, .int .i64 sw, .int .i64 sr, .slice sa sn sc, .int .i64 sf, .int .i64 scol, .int .i64 sage] 36)) := ⟨_, rfl⟩
      have hkW : Kept No wr W := by rw [HWd.out]; exact (Kept.refl _ _).alloc _
      have hbW : W.heap[wr.heap.size]? = some (.cells #[.int .i64 sh, .int .i64 sk, .int .i64 sw, .int .i64 sr, .slice sa sn sc, .int .i64 sf, .int .i64 scol, .int .i64 sage] 36 (0, 0)) := by rw [HWd.out]; exact World.alloc_heap_new wr _
      have d0 : W.cell? ⟨wr.heap.size, 0, none⟩ = some (.int .i64 sh) := by rw [cell_of hbW]; rfl
      have d1 : W.cell? ⟨wr.heap.size, 1, none⟩ = some (.int .i64 sk) := by rw [cell_of hbW]; rfl
      have HKW : Hid (Kept No wr W) := hkW
      clear hkW hbW
      go_wp2_with (first | rw [← HWd.out])
      go_at_call 23
      refine (nameOf_any sk sh W).mono ?_
      rintro e w2 ⟨rfl, hk2⟩
      obtain ⟨W3, HW3⟩ : ∃ W3, Hid (W3 = w2.alloc (.cells #[.int .i64 sk, .int .i64 sh] 53)) := ⟨_, rfl⟩
      have hk3 : Kept No w2 W3 := by rw [HW3.out]; exact (Kept.refl _ _).alloc _
      have HK3 : Hid (Kept No w W3) := HJ.out.1.trans ((HKW.out.trans hk2).trans hk3)
      have hb3 : W3.heap[w2.heap.size]? = some (.cells #[.int .i64 sk, .int .i64 sh] 53 (0, 0)) := by rw [HW3.out]; exact World.alloc_heap_new w2 _
      have f0 : W3.cell? ⟨w2.heap.size, 0, none⟩ = some (.int .i64 sk) := by rw [cell_of hb3]; rfl
      have f1 : W3.cell? ⟨w2.heap.size, 1, none⟩ = some (.int .i64 sh) := by rw [cell_of hb3]; rfl
      have hM3 := HJ.out.2.1.kept (HKW.out.trans (hk2.trans hk3)) id
      have hlk := hM3.look hwk hwh
      have HSz : Hid (w.heap.size < W3.heap.size) := by
        have := HJ.out.2.2
        have := HKW.out.size
        have := hk2.size
        have := hk3.size
        show _ < _
        omega
      cases hf : fst1 (S.take j) sk sh with
      | some i =>
        rw [hf] at hlk
        have HNx : Hid (fst1 (S.take (j + 1)) = fst1 (S.take j)) := by
          show _ = _
          rw [HSu.out]
          funext t h
          cases hq : fst1 (S.take j) t h with
          | some _ => rfl
          | none =>
            rw [if_neg]
            · rfl
            · rintro ⟨rfl, rfl⟩
              rw [hf] at hq; cases hq
        have HM3 : Hid (MapN W3 w.heap.size (j + 1) (fst1 (S.take (j + 1)))) := by
          show MapN _ _ _ _
          rw [HNx.out]
          obtain ⟨D, ho, hD⟩ := hM3
          exact ⟨D, ho.mono (by omega), hD⟩
        dsimp only [Option.isSome, Option.getD] at hlk
        clear hM3 hk2 hk3 hb3 HSu hf
        go_wp2_with (first | rw [← HW3.out])
        go_roundw
        case rel => exact ⟨j + 1, by omega, by go_num, HK3.out, HM3.out, HSz.out⟩
        case measure => simp [intOf]; omega
      | none =>
        rw [hf] at hlk
        obtain ⟨W4, hup, hM4, hk4⟩ := hM3.set (by omega) hwk hwh j
        have HM4 : Hid (MapN W4 w.heap.size (j + 1) (fst1 (S.take (j + 1)))) := by
          show MapN _ _ _ _
          have e : fst1 (S.take (j + 1)) = fun t' h' => if t' = sk ∧ h' = sh then some j else fst1 (S.take j) t' h' := by
            rw [HSu.out]
            funext t h
            by_cases e : t = sk ∧ h = sh
            · obtain ⟨rfl, rfl⟩ := e
              rw [hf, if_pos ⟨rfl, rfl⟩]; rfl
            · rw [if_neg e, Option.or_none, if_neg e]
          rw [e]; exact hM4
        have HK4 : Hid (Kept No w W4) := HK3.out.trans' hk4 (fun i e => .inr (by omega))
        have HSz4 : Hid (w.heap.size < W4.heap.size) := Nat.lt_of_lt_of_le HSz.out hk4.size
        dsimp only [Option.isSome, Option.getD] at hlk
        clear hM3 hk2 hk3 hb3 HSu hf hM4 hk4
        go_wp2_with (first | rw [← HW3.out])
        go_roundw
        case rel => exact ⟨j + 1, by omega, by go_num, HK4.out, HM4.out, HSz4.out⟩
        case measure => simp [intOf]; omega
    · have k1 : ¬ (j : Int) < (S.length : Int) := by omega
      obtain rfl : j = S.length := by omega
      have HM : Hid (MapN wr w.heap.size S.length (fst1 S)) := by
        have := HJ.out.2.1
        rw [List.take_length] at this
        exact this
      go_wp2
      go_ret
      exact ⟨w.heap.size, rfl, ⟨_, HM.out⟩, HJ.out.1⟩

theorem keyed3 : Maps.Keyed Try.prog 3 := Maps.int_keyed Try.underlying3
/-- Block M is a map of at most n entries with these numbers. -/
def MapJ (w : World) (M n : Nat) (sl : Int → Int) : Prop :=
  ∃ D : DataW Unit, w.ownsMap Try.prog 3 jR M n D ∧ ∀ h, D.atKey (.int .i64 h) (jD 0) = jD (sl h)
theorem MapJ.kept {S : Nat → Prop} {w w' : World} {M n : Nat} {sl : Int → Int} (h : MapJ w M n sl) (hk : Kept S w w') (hn : ¬ S M) : MapJ w' M n sl := by
  obtain ⟨D, ⟨es, cc, hb, r⟩, hD⟩ := h
  exact ⟨D, ⟨es, cc, hk.heap hb hn, r⟩, hD⟩
theorem MapJ.tn {ts : List Nat} {B : Nat} {w w' : World} {M n : Nat} {sl : Int → Int} (h : MapJ w M n sl) (hk : Tn ts B w w') : MapJ w' M n sl := by
  obtain ⟨D, ⟨es, cc, hb, r⟩, hD⟩ := h
  refine ⟨D, ⟨es, cc, Kept.heap hk hb ?_, r⟩, hD⟩
  rintro ⟨_, c', e', f', h1, _⟩
  rw [hb] at h1; cases h1
theorem MapJ.made (w : World) : MapJ (w.alloc (.map #[] 0)) w.heap.size 0 (fun _ => 0) := ⟨.map [], World.ownsMap_made w _ _ _, fun _ => rfl⟩
theorem MapJ.look {w : World} {M n : Nat} {sl : Int → Int} (hM : MapJ w M n sl) {h : Int} (hw : wf h) :
    (Instr.lookup 56 (.map (some M)) (.int .i64 h) false).run Try.prog w = .ok (.int .i64 (sl h)) w := by
  obtain ⟨D, ho, hD⟩ := hM
  obtain ⟨v, ps, hrun, hR⟩ := ho.lookup keyed3 Try.underlying56 (zero3 w) (zd := jD 0) (zp := []) (jR_mk 0) (Maps.keyOf_int_mk Try.underlying3 hw)
  rw [hD h] at hR
  rw [hrun, jR_inv hR]
theorem key_ne {h h' : Int} (hne : h' ≠ h) : (Lit.int .i64 h') ≠ (Lit.int .i64 h) := by intro e; cases e; exact hne rfl
theorem MapJ.set {w : World} {M n : Nat} {sl : Int → Int} (hM : MapJ w M n sl) (hn : n ≤ 1000000) {h : Int} (hw : wf h) (x : Int) :
    ∃ w', (Instr.mapUpdate 56 (.map (some M)) (.int .i64 h) (.int .i64 x)).run Try.prog w = .ok () w' ∧ MapJ w' M (n + 1) (fun i => if i = h then x else sl i) ∧ Kept (fun k => k = M) w w' := by
  obtain ⟨D, ho, hD⟩ := hM
  obtain ⟨w3, hrun, ho3, hturn⟩ := ho.store keyed3 Try.underlying56 (by unfold maxLen; omega) (Maps.keyOf_int_mk Try.underlying3 hw) (jR_mk x)
  refine ⟨w3, hrun, ⟨_, ho3, fun i => ?_⟩, (Kept.refl _ _).grown hturn.grown (fun j e => by cases e; exact Or.inl rfl)⟩
  have hkl : WideAt.IsKeyLit (.int .i64 h) := keyed3.key (Maps.keyOf_int_mk Try.underlying3 hw)
  show _ = jD (if i = h then x else sl i)
  by_cases e : i = h
  · subst e
    rw [if_pos rfl]
    exact Maps.atKey_put_same ho.isMap hkl _ _
  · rw [if_neg e]
    exact (Maps.atKey_put_other (key_ne e) _ _).trans (hD i)

/-- How often a handle is among the first ones. -/
def cnt (L : List Int) (j : Nat) (h : Int) : Int := ((L.take j).count h : Nat)
theorem cnt_succ (L : List Int) (j : Nat) (hj : j < L.length) (h : Int) : cnt L (j + 1) h = if h = L[j] then cnt L j h + 1 else cnt L j h := by
  unfold cnt
  rw [List.take_succ_eq_append_getElem hj, List.count_append]
  by_cases e : h = L[j]
  · subst e; simp
  · rw [if_neg e]; simp [List.count_cons, Ne.symm e]
theorem cnt_le (L : List Int) (j : Nat) (h : Int) : 0 ≤ cnt L j h ∧ cnt L j h ≤ (L.length : Int) := by
  unfold cnt
  have h1 := List.count_le_length (a := h) (l := L.take j)
  simp only [List.length_take] at h1
  omega

set_option maxRecDepth 20000 in
set_option maxHeartbeats 4000000 in
theorem timesOf_any {w : World} {v : Value} {L : List Int} (hL : RdI w v L) (hn : L.length ≤ 1000000) (hw : ∀ h ∈ L, wf h) :
    Calls Try.prog 29 #[v] w fun e w' => ∃ M, e = .returned (.map (some M)) ∧ (∃ n, MapJ w' M n (cnt L L.length)) ∧ Kept No w w' := by
  have HL : Hid (RdI w v L) := hL
  have HWf : Hid (∀ h ∈ L, wf h) := hw
  obtain ⟨ao, cap, rfl, _⟩ := hL
  have HR : Hid (∀ W', Kept No w W' → ∀ j (hj : j < L.length), ∃ b off, ao = some ⟨b, off, none⟩ ∧ W'.cell? ⟨b, off + j, none⟩ = some (.int .i64 L[j])) := fun W' ht j hj => by
    obtain ⟨ao', cap', e, h⟩ := HL.out.no ht
    injection e with e1 e2 e3
    subst e1
    exact h j hj
  have hmm := mk56
  have HM0 : Hid (MapJ (w.alloc (.map #[] 0)) w.heap.size 0 (fun _ => 0)) := MapJ.made w
  have HK0 : Hid (Kept No w (w.alloc (.map #[] 0))) := (Kept.refl _ _).alloc _
  clear hw
  go_enter Try.func29, Try.ntmps29
  go_wp2_with fail
  clear hmm
  go_loopw [11, 5, 12, 13, 14, 15, 16, 17, 18, 19] (fun i _ _ _ _ _ _ _ _ _ wr => ∃ j : Nat, j ≤ L.length ∧ i = .int .i64 j ∧ Hid (Kept No w wr ∧ MapJ wr w.heap.size j (cnt L j))) (fun i _ _ _ _ _ _ _ _ _ _ => L.length - (intOf i).toNat)
  case atStart => exact ⟨0, by omega, rfl, HK0.out, by
    have : cnt L 0 = fun _ => 0 := by funext h; simp [cnt]
    rw [this]; exact HM0.out⟩
  case round =>
    obtain ⟨j, hj, rfl, HJ⟩ := hrel
    by_cases hlt : j < L.length
    · have k1 : (j : Int) < (L.length : Int) := by omega
      obtain ⟨b, off, rfl, r0⟩ := HR.out wr HJ.out.1 j hlt
      have hwf := HWf.out L[j] (List.getElem_mem hlt)
      have HSu : Hid (cnt L (j + 1) = fun h => if h = L[j] then cnt L j L[j] + 1 else cnt L j h) := by
        show _ = _
        funext h
        rw [cnt_succ L j hlt h]
        split
        · rename_i e; rw [e]
        · rfl
      have hcl := cnt_le L j L[j]
      generalize L[j] = x at r0 hwf HSu hcl
      obtain ⟨cj, HCj⟩ : ∃ cj, Hid (cnt L j x = cj) := ⟨_, rfl⟩
      rw [HCj.out] at hcl HSu
      have hl1 := HJ.out.2.look hwf
      rw [HCj.out] at hl1
      obtain ⟨W3, hup, hM3, hk3⟩ := HJ.out.2.set (by omega) hwf (cj + 1)
      have HK3 : Hid (Kept No w W3 ∧ MapJ W3 w.heap.size (j + 1) (cnt L (j + 1))) := by
        refine ⟨HJ.out.1.trans' hk3 (fun i e => .inr (by omega)), ?_⟩
        rw [HSu.out]; exact hM3
      have u1 : IntKind.i64.wrap (cj + 1) = cj + 1 := by rw [IntKind.wrap_i64]; omega
      clear hM3 hk3 HSu
      go_wp2
      go_roundw
      case rel => exact ⟨j + 1, by omega, by go_num, HK3.out.1, HK3.out.2⟩
      case measure => simp [intOf]; omega
    · have k1 : ¬ (j : Int) < (L.length : Int) := by omega
      obtain rfl : j = L.length := by omega
      go_wp2
      go_ret
      exact ⟨w.heap.size, rfl, ⟨_, HJ.out.2⟩, HJ.out.1⟩
end Go.Proofs.Ytnihfakhijjjkaa
