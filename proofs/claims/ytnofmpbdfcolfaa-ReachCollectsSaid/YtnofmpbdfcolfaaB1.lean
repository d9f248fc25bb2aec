/- Right: things and values. -/
import Derived.Test.YtnofmpbdfcolfaaAF
namespace Go.Proofs.Ytnofmpbdfcolfaa
open Go.RowKit Go.Shelf
set_option linter.unusedSimpArgs false
set_option linter.unusedVariables false

/-- A thing is right by itself. -/
def rThing (t : Th) : Bool :=
  oT t.kind && (!decide (t.arr < 0) && (!decide ((if 1 < (t.sl.length : Int) then (t.sl.length : Int) - 1 else 0) < t.arr) &&
    (if t.kind = 5 then decide (0 ≤ t.weak) && (decide (t.weak ≤ 3) && decide (0 ≤ t.fin)) else decide (t.weak = 0) && decide (t.fin = 0))))
/-- Values are right. -/
def rVal (T : List Th) (v : V) : Bool := !(oT v.1 && !obj T v)
def rVals (T : List Th) (L : List V) : Bool := L.all (rVal T)

theorem bad_any {w : World} {tb : Nat} {tv : Value} {T : List Th} (hT : RdT w tv T) (hn : T.length ≤ 1000000) (hb : w.heap[tb]? = some (.cells #[tv] 22 (0, 0))) (v : V) :
    Calls Try.prog 46 #[AV v, PT tb] w fun e w' => e = .returned (.bool (!rVal T v)) ∧ Kept No w w' := by
  obtain ⟨t, n⟩ := v
  have e0 : (!rVal T (t, n)) = (oT t && !obj T (t, n)) := by unfold rVal; simp
  rw [e0]
  clear e0
  have HT : Hid (RdT w tv T) := hT
  obtain ⟨ao, cap, rfl, _⟩ := hT
  have HK : Hid (∀ o, Kept No w (w.alloc o)) := fun o => (Kept.refl _ _).alloc _
  have c0 : ∀ o, (w.alloc o).cell? ⟨tb, 0, none⟩ = some (.slice ao T.length cap) := fun o => by rw [cell_of ((HK.out o).heap hb id)]; rfl
  clear hb
  obtain ⟨b, hb⟩ : ∃ b, oT t = b := ⟨_, rfl⟩
  have HO : Hid (∀ W, Calls Try.prog 44 #[.int .i64 t] W fun e w' => e = .returned (.bool b) ∧ W = w') := fun W => by rw [← hb]; exact objectType_any t W
  rw [hb]
  clear hb
  cases b
  · go_enter Try.func46, Try.ntmps46
    go_wp2_with (go_at_call 44; refine (HO.out _).mono ?_; rintro e w' ⟨rfl, rfl⟩)
    refine bodyPost_ret (v := .bool false) (by simp [results, Try.results46, go_sem]) rfl ⟨by simp, HK.out _⟩
  · go_enter Try.func46, Try.ntmps46
    go_wp2_with (first | (go_at_call 44; refine (HO.out _).mono ?_; rintro e w' ⟨rfl, rfl⟩))
    go_at_call 41
    refine (isObject_any (HT.out.no (HK.out _)) hn (t, n)).mono ?_
    rintro e w2 ⟨rfl, hk⟩
    have HK2 : Hid (Kept No w w2) := (HK.out _).trans hk
    clear hk
    go_wp2
    refine bodyPost_ret (v := .bool (!obj T (t, n))) (by simp [results, Try.results46, go_sem]) rfl ⟨by simp, HK2.out⟩

theorem find_all (T : List Th) (L : List V) : (∀ x ∈ L, rVal T x = true) → rVals T L = true := by
  intro h; unfold rVals; rw [List.all_eq_true]; exact h

set_option maxRecDepth 20000 in
set_option maxHeartbeats 2000000 in
theorem indexBad_any {w : World} {tb : Nat} {tv lv : Value} {T : List Th} {L : List V} (hT : RdT w tv T) (hn : T.length ≤ 1000000) (hL : RdV w lv L) (hl : L.length ≤ 1000000) (hb : w.heap[tb]? = some (.cells #[tv] 22 (0, 0))) :
    Calls Try.prog 60 #[lv, .func (.func 46) #[] #[PT tb]] w fun e w' => (∃ n : Int, e = .returned (.int .i64 n) ∧ (decide (0 ≤ n) = !rVals T L)) ∧ Kept No w w' := by
  have HT : Hid (RdT w tv T) := hT
  have HB : Hid (w.heap[tb]? = some (.cells #[tv] 22 (0, 0))) := hb
  have HL : Hid (RdV w lv L) := hL
  obtain ⟨ao, cap, rfl, _⟩ := hL
  have HR : Hid (∀ W', Kept No w W' → ∀ j (hj : j < L.length), ∃ b off, ao = some ⟨b, off, none⟩ ∧ W'.cell? ⟨b, off + j * 2, none⟩ = some (.int .i64 L[j].1) ∧ W'.cell? ⟨b, off + j * 2 + 1, none⟩ = some (.int .i64 L[j].2)) := fun W' ht j hj => by
    obtain ⟨ao', cap', e, h⟩ := HL.out.no ht
    injection e with e1 e2 e3
    subst e1
    exact h j hj
  clear hT hb
  go_enter Try.func60, Try.ntmps60
  go_wp2_with fail
  go_loopw [8] (fun i wr => ∃ j : Nat, j ≤ L.length ∧ i = .int .i64 j ∧ Hid (Kept No w wr ∧ ∀ x ∈ L.take j, rVal T x = true)) (fun i _ => L.length - (intOf i).toNat)
  case atStart => exact ⟨0, by omega, rfl, Kept.refl _ _, by simp⟩
  case round =>
    obtain ⟨j, hj, rfl, HJ⟩ := hrel
    by_cases hlt : j < L.length
    · have k1 : (j : Int) < (L.length : Int) := by omega
      obtain ⟨b, off, rfl, r0, r1⟩ := HR.out wr HJ.out.1 j hlt
      obtain ⟨x, hx⟩ : ∃ x, L[j] = x := ⟨_, rfl⟩
      have HTk : Hid (∀ y ∈ L.take (j + 1), y ∈ L.take j ∨ y = x) := fun y hy => by
        rw [List.take_succ_eq_append_getElem hlt, hx] at hy
        rcases List.mem_append.1 hy with h | h
        · exact .inl h
        · exact .inr (by simpa using h)
      have HMem : Hid (x ∈ L) := by show x ∈ L; rw [← hx]; exact List.getElem_mem hlt
      rw [hx] at r0 r1
      obtain ⟨x1, x2⟩ := x
      dsimp only at r0 r1
      clear hx
      obtain ⟨bb, hbb⟩ : ∃ bb, rVal T (x1, x2) = bb := ⟨_, rfl⟩
      have HC : Hid (Calls Try.prog 46 #[AV (x1, x2), PT tb] wr fun e w' => e = .returned (.bool (!bb)) ∧ Kept No wr w') := by
        have := bad_any (HT.out.no HJ.out.1) hn (HJ.out.1.heap HB.out id) (x1, x2)
        rw [hbb] at this
        exact this
      have HBB : Hid (rVal T (x1, x2) = bb) := hbb
      clear hbb
      go_wp2_with fail
      go_at_call 46
      refine HC.out.mono ?_
      rintro e w2 ⟨rfl, hk2⟩
      have HK2 : Hid (Kept No w w2) := HJ.out.1.trans hk2
      clear hk2 HC r0 r1
      cases bb
      · go_wp2
        go_ret
        refine ⟨⟨(j : Int), rfl, ?_⟩, HK2.out⟩
        have : rVals T L = false := by
          cases h : rVals T L with
          | false => rfl
          | true =>
            unfold rVals at h
            rw [List.all_eq_true] at h
            have := h _ HMem.out
            rw [HBB.out] at this; cases this
        rw [this]; simp
      · go_wp2
        go_roundw
        case rel => exact ⟨j + 1, by omega, by go_num, HK2.out, fun y hy => by
          rcases HTk.out y hy with h | rfl
          · exact HJ.out.2 y h
          · exact HBB.out⟩
        case measure => simp [intOf]; omega
    · have k1 : ¬ (j : Int) < (L.length : Int) := by omega
      obtain rfl : j = L.length := by omega
      rw [List.take_length] at HJ
      go_wp2
      go_ret
      exact ⟨⟨-1, rfl, by rw [find_all T L HJ.out.2]; rfl⟩, HJ.out.1⟩

theorem containsBad_any {w : World} {tb : Nat} {tv lv : Value} {T : List Th} {L : List V} (hT : RdT w tv T) (hn : T.length ≤ 1000000) (hL : RdV w lv L) (hl : L.length ≤ 1000000) (hb : w.heap[tb]? = some (.cells #[tv] 22 (0, 0))) :
    Calls Try.prog 45 #[lv, .func (.func 46) #[] #[PT tb]] w fun e w' => e = .returned (.bool (!rVals T L)) ∧ Kept No w w' := by
  have HI : Hid _ := indexBad_any hT hn hL hl hb
  obtain ⟨ao', cap', rfl, _⟩ := hL
  go_enter Try.func45, Try.ntmps45
  go_wp2_with fail
  refine Calls.mono HI.out ?_
  rintro e w2 ⟨⟨n, rfl, hn2⟩, hk⟩
  have HK2 : Hid (Kept No w w2) := hk
  have HN : Hid (decide (0 ≤ n) = !rVals T L) := hn2
  clear hk hn2 HI
  go_wp2
  refine bodyPost_ret (v := .bool (decide (0 ≤ n))) ?_ rfl ⟨by rw [HN.out], HK2.out⟩
  simp [results, Try.results45, go_sem]

theorem rightValues_any {w : World} {tv lv : Value} {T : List Th} {L : List V} (hT : RdT w tv T) (hn : T.length ≤ 1000000) (hL : RdV w lv L) (hl : L.length ≤ 1000000) :
    Calls Try.prog 33 #[tv, lv] w fun e w' => e = .returned (.bool (rVals T L)) ∧ Kept No w w' := by
  have HT : Hid (RdT w tv T) := hT
  have HL : Hid (RdV w lv L) := hL
  obtain ⟨ao, cap, rfl, _⟩ := hT
  obtain ⟨ao', cap', rfl, _⟩ := hL
  have HK : Hid (Kept No w (w.alloc (.cells #[.slice ao T.length cap] 22))) := (Kept.refl _ _).alloc _
  have HI : Hid _ := containsBad_any (tb := w.heap.size) (HT.out.no HK.out) hn (HL.out.no HK.out) hl (World.alloc_heap_new w _)
  go_enter Try.func33, Try.ntmps33
  go_wp2_with fail
  refine Calls.mono HI.out ?_
  rintro e w2 ⟨rfl, hk⟩
  have HK2 : Hid (Kept No w w2) := HK.out.trans hk
  clear hk HI
  go_wp2
  refine bodyPost_ret (v := .bool (rVals T L)) (by simp [results, Try.results33, go_sem]) rfl ⟨rfl, HK2.out⟩
end Go.Proofs.Ytnofmpbdfcolfaa
