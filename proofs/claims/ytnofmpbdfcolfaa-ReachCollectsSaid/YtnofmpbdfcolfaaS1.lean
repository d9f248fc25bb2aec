/- The document's Object, Weakly, Weak, KeyOf. -/
import Derived.Test.YtnofmpbdfcolfaaH1
namespace Go.Proofs.Ytnofmpbdfcolfaa
open Go.RowKit Go.Shelf
set_option linter.unusedSimpArgs false
set_option linter.unusedVariables false

/-- A graph as an argument. -/
abbrev AG (ao : Option Addr) (tn cap : Nat) (ro : Option Addr) (rn rc : Nat) : Value := .agg #[.slice ao tn cap, .slice ro rn rc]
/-- The handle of a value that is an object. -/
def objN (T : List Th) (v : V) : Int := if obj T v = true then v.2 else 0

set_option maxRecDepth 20000 in
set_option maxHeartbeats 2000000 in
theorem RObject_any {w : World} {ao ro : Option Addr} {cap rn rc : Nat} {T : List Th} (hT : RdT w (.slice ao T.length cap) T) (hn : T.length ≤ 1000000) (v : V) :
    Calls Try.prog 21 #[AG ao T.length cap ro rn rc, AV v] w fun e w' => e = .returned (.int .i64 (objN T v)) ∧ Kept No w w' := by
  obtain ⟨t, n⟩ := v
  obtain ⟨W, HW⟩ : ∃ W, Hid (W = (w.alloc (.cells #[.slice ao T.length cap, .slice ro rn rc] 25)).alloc (.cells #[.int .i64 t, .int .i64 n] 40)) := ⟨_, rfl⟩
  have HK : Hid (Kept No w W) := by show Kept _ _ _; rw [HW.out]; exact ((Kept.refl _ _).alloc _).alloc _
  have hg : W.heap[w.heap.size]? = some (.cells #[.slice ao T.length cap, .slice ro rn rc] 25 (0, 0)) := by rw [HW.out]; exact (Below.heap_alloc _ _ _ (by simp)).trans (World.alloc_heap_new w _)
  have hb : W.heap[w.heap.size + 1]? = some (.cells #[.int .i64 t, .int .i64 n] 40 (0, 0)) := by
    rw [HW.out]; have := World.alloc_heap_new (w.alloc (.cells #[.slice ao T.length cap, .slice ro rn rc] 25)) (.cells #[.int .i64 t, .int .i64 n] 40); rwa [World.size_alloc] at this
  have g0 : W.cell? ⟨w.heap.size, 0, none⟩ = some (.slice ao T.length cap) := by rw [cell_of hg]; rfl
  have c0 : W.cell? ⟨w.heap.size + 1, 0, none⟩ = some (.int .i64 t) := by rw [cell_of hb]; rfl
  have c1 : W.cell? ⟨w.heap.size + 1, 1, none⟩ = some (.int .i64 n) := by rw [cell_of hb]; rfl
  have HC : Hid (∀ j (hj : j < T.length), ∃ b off, ao = some ⟨b, off, none⟩ ∧ W.cell? ⟨b, off + j * 5, none⟩ = some (.int .i64 T[j].kind)) := fun j hj => by
    obtain ⟨ao', cap', e, hC⟩ := hT.no HK.out
    injection e with e1 e2 e3
    subst e1
    obtain ⟨b, off, sv, e, k0, _⟩ := hC j hj
    exact ⟨b, off, e, k0⟩
  obtain ⟨r, HR⟩ : ∃ r, Hid (objN T (t, n) = r) := ⟨_, rfl⟩
  rw [HR.out]
  clear hT hb hg
  by_cases h4 : t < 4
  · have HZ : Hid (r = 0) := by show _ = _; rw [← HR.out]; unfold objN; rw [if_neg]; simp [obj, oT]; omega
    go_enter Try.func21, Try.ntmps21
    go_wp2_with (first | rw [← HW.out])
    go_ret
    exact ⟨by rw [HZ.out]; rfl, HK.out⟩
  · by_cases h9 : 9 < t
    · have HZ : Hid (r = 0) := by show _ = _; rw [← HR.out]; unfold objN; rw [if_neg]; simp [obj, oT]; omega
      go_enter Try.func21, Try.ntmps21
      go_wp2_with (first | rw [← HW.out])
      go_ret
      exact ⟨by rw [HZ.out]; rfl, HK.out⟩
    · by_cases h1 : n < 1
      · have HZ : Hid (r = 0) := by show _ = _; rw [← HR.out]; unfold objN; rw [if_neg]; simp [obj, oT]; omega
        go_enter Try.func21, Try.ntmps21
        go_wp2_with (first | rw [← HW.out])
        go_ret
        exact ⟨by rw [HZ.out]; rfl, HK.out⟩
      · by_cases h2 : (T.length : Int) < n
        · have HZ : Hid (r = 0) := by show _ = _; rw [← HR.out]; unfold objN; rw [if_neg]; simp [obj, oT]; omega
          go_enter Try.func21, Try.ntmps21
          go_wp2_with (first | rw [← HW.out])
          go_ret
          exact ⟨by rw [HZ.out]; rfl, HK.out⟩
        · obtain ⟨m, rfl⟩ : ∃ m : Nat, n = (m : Int) + 1 := ⟨(n - 1).toNat, by omega⟩
          obtain ⟨b, off, rfl, k0⟩ := HC.out m (by omega)
          have hm : (m : Int) < (T.length : Int) := by omega
          have ek : kindAt T m = T[m].kind := by unfold kindAt; rw [List.getElem?_eq_getElem (by omega)]; rfl
          have HOb : Hid (obj T (t, (m : Int) + 1) = decide (T[m].kind = t)) := by
            show _ = _
            have e2 : ((m : Int) + 1).toNat - 1 = m := by omega
            unfold obj
            simp only [e2, ek]
            have a1 : oT t = true := by simp [oT]; omega
            have a2 : (1 : Int) ≤ (m : Int) + 1 := by omega
            have a3 : (m : Int) + 1 ≤ (T.length : Int) := by omega
            simp [a1, a2, a3]
          have e1 : (m : Int) + 1 - 1 = (m : Int) := by omega
          generalize T[m].kind = kk at k0 HOb
          clear HC ek
          by_cases hk : kk = t
          · have HZ : Hid (r = (m : Int) + 1) := by show _ = _; rw [← HR.out]; unfold objN; rw [HOb.out, if_pos (by simp [hk])]
            subst hk
            clear HOb HR
            go_enter Try.func21, Try.ntmps21
            go_wp2_with (first | rw [← HW.out])
            go_quiet (fail)
            have c1' : (W.drewN nq).cell? ⟨w.heap.size + 1, 1, none⟩ = some (.int .i64 ((m : Int) + 1)) := c1
            go_wp2
            go_ret
            exact ⟨by rw [HZ.out]; rfl, HK.out.drewN _⟩
          · have HZ : Hid (r = 0) := by show _ = _; rw [← HR.out]; unfold objN; rw [HOb.out, if_neg (by simp [hk])]
            have hk' : (kk == t) = false := by simp [hk]
            clear HOb HR
            go_enter Try.func21, Try.ntmps21
            go_wp2_with (first | rw [← HW.out])
            go_quiet (fail)
            go_wp2
            go_ret
            exact ⟨by rw [HZ.out]; rfl, HK.out.drewN _⟩

theorem objN_pos {T : List Th} {v : V} : (decide (0 < objN T v)) = obj T v := by
  unfold objN
  by_cases h : obj T v = true
  · rw [if_pos h, h]
    have := (obj_ix h).2.1
    simp; omega
  · rw [if_neg h]; simp; simpa using h

set_option maxRecDepth 20000 in
set_option maxHeartbeats 2000000 in
theorem RWeakly_any {w : World} {ao ro : Option Addr} {cap rn rc : Nat} {T : List Th} (hT : RdT w (.slice ao T.length cap) T) (hn : T.length ≤ 1000000) (v : V) :
    Calls Try.prog 24 #[AG ao T.length cap ro rn rc, AV v] w fun e w' => e = .returned (.bool (held T v)) ∧ Kept No w w' := by
  obtain ⟨t, n⟩ := v
  obtain ⟨W, HW⟩ : ∃ W, Hid (W = (w.alloc (.cells #[.slice ao T.length cap, .slice ro rn rc] 25)).alloc (.cells #[.int .i64 t, .int .i64 n] 40)) := ⟨_, rfl⟩
  have HK : Hid (Kept No w W) := by show Kept _ _ _; rw [HW.out]; exact ((Kept.refl _ _).alloc _).alloc _
  have hg : W.heap[w.heap.size]? = some (.cells #[.slice ao T.length cap, .slice ro rn rc] 25 (0, 0)) := by rw [HW.out]; exact (Below.heap_alloc _ _ _ (by simp)).trans (World.alloc_heap_new w _)
  have hb : W.heap[w.heap.size + 1]? = some (.cells #[.int .i64 t, .int .i64 n] 40 (0, 0)) := by
    rw [HW.out]; have := World.alloc_heap_new (w.alloc (.cells #[.slice ao T.length cap, .slice ro rn rc] 25)) (.cells #[.int .i64 t, .int .i64 n] 40); rwa [World.size_alloc] at this
  have g0 : W.cell? ⟨w.heap.size, 0, none⟩ = some (.slice ao T.length cap) := by rw [cell_of hg]; rfl
  have g1 : W.cell? ⟨w.heap.size, 1, none⟩ = some (.slice ro rn rc) := by rw [cell_of hg]; rfl
  have c0 : W.cell? ⟨w.heap.size + 1, 0, none⟩ = some (.int .i64 t) := by rw [cell_of hb]; rfl
  have c1 : W.cell? ⟨w.heap.size + 1, 1, none⟩ = some (.int .i64 n) := by rw [cell_of hb]; rfl
  have HO : Hid _ := RObject_any (ro := ro) (rn := rn) (rc := rc) (hT.no HK.out) hn (t, n)
  have hp := objN_pos (T := T) (v := (t, n))
  obtain ⟨q, hq⟩ : ∃ q, objN T (t, n) = q := ⟨_, rfl⟩
  rw [hq] at HO hp
  obtain ⟨r, HR⟩ : ∃ r, Hid (held T (t, n) = r) := ⟨_, rfl⟩
  rw [HR.out]
  have HP : Hid (decide (0 < q) = obj T (t, n)) := hp
  clear hT hb hg hq hp
  by_cases h4 : t = 4
  · have HZ : Hid (r = false) := by show _ = _; rw [← HR.out]; unfold held; simp [h4]
    subst h4
    go_enter Try.func24, Try.ntmps24
    go_wp2_with (first | rw [← HW.out])
    go_ret
    exact ⟨by rw [HZ.out]; rfl, HK.out⟩
  · have HZ : Hid (r = decide (0 < q)) := by show _ = _; rw [← HR.out, HP.out]; unfold held; simp [h4]
    go_enter Try.func24, Try.ntmps24
    go_wp2_with (first | rw [← HW.out])
    go_at_call 21
    refine Calls.mono HO.out ?_
    rintro e w2 ⟨rfl, hk2⟩
    have HK2 : Hid (Kept No w w2) := HK.out.trans hk2
    clear hk2
    go_wp2
    refine bodyPost_ret (v := .bool (decide (0 < q))) (by simp [results, Try.results24, go_sem]; exact fun _ => h4) rfl ⟨by rw [HZ.out], HK2.out⟩

/-- What a thing holds weakly. -/
def wkN (t : Th) : Int := if isWk t = true then t.weak else 0
set_option maxRecDepth 20000 in
set_option maxHeartbeats 2000000 in
theorem RWeak_any (t : Th) (so : Option Addr) (sn sc : Nat) (w : World) :
    Calls Try.prog 39 #[AT t (.slice so sn sc)] w fun e w' => e = .returned (.int .i64 (wkN t)) ∧ Kept No w w' := by
  obtain ⟨k, wk, ar, sl, fi⟩ := t
  have HK : Hid (∀ o, Kept No w (w.alloc o)) := fun o => (Kept.refl _ _).alloc _
  obtain ⟨r, HR⟩ : ∃ r, Hid (wkN ⟨k, wk, ar, sl, fi⟩ = r) := ⟨_, rfl⟩
  rw [HR.out]
  by_cases h5 : k = 5
  · by_cases h0 : wk < 0
    · have HZ : Hid (r = 0) := by show _ = _; rw [← HR.out]; unfold wkN isWk; rw [if_neg]; simp; omega
      go_enter Try.func39, Try.ntmps39
      go_wp2
      go_ret
      exact ⟨by rw [HZ.out]; rfl, HK.out _⟩
    · by_cases h3 : 3 < wk
      · have HZ : Hid (r = 0) := by show _ = _; rw [← HR.out]; unfold wkN isWk; rw [if_neg]; simp; omega
        go_enter Try.func39, Try.ntmps39
        go_wp2
        go_ret
        exact ⟨by rw [HZ.out]; rfl, HK.out _⟩
      · have HZ : Hid (r = wk) := by
          show _ = _
          rw [← HR.out]; unfold wkN isWk
          split
          · rfl
          · rename_i h; simp [h5] at h; omega
        go_enter Try.func39, Try.ntmps39
        go_wp2
        go_ret
        exact ⟨by rw [HZ.out]; rfl, HK.out _⟩
  · have HZ : Hid (r = 0) := by show _ = _; rw [← HR.out]; unfold wkN isWk; rw [if_neg]; simp; omega
    go_enter Try.func39, Try.ntmps39
    go_wp2
    go_ret
    exact ⟨by rw [HZ.out]; rfl, HK.out _⟩

/-- Where a slot's key stands; -1: it has none; -2: it is a key. -/
def keyN (t : Th) (i : Nat) : Int :=
  if i < 1 ∨ t.sl.length ≤ i then -2 else if (i : Int) ≤ t.arr then -1 else if ((i : Int) - (if 0 < t.arr then 1 + t.arr else 1)) % 2 = 1 then (i : Int) - 1 else if i + 1 = t.sl.length then -1 else -2
set_option maxRecDepth 20000 in
set_option maxHeartbeats 4000000 in
theorem RKeyOf_any (t : Th) (so : Option Addr) (sc : Nat) (i : Nat) (hl : t.sl.length ≤ 1000000) (hi : i ≤ 1000000) (w : World) :
    Calls Try.prog 23 #[AT t (.slice so t.sl.length sc), .int .i64 i] w fun e w' => e = .returned (.int .i64 (keyN t i)) ∧ Kept No w w' := by
  obtain ⟨k, wk, ar, sl, fi⟩ := t
  have HK : Hid (∀ o, Kept No w (w.alloc o)) := fun o => (Kept.refl _ _).alloc _
  obtain ⟨r, HR⟩ : ∃ r, Hid (keyN ⟨k, wk, ar, sl, fi⟩ i = r) := ⟨_, rfl⟩
  rw [HR.out]
  dsimp only at hl ⊢
  have HRd : Hid (r = if i < 1 ∨ sl.length ≤ i then -2 else if (i : Int) ≤ ar then -1 else if ((i : Int) - (if 0 < ar then 1 + ar else 1)) % 2 = 1 then (i : Int) - 1 else if i + 1 = sl.length then -1 else -2) := by show _ = _; rw [← HR.out]; rfl
  clear HR
  generalize sl.length = ln at hl HRd ⊢
  by_cases h1 : (i : Int) < 1
  · have HZ : Hid (r = -2) := by show _ = _; rw [HRd.out, if_pos (by omega)]
    go_enter Try.func23, Try.ntmps23
    go_wp2
    go_ret
    exact ⟨by rw [HZ.out]; rfl, HK.out _⟩
  · by_cases h2 : (ln : Int) ≤ (i : Int)
    · have HZ : Hid (r = -2) := by show _ = _; rw [HRd.out, if_pos (by omega)]
      go_enter Try.func23, Try.ntmps23
      go_wp2
      go_ret
      exact ⟨by rw [HZ.out]; rfl, HK.out _⟩
    · by_cases h3 : (i : Int) ≤ ar
      · have HZ : Hid (r = -1) := by show _ = _; rw [HRd.out, if_neg (by omega), if_pos h3]
        go_enter Try.func23, Try.ntmps23
        go_wp2
        go_ret
        exact ⟨by rw [HZ.out]; rfl, HK.out _⟩
      · by_cases h0 : 0 < ar
        · have u1 : IntKind.i64.wrap (1 + ar) = 1 + ar := by rw [IntKind.wrap_i64]; omega
          have u2 : IntKind.i64.wrap ((i : Int) - (1 + ar)) = (i : Int) - (1 + ar) := by rw [IntKind.wrap_i64]; omega
          have u3 : ((i : Int) - (1 + ar)).tmod 2 = ((i : Int) - (1 + ar)) % 2 := Int.tmod_eq_emod_of_nonneg (by omega)
          have u4 : IntKind.i64.wrap (((i : Int) - (1 + ar)) % 2) = ((i : Int) - (1 + ar)) % 2 := by rw [IntKind.wrap_i64]; omega
          have HZ0 : Hid (r = if ((i : Int) - (1 + ar)) % 2 = 1 then (i : Int) - 1 else if i + 1 = ln then -1 else -2) := by show _ = _; rw [HRd.out, if_neg (by omega), if_neg h3, if_pos h0]
          clear HRd
          have u5 : IntKind.i64.wrap ((ln : Int) - 1) = (ln : Int) - 1 := by rw [IntKind.wrap_i64]; omega
          by_cases hp : ((i : Int) - (1 + ar)) % 2 = 1
          · have HZ : Hid (r = (i : Int) - 1) := by show _ = _; rw [HZ0.out, if_pos hp]
            have hp' : (((i : Int) - (1 + ar)) % 2 == 1) = true := by simp [hp]
            clear HZ0
            go_enter Try.func23, Try.ntmps23
            go_wp2
            go_ret
            exact ⟨by rw [HZ.out]; rfl, HK.out _⟩
          · have hp' : (((i : Int) - (1 + ar)) % 2 == 1) = false := by simp [hp]
            by_cases hq : (i : Int) = (ln : Int) - 1
            · have HZ : Hid (r = -1) := by show _ = _; rw [HZ0.out, if_neg hp, if_pos (by omega)]
              have hq' : ((i : Int) == (ln : Int) - 1) = true := by simp [hq]
              clear HZ0 hq
              go_enter Try.func23, Try.ntmps23
              go_wp2
              go_ret
              exact ⟨by rw [HZ.out]; rfl, HK.out _⟩
            · have HZ : Hid (r = -2) := by show _ = _; rw [HZ0.out, if_neg hp, if_neg (by omega)]
              have hq' : ((i : Int) == (ln : Int) - 1) = false := by simp [hq]
              clear HZ0
              go_enter Try.func23, Try.ntmps23
              go_wp2
              go_ret
              exact ⟨by rw [HZ.out]; rfl, HK.out _⟩
        · have u2 : IntKind.i64.wrap ((i : Int) - 1) = (i : Int) - 1 := by rw [IntKind.wrap_i64]; omega
          have u3 : ((i : Int) - 1).tmod 2 = ((i : Int) - 1) % 2 := Int.tmod_eq_emod_of_nonneg (by omega)
          have u4 : IntKind.i64.wrap (((i : Int) - 1) % 2) = ((i : Int) - 1) % 2 := by rw [IntKind.wrap_i64]; omega
          have HZ0 : Hid (r = if ((i : Int) - 1) % 2 = 1 then (i : Int) - 1 else if i + 1 = ln then -1 else -2) := by show _ = _; rw [HRd.out, if_neg (by omega), if_neg h3, if_neg h0]
          clear HRd
          have u5 : IntKind.i64.wrap ((ln : Int) - 1) = (ln : Int) - 1 := by rw [IntKind.wrap_i64]; omega
          by_cases hp : ((i : Int) - 1) % 2 = 1
          · have HZ : Hid (r = (i : Int) - 1) := by show _ = _; rw [HZ0.out, if_pos hp]
            have hp' : (((i : Int) - 1) % 2 == 1) = true := by simp [hp]
            clear HZ0
            go_enter Try.func23, Try.ntmps23
            go_wp2
            go_ret
            exact ⟨by rw [HZ.out]; rfl, HK.out _⟩
          · have hp' : (((i : Int) - 1) % 2 == 1) = false := by simp [hp]
            by_cases hq : (i : Int) = (ln : Int) - 1
            · have HZ : Hid (r = -1) := by show _ = _; rw [HZ0.out, if_neg hp, if_pos (by omega)]
              have hq' : ((i : Int) == (ln : Int) - 1) = true := by simp [hq]
              clear HZ0 hq
              go_enter Try.func23, Try.ntmps23
              go_wp2
              go_ret
              exact ⟨by rw [HZ.out]; rfl, HK.out _⟩
            · have HZ : Hid (r = -2) := by show _ = _; rw [HZ0.out, if_neg hp, if_neg (by omega)]
              have hq' : ((i : Int) == (ln : Int) - 1) = false := by simp [hq]
              clear HZ0
              go_enter Try.func23, Try.ntmps23
              go_wp2
              go_ret
              exact ⟨by rw [HZ.out]; rfl, HK.out _⟩
end Go.Proofs.Ytnofmpbdfcolfaa
