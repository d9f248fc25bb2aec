/- The document's leads. -/
import Derived.Test.YtnofmpbdfcolfaaS1
namespace Go.Proofs.Ytnofmpbdfcolfaa
open Go.RowKit Go.Shelf
set_option linter.unusedSimpArgs false
set_option linter.unusedVariables false

/-- The key that counts for a slot of a table with weak keys. -/
def kySl (t : Th) (i : Nat) : V := if keyN t i = -2 then t.sl.getD i (0, 0) else t.sl.getD (keyN t i).toNat (0, 0)
/-- Does a thing lead to what is in a slot, by what is needed so far? -/
def leadsB (T : List Th) (t : Th) (i : Nat) (l : List Bool) : Bool :=
  if wkN t = 0 then true else if i = 0 then true else
  if wkN t = 1 then (if keyN t i = -1 then true else !held T (kySl t i) || l.getD (ix (kySl t i)) true)
  else if wkN t = 2 ∧ keyN t i = -2 then true else decide ((t.sl.getD i (0, 0)).1 = 4)
theorem keyN_cases {t : Th} {i : Nat} (hi : i < t.sl.length) (h0 : i ≠ 0) : keyN t i = -1 ∨ keyN t i = -2 ∨ keyN t i = ((i - 1 : Nat) : Int) := by
  unfold keyN
  rw [if_neg (by omega)]
  by_cases h1 : (i : Int) ≤ t.arr
  · rw [if_pos h1]; exact .inl rfl
  · rw [if_neg h1]
    by_cases h2 : ((i : Int) - (if 0 < t.arr then 1 + t.arr else 1)) % 2 = 1
    · rw [if_pos h2]; exact .inr (.inr (by omega))
    · rw [if_neg h2]
      by_cases h3 : i + 1 = t.sl.length
      · rw [if_pos h3]; exact .inl rfl
      · rw [if_neg h3]; exact .inr (.inl rfl)

theorem cell_al {w w' : World} (hk : Kept No w w') {b o : Nat} {v : Value} (h : w.cell? ⟨b, o, none⟩ = some v) : w'.cell? ⟨b, o, none⟩ = w.cell? ⟨b, o, none⟩ := by
  have hb : b < w.heap.size := by
    rcases Nat.lt_or_ge b w.heap.size with hb | hb
    · exact hb
    · simp [World.cell?, Array.getElem?_eq_none hb] at h
  exact World.cell?_of_block (hk.block b hb id)

set_option maxRecDepth 20000 in
set_option maxHeartbeats 8000000 in
theorem Rleads_any {w : World} {ao ro : Option Addr} {cap rn rc : Nat} {T : List Th} (hT : RdT w (.slice ao T.length cap) T) (hn : T.length ≤ 1000) (t : Th) (so : Option Addr) (sc : Nat) (hs : RdV w (.slice so t.sl.length sc) t.sl) (hl : t.sl.length ≤ 1000) (i : Nat) (hi : i < t.sl.length)
    (nb : Nat) (l : List Bool) (hll : l.length = T.length) (hnb : w.heap[nb]? = some (.cells (bc l).toArray 4 (0, 0))) :
    Calls Try.prog 31 #[AG ao T.length cap ro rn rc, AT t (.slice so t.sl.length sc), .int .i64 i, SLN nb T.length] w fun e w' => e = .returned (.bool (leadsB T t i l)) ∧ Kept No w w' := by
  have HT : Hid (RdT w (.slice ao T.length cap) T) := hT
  have HNb : Hid (w.heap[nb]? = some (.cells (bc l).toArray 4 (0, 0))) := hnb
  obtain ⟨W, HW⟩ : ∃ W, Hid (W = (w.alloc (.cells #[.slice ao T.length cap, .slice ro rn rc] 25)).alloc (.cells #[.int .i64 t.kind, .int .i64 t.weak, .int .i64 t.arr, .slice so t.sl.length sc, .int .i64 t.fin] 43)) := ⟨_, rfl⟩
  have hk : Kept No w W := by rw [HW.out]; exact ((Kept.refl _ _).alloc _).alloc _
  have hg : W.heap[w.heap.size]? = some (.cells #[.slice ao T.length cap, .slice ro rn rc] 25 (0, 0)) := by rw [HW.out]; exact (Below.heap_alloc _ _ _ (by simp)).trans (World.alloc_heap_new w _)
  have hb : W.heap[w.heap.size + 1]? = some (.cells #[.int .i64 t.kind, .int .i64 t.weak, .int .i64 t.arr, .slice so t.sl.length sc, .int .i64 t.fin] 43 (0, 0)) := by
    rw [HW.out]; have := World.alloc_heap_new (w.alloc (.cells #[.slice ao T.length cap, .slice ro rn rc] 25)) (.cells #[.int .i64 t.kind, .int .i64 t.weak, .int .i64 t.arr, .slice so t.sl.length sc, .int .i64 t.fin] 43); rwa [World.size_alloc] at this
  have HK : Hid (Kept No w W) := hk
  have HFc : Hid (∀ X, Kept No W X → (X.cell? ⟨w.heap.size, 0, none⟩ = some (.slice ao T.length cap) ∧ X.cell? ⟨w.heap.size, 1, none⟩ = some (.slice ro rn rc)) ∧ X.cell? ⟨w.heap.size + 1, 0, none⟩ = some (.int .i64 t.kind) ∧ X.cell? ⟨w.heap.size + 1, 1, none⟩ = some (.int .i64 t.weak) ∧ X.cell? ⟨w.heap.size + 1, 2, none⟩ = some (.int .i64 t.arr) ∧ X.cell? ⟨w.heap.size + 1, 3, none⟩ = some (.slice so t.sl.length sc) ∧ X.cell? ⟨w.heap.size + 1, 4, none⟩ = some (.int .i64 t.fin)) := fun X hX => by
    have h1 := hX.heap hg id
    have h2 := hX.heap hb id
    exact ⟨⟨by rw [cell_of h1]; rfl, by rw [cell_of h1]; rfl⟩, by rw [cell_of h2]; rfl, by rw [cell_of h2]; rfl, by rw [cell_of h2]; rfl, by rw [cell_of h2]; rfl, by rw [cell_of h2]; rfl⟩
  have HSl : Hid (∀ X, Kept No w X → ∀ k, k < t.sl.length → ∃ b off, so = some ⟨b, off, none⟩ ∧ X.cell? ⟨b, off + k * 2, none⟩ = some (.int .i64 (t.sl.getD k (0, 0)).1) ∧ X.cell? ⟨b, off + k * 2 + 1, none⟩ = some (.int .i64 (t.sl.getD k (0, 0)).2)) := fun X hX k hk => by
    obtain ⟨ao9, cap9, e9, h9⟩ := hs.no hX
    injection e9 with e9
    subst e9
    have : t.sl.getD k (0, 0) = t.sl[k] := by simp [List.getD, hk]
    rw [this]; exact h9 k hk
  have HWk : Hid (∀ X, Calls Try.prog 39 #[AT t (.slice so t.sl.length sc)] X fun e w' => e = .returned (.int .i64 (wkN t)) ∧ Kept No X w') := fun X => RWeak_any t so _ sc X
  have HKy : Hid (∀ X, Calls Try.prog 23 #[AT t (.slice so t.sl.length sc), .int .i64 i] X fun e w' => e = .returned (.int .i64 (keyN t i)) ∧ Kept No X w') := fun X => RKeyOf_any t so sc i (by omega) (by omega) X
  have HWy : Hid (∀ X, Kept No w X → ∀ v : V, Calls Try.prog 24 #[AG ao T.length cap ro rn rc, AV v] X fun e w' => e = .returned (.bool (held T v)) ∧ Kept No X w') := fun X hX v => RWeakly_any (HT.out.no hX) (by omega) v
  have HOb : Hid (∀ X, Kept No w X → ∀ v : V, Calls Try.prog 21 #[AG ao T.length cap ro rn rc, AV v] X fun e w' => e = .returned (.int .i64 (objN T v)) ∧ Kept No X w') := fun X hX v => RObject_any (HT.out.no hX) (by omega) v
  obtain ⟨r, HR⟩ : ∃ r, Hid (leadsB T t i l = r) := ⟨_, rfl⟩
  rw [HR.out]
  have HRd : Hid (r = if wkN t = 0 then true else if i = 0 then true else if wkN t = 1 then (if keyN t i = -1 then true else !held T (kySl t i) || l.getD (ix (kySl t i)) true) else if wkN t = 2 ∧ keyN t i = -2 then true else decide ((t.sl.getD i (0, 0)).1 = 4)) := by show _ = _; rw [← HR.out]; rfl
  have HKs : Hid (kySl t i = if keyN t i = -2 then t.sl.getD i (0, 0) else t.sl.getD (keyN t i).toNat (0, 0)) := rfl
  have HKc : Hid (i ≠ 0 → keyN t i = -1 ∨ keyN t i = -2 ∨ keyN t i = ((i - 1 : Nat) : Int)) := fun h0 => keyN_cases hi h0
  obtain ⟨tk, tw, ta, sl, tf⟩ := t
  dsimp only at hl hi HFc HSl HW HWk HKy HRd HKs HKc hb ⊢
  generalize wkN ⟨tk, tw, ta, sl, tf⟩ = wk at HWk HRd
  generalize keyN ⟨tk, tw, ta, sl, tf⟩ i = kn at HKy HRd HKs HKc
  generalize kySl ⟨tk, tw, ta, sl, tf⟩ i = ky at HRd HKs
  obtain ⟨ln, hln⟩ : ∃ ln, sl.length = ln := ⟨_, rfl⟩
  rw [hln] at hl hi HFc HSl HW HWk HKy hb ⊢
  clear hln hT hs hnb hg hb hk HR
  obtain ⟨⟨p0, p1⟩, q0, q1, q2, q3, q4⟩ := HFc.out W (Kept.refl _ _)
  go_enter Try.func31, Try.ntmps31
  go_wp2_with (first | rw [← HW.out])
  refine Calls.mono (HWk.out _) ?_
  rintro e w1 ⟨rfl, hk1⟩
  have HK1 : Hid (Kept No W w1) := hk1
  clear hk1 p0 p1 q0 q1 q2 q3 q4
  by_cases h0 : wk = 0
  · have HZ : Hid (r = true) := by show _ = _; rw [HRd.out, if_pos h0]
    clear HRd
    go_wp2
    go_ret
    exact ⟨by rw [HZ.out]; rfl, HK.out.trans HK1.out⟩
  · by_cases hi0 : i = 0
    · have HZ : Hid (r = true) := by show _ = _; rw [HRd.out, if_neg h0, if_pos hi0]
      have hi0' : (i : Int) = 0 := by omega
      clear HRd
      go_wp2
      go_ret
      exact ⟨by rw [HZ.out]; rfl, HK.out.trans HK1.out⟩
    · have hi0' : ¬ (i : Int) = 0 := by omega
      have hjn : (wk == 0 || (i : Int) == 0) = false := by
        have a1 : (wk == 0) = false := by simp [h0]
        have a2 : ((i : Int) == 0) = false := by simp; omega
        rw [a1, a2]; rfl
      obtain ⟨⟨p0, p1⟩, q0, q1, q2, q3, q4⟩ := HFc.out w1 HK1.out
      go_wp2_with fail
      refine Calls.mono (HKy.out _) ?_
      rintro e w2 ⟨rfl, hk2⟩
      have HK2 : Hid (Kept No W w2) := HK1.out.trans hk2
      clear hk2 p0 p1 q0 q1 q2 q3 q4
      obtain ⟨⟨p0, p1⟩, q0, q1, q2, q3, q4⟩ := HFc.out w2 HK2.out
      by_cases h1 : wk = 1
      · have HZ0 : Hid (r = if kn = -1 then true else !held T ky || l.getD (ix ky) true) := by show _ = _; rw [HRd.out, if_neg h0, if_neg hi0, if_pos h1]
        clear HRd
        by_cases hm1 : kn = -1
        · have HZ : Hid (r = true) := by show _ = _; rw [HZ0.out, if_pos hm1]
          clear HZ0
          go_wp2
          go_ret
          exact ⟨by rw [HZ.out]; rfl, HK.out.trans HK2.out⟩
        · have HZ : Hid (r = (!held T ky || l.getD (ix ky) true)) := by show _ = _; rw [HZ0.out, if_neg hm1]
          clear HZ0
          obtain ⟨b, off, hso, x0, x1⟩ := HSl.out w2 (HK.out.trans HK2.out) i hi
          have hi' : (i : Int) < (ln : Int) := by omega
          by_cases hm2 : kn = -2
          · have HKy2 : Hid (ky = sl.getD i (0, 0)) := by show _ = _; rw [HKs.out, if_pos hm2]
            rw [hso] at q3
            clear hso
            rw [← HKy2.out] at x0 x1
            obtain ⟨y1, y2⟩ := ky
            dsimp only at x0 x1
            obtain ⟨X3, HX3⟩ : ∃ X3, Hid (X3 = w2.alloc (.cells #[.int .i64 y1, .int .i64 y2] 40)) := ⟨_, rfl⟩
            have HK3 : Hid (Kept No W X3) := by show Kept _ _ _; rw [HX3.out]; exact HK2.out.alloc _
            have HB3 : Hid (X3.heap[w2.heap.size]? = some (.cells #[.int .i64 y1, .int .i64 y2] 40 (0, 0))) := by show _ = _; rw [HX3.out]; exact World.alloc_heap_new w2 _
            clear p0 p1
            obtain ⟨⟨p0, p1⟩, _⟩ := HFc.out X3 HK3.out
            have k0 : X3.cell? ⟨w2.heap.size, 0, none⟩ = some (.int .i64 y1) := by rw [cell_of HB3.out]; rfl
            have k1 : X3.cell? ⟨w2.heap.size, 1, none⟩ = some (.int .i64 y2) := by rw [cell_of HB3.out]; rfl
            have HC4 : Hid _ := HWy.out X3 (HK.out.trans HK3.out) (y1, y2)
            obtain ⟨hd, hhd⟩ : ∃ hd, held T (y1, y2) = hd := ⟨_, rfl⟩
            have HHd : Hid (held T (y1, y2) = hd) := hhd
            rw [hhd] at HC4 HZ
            clear hhd
            go_wp2_with (first | rw [← HX3.out])
            go_at_call 24
            refine Calls.mono HC4.out ?_
            rintro e X4 ⟨rfl, hk4⟩
            have HK4 : Hid (Kept No W X4) := HK3.out.trans hk4
            have hb4 := hk4.heap HB3.out id
            clear hk4 p0 p1 k0 k1 HC4
            cases hd
            · have HZt : Hid (r = true) := by show _ = _; rw [HZ.out]; rfl
              clear HZ
              go_wp2
              go_ret
              exact ⟨by rw [HZt.out]; rfl, HK.out.trans HK4.out⟩
            · obtain ⟨⟨p0, p1⟩, _⟩ := HFc.out X4 HK4.out
              have k0 : X4.cell? ⟨w2.heap.size, 0, none⟩ = some (.int .i64 y1) := by rw [cell_of hb4]; rfl
              have k1 : X4.cell? ⟨w2.heap.size, 1, none⟩ = some (.int .i64 y2) := by rw [cell_of hb4]; rfl
              have ho := held_obj HHd.out
              obtain ⟨o1, o2, o3⟩ := obj_ix ho
              have HC5 : Hid _ := HOb.out X4 (HK.out.trans HK4.out) (y1, y2)
              have hoN : objN T (y1, y2) = y2 := by unfold objN; rw [if_pos ho]
              rw [hoN] at HC5
              dsimp only at o2 o3
              have hix : ix (y1, y2) = y2.toNat - 1 := rfl
              rw [hix] at o1
              have HZt : Hid (r = l.getD (y2.toNat - 1) true) := by show _ = _; rw [HZ.out]; rfl
              obtain ⟨m, rfl⟩ : ∃ m : Nat, y2 = (m : Int) + 1 := ⟨(y2 - 1).toNat, by omega⟩
              have em : ((m : Int) + 1).toNat - 1 = m := by omega
              rw [em] at HZt o1
              have hm1' : (m : Int) < (T.length : Int) := by omega
              have e1 : (m : Int) + 1 - 1 = (m : Int) := by omega
              have HBt : Hid (∀ X, Kept No w X → X.cell? ⟨nb, m, none⟩ = some (.bool (l.getD m true))) := fun X hX => by
                rw [cell_of (hX.heap HNb.out id)]; exact bc_get l m (by omega)
              generalize l.getD m true = bb at HZt HBt
              clear HZ ho hoN hix hb4
              go_wp2_with fail
              go_at_call 21
              refine Calls.mono HC5.out ?_
              rintro e X5 ⟨rfl, hk5⟩
              have HK5 : Hid (Kept No w X5) := HK.out.trans (HK4.out.trans hk5)
              have n0 := HBt.out X5 HK5.out
              clear hk5 HC5 p0 p1 k0 k1
              go_wp2
              go_ret
              exact ⟨by rw [HZt.out]; rfl, HK5.out⟩
          · have hkk : kn = ((i - 1 : Nat) : Int) := by rcases HKc.out hi0 with h | h | h; exact absurd h hm1; exact absurd h hm2; exact h
            have HKy2 : Hid (ky = sl.getD (i - 1) (0, 0)) := by show _ = _; rw [HKs.out, if_neg hm2, hkk]; rfl
            obtain ⟨b', off', hso', z0, z1⟩ := HSl.out w2 (HK.out.trans HK2.out) (i - 1) (by omega)
            rw [hso] at hso'
            injection hso' with hso'
            injection hso' with hs1 hs2
            subst hs1 hs2
            rw [hso] at q3
            clear hso
            rw [← HKy2.out] at z0 z1
            obtain ⟨y1, y2⟩ := ky
            dsimp only at z0 z1
            generalize sl.getD i (0, 0) = x at x0 x1
            obtain ⟨v1, v2⟩ := x
            dsimp only at x0 x1
            obtain ⟨j, hj⟩ : ∃ j, i - 1 = j := ⟨_, rfl⟩
            rw [hj] at hkk z0 z1
            have hjl : (j : Int) < (ln : Int) := by omega
            subst hkk
            have hj1 : ((j : Int) == -1) = false := by simp
            have hj2 : ((j : Int) == -2) = false := by simp
            clear hm1 hm2
            obtain ⟨X2, HX2⟩ : ∃ X2, Hid (X2 = w2.alloc (.cells #[.int .i64 v1, .int .i64 v2] 40)) := ⟨_, rfl⟩
            have hk2' : Kept No w2 X2 := by rw [HX2.out]; exact (Kept.refl _ _).alloc _
            have hbx : X2.heap[w2.heap.size]? = some (.cells #[.int .i64 v1, .int .i64 v2] 40 (0, 0)) := by rw [HX2.out]; exact World.alloc_heap_new w2 _
            have q3' : X2.cell? ⟨w.heap.size + 1, 3, none⟩ = some (.slice (some ⟨b, off, none⟩) ln sc) := by rw [← q3]; exact cell_al hk2' q3
            have z0' : X2.cell? ⟨b, off + j * 2, none⟩ = some (.int .i64 y1) := by rw [← z0]; exact cell_al hk2' z0
            have z1' : X2.cell? ⟨b, off + j * 2 + 1, none⟩ = some (.int .i64 y2) := by rw [← z1]; exact cell_al hk2' z1
            have g0 : X2.cell? ⟨w2.heap.size, 0, none⟩ = some (.int .i64 v1) := by rw [cell_of hbx]; rfl
            have g1 : X2.cell? ⟨w2.heap.size, 1, none⟩ = some (.int .i64 v2) := by rw [cell_of hbx]; rfl
            have f0 : X2.frozen? ⟨w2.heap.size, 0, none⟩ = false := frozen_of hbx _
            have f1 : X2.frozen? ⟨w2.heap.size, 1, none⟩ = false := frozen_of hbx _
            obtain ⟨X3, HX3⟩ : ∃ X3, Hid (X3 = (X2.setCell ⟨w2.heap.size, 0, none⟩ (.int .i64 y1)).setCell ⟨w2.heap.size, 1, none⟩ (.int .i64 y2)) := ⟨_, rfl⟩
            have HK3 : Hid (Kept No W X3) := by show Kept _ _ _; rw [HX3.out]; exact ((HK2.out.trans hk2').set _ _ _ (.inr HK2.out.size)).set _ _ _ (.inr HK2.out.size)
            have HB3 : Hid (X3.heap[w2.heap.size]? = some (.cells #[.int .i64 y1, .int .i64 y2] 40 (0, 0))) := by show _ = _; rw [HX3.out]; exact hp_set_same (hp_set_same hbx 0 _) 1 _
            clear p0 p1 hbx hk2' z0 z1
            obtain ⟨⟨p0, p1⟩, _⟩ := HFc.out X3 HK3.out
            have k0 : X3.cell? ⟨w2.heap.size, 0, none⟩ = some (.int .i64 y1) := by rw [cell_of HB3.out]; rfl
            have k1 : X3.cell? ⟨w2.heap.size, 1, none⟩ = some (.int .i64 y2) := by rw [cell_of HB3.out]; rfl
            have HC4 : Hid _ := HWy.out X3 (HK.out.trans HK3.out) (y1, y2)
            obtain ⟨hd, hhd⟩ : ∃ hd, held T (y1, y2) = hd := ⟨_, rfl⟩
            have HHd : Hid (held T (y1, y2) = hd) := hhd
            rw [hhd] at HC4 HZ
            clear hhd
            go_wp2_with (first | rw [← HX2.out] | rw [← HX3.out])
            go_at_call 24
            refine Calls.mono HC4.out ?_
            rintro e X4 ⟨rfl, hk4⟩
            have HK4 : Hid (Kept No W X4) := HK3.out.trans hk4
            have hb4 := hk4.heap HB3.out id
            clear hk4 p0 p1 k0 k1 HC4
            cases hd
            · have HZt : Hid (r = true) := by show _ = _; rw [HZ.out]; rfl
              clear HZ
              go_wp2
              go_ret
              exact ⟨by rw [HZt.out]; rfl, HK.out.trans HK4.out⟩
            · obtain ⟨⟨p0, p1⟩, _⟩ := HFc.out X4 HK4.out
              have k0 : X4.cell? ⟨w2.heap.size, 0, none⟩ = some (.int .i64 y1) := by rw [cell_of hb4]; rfl
              have k1 : X4.cell? ⟨w2.heap.size, 1, none⟩ = some (.int .i64 y2) := by rw [cell_of hb4]; rfl
              have ho := held_obj HHd.out
              obtain ⟨o1, o2, o3⟩ := obj_ix ho
              have HC5 : Hid _ := HOb.out X4 (HK.out.trans HK4.out) (y1, y2)
              have hoN : objN T (y1, y2) = y2 := by unfold objN; rw [if_pos ho]
              rw [hoN] at HC5
              dsimp only at o2 o3
              have hix : ix (y1, y2) = y2.toNat - 1 := rfl
              rw [hix] at o1
              have HZt : Hid (r = l.getD (y2.toNat - 1) true) := by show _ = _; rw [HZ.out]; rfl
              obtain ⟨m, rfl⟩ : ∃ m : Nat, y2 = (m : Int) + 1 := ⟨(y2 - 1).toNat, by omega⟩
              have em : ((m : Int) + 1).toNat - 1 = m := by omega
              rw [em] at HZt o1
              have hm1' : (m : Int) < (T.length : Int) := by omega
              have e1 : (m : Int) + 1 - 1 = (m : Int) := by omega
              have HBt : Hid (∀ X, Kept No w X → X.cell? ⟨nb, m, none⟩ = some (.bool (l.getD m true))) := fun X hX => by
                rw [cell_of (hX.heap HNb.out id)]; exact bc_get l m (by omega)
              generalize l.getD m true = bb at HZt HBt
              clear HZ ho hoN hix hb4
              go_wp2_with fail
              go_at_call 21
              refine Calls.mono HC5.out ?_
              rintro e X5 ⟨rfl, hk5⟩
              have HK5 : Hid (Kept No w X5) := HK.out.trans (HK4.out.trans hk5)
              have n0 := HBt.out X5 HK5.out
              clear hk5 HC5 p0 p1 k0 k1
              go_wp2
              go_ret
              exact ⟨by rw [HZt.out]; rfl, HK5.out⟩
      · have HZ0 : Hid (r = if wk = 2 ∧ kn = -2 then true else decide ((sl.getD i (0, 0)).1 = 4)) := by show _ = _; rw [HRd.out, if_neg h0, if_neg hi0, if_neg h1]
        clear HRd
        obtain ⟨b, off, hso, x0, x1⟩ := HSl.out w2 (HK.out.trans HK2.out) i hi
        rw [hso] at q3
        clear hso
        generalize sl.getD i (0, 0) = x at x0 x1 HZ0
        obtain ⟨x1', x2'⟩ := x
        dsimp only at x0 x1 HZ0
        by_cases h2 : wk = 2
        · by_cases hm2 : kn = -2
          · have HZ : Hid (r = true) := by show _ = _; rw [HZ0.out, if_pos ⟨h2, hm2⟩]
            clear HZ0
            go_wp2
            go_ret
            exact ⟨by rw [HZ.out]; rfl, HK.out.trans HK2.out⟩
          · have HZ : Hid (r = decide (x1' = 4)) := by show _ = _; rw [HZ0.out, if_neg (fun h => hm2 h.2)]
            have hi' : (i : Int) < (ln : Int) := by omega
            clear HZ0
            go_wp2
            go_ret
            exact ⟨by rw [HZ.out]; rfl, HK.out.trans HK2.out⟩
        · have HZ : Hid (r = decide (x1' = 4)) := by show _ = _; rw [HZ0.out, if_neg (fun h => h2 h.1)]
          have hi' : (i : Int) < (ln : Int) := by omega
          clear HZ0
          go_wp2
          go_ret
          exact ⟨by rw [HZ.out]; rfl, HK.out.trans HK2.out⟩
end Go.Proofs.Ytnofmpbdfcolfaa
