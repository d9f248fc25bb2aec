/- Numbers read. -/
import Derived.Test.YtbhmgmbgplkkeaaDoorM1
import Derived.Test.YtbhmgmbgplkkeaaDoorShelf
import Derived.Lib.ConvBytes
import Derived.WalkMore
namespace Go.Proofs.YtbhmgmbgplkkeaaDoor
open Go.RowKit
set_option linter.unusedSimpArgs false
set_option linter.unusedVariables false

/-- The bytes of a text. -/
abbrev bl (s : ByteArray) : List UInt8 := s.data.toList
theorem bl_len (s : ByteArray) : (bl s).length = s.size := by rw [Lib.size_eq]
theorem bl_at (s : ByteArray) {k : Nat} (h : k < s.size) : (bl s)[k]'(by rw [bl_len]; exact h) = s[k] := rfl
theorem bl_drop (s : ByteArray) {k : Nat} (h : k < s.size) : (bl s).drop k = s[k] :: (bl s).drop (k + 1) := by
  rw [List.drop_eq_getElem_cons (by rw [bl_len]; exact h), bl_at s h]
theorem bl_mk (l : List UInt8) : bl (⟨l.toArray⟩ : ByteArray) = l := by simp [bl]
theorem bl_inj {s t : ByteArray} (h : bl s = bl t) : s = t := by
  cases s; cases t; simp only [bl] at h; congr 1; exact Array.toList_inj.1 h
theorem mk_bl (s : ByteArray) : (⟨(bl s).toArray⟩ : ByteArray) = s := by cases s; simp

/-- How a number is told: as an int and whether it is one. -/
def optI (o : Option Nat) : Int := match o with | some n => (n : Int) | none => 0
def optM (o : Option Nat) : Int := match o with | some n => (n : Int) | none => -1
def numI (l : List UInt8) : Int := optI (numP l)
def numB (l : List UInt8) : Bool := (numP l).isSome

set_option maxRecDepth 20000 in
set_option maxHeartbeats 4000000 in
theorem number_any (s : ByteArray) (hs : s.size ≤ 100000) (w : World) :
    Calls Tryd.prog 52 #[.string s] w fun e w' => e = .returned (.tuple #[.int .i64 (numI (bl s)), .bool (numB (bl s))]) ∧ Kept No w w' := by
  obtain ⟨X, HX⟩ : ∃ X, Hid (numP (bl s) = X) := ⟨_, rfl⟩
  have hI : numI (bl s) = optI X := by unfold numI; rw [HX.out]
  have hBo : numB (bl s) = X.isSome := by unfold numB; rw [HX.out]
  rw [hI, hBo]
  clear hI hBo
  rcases Nat.eq_zero_or_pos s.size with h0 | h0
  · have hX : X = none := by rw [← HX.out, numP, if_pos (.inl (List.length_eq_zero_iff.1 (by rw [bl_len]; exact h0)))]
    subst hX
    have he : s.toList.isEmpty = true := by rw [ByteArray.toList_eq]; exact List.isEmpty_iff.2 (List.length_eq_zero_iff.1 (by rw [bl_len]; exact h0))
    go_enter Tryd.func52, Tryd.ntmps52
    go_wp2
    go_ret2
    exact ⟨rfl, Kept.refl _ _⟩
  have he : s.toList.isEmpty = false := by
    rw [ByteArray.toList_eq, List.isEmpty_eq_false_iff]
    intro e
    have : s.size = 0 := by rw [← bl_len]; exact congrArg List.length e
    omega
  by_cases h9 : 9 < s.size
  · have hX : X = none := by rw [← HX.out, numP, if_pos (.inr (.inl (by rw [bl_len]; exact h9)))]
    subst hX
    go_enter Tryd.func52, Tryd.ntmps52
    go_wp2
    go_ret2
    exact ⟨rfl, Kept.refl _ _⟩
  have hd0 := bl_drop s h0
  rw [List.drop_zero] at hd0
  by_cases h48 : s[0].toNat = 48 ∧ 1 < s.size
  · obtain ⟨h48, h1⟩ := h48
    have e48 : s[0] = 48 := UInt8.toNat_inj.1 (by rw [h48]; rfl)
    have hX : X = none := by rw [← HX.out, numP, if_pos (.inr (.inr ⟨by rw [bl_len]; exact h1, by rw [hd0, e48]; rfl⟩))]
    subst hX
    have i48 : (s[0].toNat : Int) = 48 := by omega
    have hne : (s.toList == [48]) = false := by
      rw [ByteArray.toList_eq, beq_eq_false_iff_ne]
      intro e
      have := congrArg List.length e
      rw [bl_len] at this
      simp at this; omega
    clear hd0 e48
    go_enter Tryd.func52, Tryd.ntmps52
    go_wp2
    go_ret2
    exact ⟨rfl, Kept.refl _ _⟩
  have hX : Hid (X = numGo 0 (bl s)) := by
    show _ = _
    rw [← HX.out, numP, if_neg ?_]
    rintro (h | h | ⟨h1, h2⟩)
    · rw [h] at hd0; cases hd0
    · rw [bl_len] at h; omega
    · rw [bl_len] at h1
      rw [hd0] at h2
      injection h2 with h2
      exact h48 ⟨by rw [h2]; rfl, h1⟩
  have hcv := Lib.run_convert_string_bytes (P := Tryd.prog) w 9 46 5 s (u := .string) Tryd.underlying9 Tryd.underlying46 Tryd.underlying5
  obtain ⟨W, HW⟩ : ∃ W, Hid (W = Lib.bytesWorld w 5 s) := ⟨_, rfl⟩
  have HB : Hid (∀ j, j < s.size → W.cell? ⟨w.heap.size, j, none⟩ = some (.int .u8 ((bl s).getD j 0).toNat)) := fun j hj => by rw [HW.out]; exact Lib.bytesWorld_cell w 5 s j hj
  have HK : Hid (Kept No w W) := by
    show Kept _ _ _
    rw [HW.out]
    exact ⟨rfl, rfl, rfl, by rw [Lib.bytesWorld_size]; omega, fun k hk _ => Lib.bytesWorld_at_old w 5 s k hk⟩
  rw [← HW.out] at hcv
  obtain ⟨R, HR⟩ : ∃ R, Hid (R = numGo 0 ((bl s).drop 0)) := ⟨_, rfl⟩
  have hXR : R = X := by rw [hX.out, HR.out, List.drop_zero]
  have HD : Hid (∀ j, j < s.size → (bl s).drop j = (bl s).getD j 0 :: (bl s).drop (j + 1)) := fun j hj => by
    rw [bl_drop s hj]
    congr 1
    rw [List.getD, List.getElem?_eq_getElem (by rw [bl_len]; exact hj)]; rfl
  have HLn : Hid ((bl s).length = s.size) := bl_len s
  have HR : Hid (numGo 0 ((bl s).drop 0) = R) := HR.out.symm
  rw [← hXR]
  clear hX HX hXR
  have HNo : Hid (R = none → Ending.returned (.tuple #[.int .i64 0, .bool false]) = Ending.returned (.tuple #[.int .i64 (optI R), .bool R.isSome]) ∧ Kept No w W) := fun e => by rw [e]; exact ⟨rfl, HK.out⟩
  have HSo : Hid (∀ n : Nat, R = some n → Ending.returned (.tuple #[.int .i64 (n : Int), .bool true]) = Ending.returned (.tuple #[.int .i64 (optI R), .bool R.isSome]) ∧ Kept No w W) := fun n e => by rw [e]; exact ⟨rfl, HK.out⟩
  generalize hBl : bl s = L at HB HR HD HLn
  clear hd0 hBl HW
  by_cases hz : s[0].toNat = 48
  · have i48 : (s[0].toNat : Int) = 48 := by omega
    have hs1 : s.size = 1 := by
      rcases Nat.lt_or_ge 1 s.size with h | h
      · exact absurd ⟨hz, h⟩ h48
      · omega
    have hne : (s.toList == [48]) = true := by
      rw [ByteArray.toList_eq, beq_iff_eq]
      apply List.ext_getElem (by rw [bl_len]; exact hs1)
      intro i h1 h2
      have : i = 0 := by simp at h2; exact h2
      subst this
      have : s[0] = 48 := UInt8.toNat_inj.1 (by rw [hz]; rfl)
      exact this
    have HS1 : Hid (s.size = 1) := hs1
    have hn0 : True := trivial
    clear h48 hz hs1
    go_enter Tryd.func52, Tryd.ntmps52
    clear hn0
    go_wp2_with fail
    go_loop [4, 26] (fun v4 v26 => ∃ j n : Nat, j ≤ s.size ∧ v26 = .int .i64 j ∧ v4 = .int .i64 n ∧ n < 10 ^ j ∧ Hid (numGo n (L.drop j) = R)) (fun _ v26 => s.size - (intOf v26).toNat)
    case atStart => exact ⟨0, 0, by omega, rfl, rfl, by decide, HR.out⟩
    case round =>
      clear HR
      obtain ⟨j, n, hj, rfl, rfl, hn, HJ⟩ := hrel
      have hn9 : n < 1000000000 := Nat.lt_of_lt_of_le hn (Nat.le_trans (Nat.pow_le_pow_right (by omega) (show j ≤ 9 by omega)) (by decide))
      by_cases hlt : j < s.size
      · have k0 := HB.out j hlt
        have hd := HD.out j hlt
        have HE := HJ.out
        rw [hd] at HE
        have hc0 : (L.getD j 0).toNat < 256 := UInt8.toNat_lt _
        generalize L.getD j 0 = c at k0 HE hc0
        clear hd
        by_cases h1 : c.toNat < 48
        · have i1 : (c.toNat : Int) < 48 := by omega
          have hR : Hid (R = none) := by show _ = _; rw [← HE, numGo, if_neg (by unfold isDg; simp; omega)]
          clear HE HJ
          go_wp2
          go_ret2
          exact HNo.out hR.out
        by_cases h2 : 57 < c.toNat
        · have i1 : ¬ (c.toNat : Int) < 48 := by omega
          have i2 : (57 : Int) < (c.toNat : Int) := by omega
          have hR : Hid (R = none) := by show _ = _; rw [← HE, numGo, if_neg (by unfold isDg; simp; omega)]
          clear HE HJ
          go_wp2
          go_ret2
          exact HNo.out hR.out
        have i1 : ¬ (c.toNat : Int) < 48 := by omega
        have i2 : ¬ (57 : Int) < (c.toNat : Int) := by omega
        obtain ⟨d, hd⟩ : ∃ d : Nat, c.toNat = d + 48 := ⟨c.toNat - 48, by omega⟩
        have hd9 : d ≤ 9 := by omega
        have HJ2 : Hid (numGo (n * 10 + d) (L.drop (j + 1)) = R) := by
          show _ = _
          rw [← HE, numGo, if_pos (by unfold isDg; simp; omega), hd]; rfl
        have hn2 : n * 10 + d < 10 ^ (j + 1) := by rw [Nat.pow_succ]; omega
        have e0 : (c.toNat : Int) = (d : Int) + 48 := by omega
        rw [e0] at k0 i1 i2
        have e1 : ((d : Int) + 48) - 48 = (d : Int) := by omega
        have e2 : IntKind.u8.wrap (d : Int) = (d : Int) := by rw [IntKind.wrap_u8]; omega
        have e3 : IntKind.i64.wrap ((n : Int) * 10) = (n : Int) * 10 := by rw [IntKind.wrap_i64]; omega
        have e4 : IntKind.i64.wrap ((n : Int) * 10 + (d : Int)) = (n : Int) * 10 + (d : Int) := by rw [IntKind.wrap_i64]; omega
        have e5 : IntKind.i64.wrap (d : Int) = (d : Int) := by rw [IntKind.wrap_i64]; omega
        clear HE HJ e0 hc0
        go_wp2
        go_round
        case rel => exact ⟨j + 1, n * 10 + d, by omega, by go_num, by first | rfl | go_num | simp, hn2, HJ2⟩
        case measure => simp [intOf] <;> omega
      · obtain rfl : j = s.size := by omega
        have hR : Hid (R = some n) := by
          show _ = _
          rw [← HJ.out, List.drop_eq_nil_of_le (by rw [HLn.out]; exact Nat.le_refl _)]; rfl
        clear HJ
        go_wp2
        go_ret2
        exact HSo.out n hR.out
  · have i48 : ((s[0].toNat : Int) == 48) = false := by rw [beq_eq_false_iff_ne]; omega
    have hn0 : True := trivial
    clear h48 hz
    go_enter Tryd.func52, Tryd.ntmps52
    clear hn0
    go_wp2_with fail
    go_loop [4, 26] (fun v4 v26 => ∃ j n : Nat, j ≤ s.size ∧ v26 = .int .i64 j ∧ v4 = .int .i64 n ∧ n < 10 ^ j ∧ Hid (numGo n (L.drop j) = R)) (fun _ v26 => s.size - (intOf v26).toNat)
    case atStart => exact ⟨0, 0, by omega, rfl, rfl, by decide, HR.out⟩
    case round =>
      clear HR
      obtain ⟨j, n, hj, rfl, rfl, hn, HJ⟩ := hrel
      have hn9 : n < 1000000000 := Nat.lt_of_lt_of_le hn (Nat.le_trans (Nat.pow_le_pow_right (by omega) (show j ≤ 9 by omega)) (by decide))
      by_cases hlt : j < s.size
      · have k0 := HB.out j hlt
        have hd := HD.out j hlt
        have HE := HJ.out
        rw [hd] at HE
        have hc0 : (L.getD j 0).toNat < 256 := UInt8.toNat_lt _
        generalize L.getD j 0 = c at k0 HE hc0
        clear hd
        by_cases h1 : c.toNat < 48
        · have i1 : (c.toNat : Int) < 48 := by omega
          have hR : Hid (R = none) := by show _ = _; rw [← HE, numGo, if_neg (by unfold isDg; simp; omega)]
          clear HE HJ
          go_wp2
          go_ret2
          exact HNo.out hR.out
        by_cases h2 : 57 < c.toNat
        · have i1 : ¬ (c.toNat : Int) < 48 := by omega
          have i2 : (57 : Int) < (c.toNat : Int) := by omega
          have hR : Hid (R = none) := by show _ = _; rw [← HE, numGo, if_neg (by unfold isDg; simp; omega)]
          clear HE HJ
          go_wp2
          go_ret2
          exact HNo.out hR.out
        have i1 : ¬ (c.toNat : Int) < 48 := by omega
        have i2 : ¬ (57 : Int) < (c.toNat : Int) := by omega
        obtain ⟨d, hd⟩ : ∃ d : Nat, c.toNat = d + 48 := ⟨c.toNat - 48, by omega⟩
        have hd9 : d ≤ 9 := by omega
        have HJ2 : Hid (numGo (n * 10 + d) (L.drop (j + 1)) = R) := by
          show _ = _
          rw [← HE, numGo, if_pos (by unfold isDg; simp; omega), hd]; rfl
        have hn2 : n * 10 + d < 10 ^ (j + 1) := by rw [Nat.pow_succ]; omega
        have e0 : (c.toNat : Int) = (d : Int) + 48 := by omega
        rw [e0] at k0 i1 i2
        have e1 : ((d : Int) + 48) - 48 = (d : Int) := by omega
        have e2 : IntKind.u8.wrap (d : Int) = (d : Int) := by rw [IntKind.wrap_u8]; omega
        have e3 : IntKind.i64.wrap ((n : Int) * 10) = (n : Int) * 10 := by rw [IntKind.wrap_i64]; omega
        have e4 : IntKind.i64.wrap ((n : Int) * 10 + (d : Int)) = (n : Int) * 10 + (d : Int) := by rw [IntKind.wrap_i64]; omega
        have e5 : IntKind.i64.wrap (d : Int) = (d : Int) := by rw [IntKind.wrap_i64]; omega
        clear HE HJ e0 hc0
        go_wp2
        go_round
        case rel => exact ⟨j + 1, n * 10 + d, by omega, by go_num, by first | rfl | go_num | simp, hn2, HJ2⟩
        case measure => simp [intOf] <;> omega
      · obtain rfl : j = s.size := by omega
        have hR : Hid (R = some n) := by
          show _ = _
          rw [← HJ.out, List.drop_eq_nil_of_le (by rw [HLn.out]; exact Nat.le_refl _)]; rfl
        clear HJ
        go_wp2
        go_ret2
        exact HSo.out n hR.out
set_option maxRecDepth 20000 in
set_option maxHeartbeats 4000000 in
theorem RNumber_any (s : ByteArray) (hs : s.size ≤ 100000) (w : World) :
    Calls Tryd.prog 38 #[.string s] w fun e w' => e = .returned (.int .i64 (optM (numP (bl s)))) ∧ w = w' := by
  obtain ⟨X, HX⟩ : ∃ X, Hid (numP (bl s) = X) := ⟨_, rfl⟩
  rw [HX.out]
  rcases Nat.eq_zero_or_pos s.size with h0 | h0
  · have hX : X = none := by rw [← HX.out, numP, if_pos (.inl (List.length_eq_zero_iff.1 (by rw [bl_len]; exact h0)))]
    subst hX
    have i0 : (s.size : Int) < 1 := by omega
    go_enter Tryd.func38, Tryd.ntmps38
    go_wp2
    go_ret
    exact ⟨rfl, rfl⟩
  by_cases h9 : 9 < s.size
  · have hX : X = none := by rw [← HX.out, numP, if_pos (.inr (.inl (by rw [bl_len]; exact h9)))]
    subst hX
    have i0 : ¬ (s.size : Int) < 1 := by omega
    have i9 : (9 : Int) < (s.size : Int) := by omega
    go_enter Tryd.func38, Tryd.ntmps38
    go_wp2
    go_ret
    exact ⟨rfl, rfl⟩
  have hd0 := bl_drop s h0
  rw [List.drop_zero] at hd0
  have i0 : decide ((s.size : Int) < 1) = false := by rw [decide_eq_false_iff_not]; omega
  have i9 : decide ((9 : Int) < (s.size : Int)) = false := by rw [decide_eq_false_iff_not]; omega
  by_cases h48 : s[0].toNat = 48 ∧ 1 < s.size
  · obtain ⟨h48, h1⟩ := h48
    have e48 : s[0] = 48 := UInt8.toNat_inj.1 (by rw [h48]; rfl)
    have hX : X = none := by rw [← HX.out, numP, if_pos (.inr (.inr ⟨by rw [bl_len]; exact h1, by rw [hd0, e48]; rfl⟩))]
    subst hX
    have i48 : (s[0].toNat : Int) = 48 := by omega
    have i1 : decide ((1 : Int) < (s.size : Int)) = true := by rw [decide_eq_true_eq]; omega
    clear hd0 e48
    go_enter Tryd.func38, Tryd.ntmps38
    go_wp2
    go_ret
    exact ⟨rfl, rfl⟩
  have hX : Hid (X = numGo 0 (bl s)) := by
    show _ = _
    rw [← HX.out, numP, if_neg ?_]
    rintro (h | h | ⟨h1, h2⟩)
    · rw [h] at hd0; cases hd0
    · rw [bl_len] at h; omega
    · rw [bl_len] at h1
      rw [hd0] at h2
      injection h2 with h2
      exact h48 ⟨by rw [h2]; rfl, h1⟩
  have HR : Hid (numGo 0 ((bl s).drop 0) = X) := by show _ = _; rw [hX.out, List.drop_zero]
  have HD : Hid (∀ j, (hj : j < s.size) → (bl s).drop j = s[j] :: (bl s).drop (j + 1)) := fun j hj => bl_drop s hj
  have HLn : Hid ((bl s).length = s.size) := bl_len s
  clear hX HX hd0
  generalize hBl : bl s = L at HR HD HLn
  clear hBl
  by_cases hz : 1 < s.size
  · have i1 : decide ((1 : Int) < (s.size : Int)) = true := by rw [decide_eq_true_eq]; omega
    have i48 : ((s[0].toNat : Int) == 48) = false := by
      rw [beq_eq_false_iff_ne]
      intro e
      exact h48 ⟨by omega, hz⟩
    clear h48 hz
    go_enter Tryd.func38, Tryd.ntmps38
    go_wp2_with fail
    go_loop [3, 4] (fun v3 v4 => ∃ j n : Nat, j ≤ s.size ∧ v4 = .int .i64 j ∧ v3 = .int .i64 n ∧ n < 10 ^ j ∧ Hid (numGo n (L.drop j) = X)) (fun _ v4 => s.size - (intOf v4).toNat)
    case atStart => exact ⟨0, 0, by omega, rfl, rfl, by decide, HR.out⟩
    case round =>
      clear HR
      obtain ⟨j, n, hj, rfl, rfl, hn, HJ⟩ := hrel
      have hn9 : n < 1000000000 := Nat.lt_of_lt_of_le hn (Nat.le_trans (Nat.pow_le_pow_right (by omega) (show j ≤ 9 by omega)) (by decide))
      by_cases hlt : j < s.size
      · have hd := HD.out j hlt
        have HE := HJ.out
        rw [hd] at HE
        have hc0 : s[j].toNat < 256 := UInt8.toNat_lt _
        clear hd
        by_cases h1 : s[j].toNat < 48
        · have i1 : (s[j].toNat : Int) < 48 := by omega
          have hR : Hid (X = none) := by show _ = _; rw [← HE, numGo, if_neg (by unfold isDg; simp; omega)]
          clear HE HJ
          go_wp2
          go_ret
          exact ⟨by rw [hR.out]; rfl, rfl⟩
        by_cases h2 : 57 < s[j].toNat
        · have i1 : ¬ (s[j].toNat : Int) < 48 := by omega
          have i2 : (57 : Int) < (s[j].toNat : Int) := by omega
          have hR : Hid (X = none) := by show _ = _; rw [← HE, numGo, if_neg (by unfold isDg; simp; omega)]
          clear HE HJ
          go_wp2
          go_ret
          exact ⟨by rw [hR.out]; rfl, rfl⟩
        have i1 : ¬ (s[j].toNat : Int) < 48 := by omega
        have i2 : ¬ (57 : Int) < (s[j].toNat : Int) := by omega
        obtain ⟨d, hd⟩ : ∃ d : Nat, s[j].toNat = d + 48 := ⟨s[j].toNat - 48, by omega⟩
        have hd9 : d ≤ 9 := by omega
        have HJ2 : Hid (numGo (n * 10 + d) (L.drop (j + 1)) = X) := by
          show _ = _
          rw [← HE, numGo, if_pos (by unfold isDg; simp; omega), hd]; rfl
        have hn2 : n * 10 + d < 10 ^ (j + 1) := by rw [Nat.pow_succ]; omega
        have e0 : (s[j].toNat : Int) - 48 = (d : Int) := by omega
        have e2 : IntKind.u8.wrap (d : Int) = (d : Int) := by rw [IntKind.wrap_u8]; omega
        have e3 : IntKind.i64.wrap (10 * (n : Int)) = 10 * (n : Int) := by rw [IntKind.wrap_i64]; omega
        have e4 : IntKind.i64.wrap (10 * (n : Int) + (d : Int)) = 10 * (n : Int) + (d : Int) := by rw [IntKind.wrap_i64]; omega
        have e5 : IntKind.i64.wrap (d : Int) = (d : Int) := by rw [IntKind.wrap_i64]; omega
        clear HE HJ
        go_wp2
        go_round
        case rel => exact ⟨j + 1, n * 10 + d, by omega, by go_num, by first | rfl | go_num | (congr 1; omega), hn2, HJ2⟩
        case measure => simp [intOf] <;> omega
      · obtain rfl : j = s.size := by omega
        have hR : Hid (X = some n) := by
          show _ = _
          rw [← HJ.out, List.drop_eq_nil_of_le (by rw [HLn.out]; exact Nat.le_refl _)]; rfl
        clear HJ
        go_wp2
        go_ret
        exact ⟨by rw [hR.out]; rfl, rfl⟩
  · have i1 : decide ((1 : Int) < (s.size : Int)) = false := by rw [decide_eq_false_iff_not]; omega
    clear h48 hz
    go_enter Tryd.func38, Tryd.ntmps38
    go_wp2_with fail
    go_loop [3, 4] (fun v3 v4 => ∃ j n : Nat, j ≤ s.size ∧ v4 = .int .i64 j ∧ v3 = .int .i64 n ∧ n < 10 ^ j ∧ Hid (numGo n (L.drop j) = X)) (fun _ v4 => s.size - (intOf v4).toNat)
    case atStart => exact ⟨0, 0, by omega, rfl, rfl, by decide, HR.out⟩
    case round =>
      clear HR
      obtain ⟨j, n, hj, rfl, rfl, hn, HJ⟩ := hrel
      have hn9 : n < 1000000000 := Nat.lt_of_lt_of_le hn (Nat.le_trans (Nat.pow_le_pow_right (by omega) (show j ≤ 9 by omega)) (by decide))
      by_cases hlt : j < s.size
      · have hd := HD.out j hlt
        have HE := HJ.out
        rw [hd] at HE
        have hc0 : s[j].toNat < 256 := UInt8.toNat_lt _
        clear hd
        by_cases h1 : s[j].toNat < 48
        · have i1 : (s[j].toNat : Int) < 48 := by omega
          have hR : Hid (X = none) := by show _ = _; rw [← HE, numGo, if_neg (by unfold isDg; simp; omega)]
          clear HE HJ
          go_wp2
          go_ret
          exact ⟨by rw [hR.out]; rfl, rfl⟩
        by_cases h2 : 57 < s[j].toNat
        · have i1 : ¬ (s[j].toNat : Int) < 48 := by omega
          have i2 : (57 : Int) < (s[j].toNat : Int) := by omega
          have hR : Hid (X = none) := by show _ = _; rw [← HE, numGo, if_neg (by unfold isDg; simp; omega)]
          clear HE HJ
          go_wp2
          go_ret
          exact ⟨by rw [hR.out]; rfl, rfl⟩
        have i1 : ¬ (s[j].toNat : Int) < 48 := by omega
        have i2 : ¬ (57 : Int) < (s[j].toNat : Int) := by omega
        obtain ⟨d, hd⟩ : ∃ d : Nat, s[j].toNat = d + 48 := ⟨s[j].toNat - 48, by omega⟩
        have hd9 : d ≤ 9 := by omega
        have HJ2 : Hid (numGo (n * 10 + d) (L.drop (j + 1)) = X) := by
          show _ = _
          rw [← HE, numGo, if_pos (by unfold isDg; simp; omega), hd]; rfl
        have hn2 : n * 10 + d < 10 ^ (j + 1) := by rw [Nat.pow_succ]; omega
        have e0 : (s[j].toNat : Int) - 48 = (d : Int) := by omega
        have e2 : IntKind.u8.wrap (d : Int) = (d : Int) := by rw [IntKind.wrap_u8]; omega
        have e3 : IntKind.i64.wrap (10 * (n : Int)) = 10 * (n : Int) := by rw [IntKind.wrap_i64]; omega
        have e4 : IntKind.i64.wrap (10 * (n : Int) + (d : Int)) = 10 * (n : Int) + (d : Int) := by rw [IntKind.wrap_i64]; omega
        have e5 : IntKind.i64.wrap (d : Int) = (d : Int) := by rw [IntKind.wrap_i64]; omega
        clear HE HJ
        go_wp2
        go_round
        case rel => exact ⟨j + 1, n * 10 + d, by omega, by go_num, by first | rfl | go_num | (congr 1; omega), hn2, HJ2⟩
        case measure => simp [intOf] <;> omega
      · obtain rfl : j = s.size := by omega
        have hR : Hid (X = some n) := by
          show _ = _
          rw [← HJ.out, List.drop_eq_nil_of_le (by rw [HLn.out]; exact Nat.le_refl _)]; rfl
        clear HJ
        go_wp2
        go_ret
        exact ⟨by rw [hR.out]; rfl, rfl⟩
end Go.Proofs.YtbhmgmbgplkkeaaDoor
