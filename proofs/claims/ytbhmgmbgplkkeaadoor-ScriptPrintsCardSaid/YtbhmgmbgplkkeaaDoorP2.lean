/- Texts cut; the number behind a word. -/
import Derived.Test.YtbhmgmbgplkkeaaDoorP1
import Derived.Test.YtbhmgmbgplkkeaaDoorM2
import Derived.Test.YtbhmgmbgplkkeaaDoorQ0
import Derived.StillTail
import Derived.Deep.RegionHeld3
namespace Go.Proofs.YtbhmgmbgplkkeaaDoor
open Go.RowKit
set_option linter.unusedSimpArgs false
set_option linter.unusedVariables false

theorem mixed2 : Tryd.prog.follows .mixedOrders = true := by kernel_rfl
abbrev mk (l : List UInt8) : ByteArray := ⟨l.toArray⟩
theorem mk_size (l : List UInt8) : (mk l).size = l.length := by simp [mk, ByteArray.size]
theorem bl_ext (s : ByteArray) (i j : Nat) : bl (s.extract i j) = ((bl s).take j).drop i := by
  rw [bl, Lib.extract_data]; first | rfl | (rw [List.drop_take]) | simp
theorem mk_from (s : ByteArray) (i : Nat) : s.extract i s.size = mk ((bl s).drop i) :=
  bl_inj ((bl_ext s i s.size).trans (by rw [bl_mk, List.take_of_length_le (by rw [bl_len]; exact Nat.le_refl _)]))
theorem mk_to (s : ByteArray) (i : Nat) : s.extract 0 i = mk ((bl s).take i) :=
  bl_inj ((bl_ext s 0 i).trans (by rw [bl_mk, List.drop_zero]))

/-- Some int lies in the library's variable. -/
def MaxIs (w : World) : Prop := ∃ m, w.cell? ⟨1, 0, none⟩ = some (.int .i64 m)
theorem cell_kept {w w' : World} {b o : Nat} {v : Value} (h : w.cell? ⟨b, o, none⟩ = some v) (hk : Kept No w w') : w'.cell? ⟨b, o, none⟩ = some v := by
  cases hb : w.heap[b]? with
  | none => simp [World.cell?, hb] at h
  | some o' => rw [← h]; simp [World.cell?, hb, hk.heap hb id]
theorem MaxIs.no {w w' : World} (h : MaxIs w) (hk : Kept No w w') : MaxIs w' := h.imp fun _ h => cell_kept h hk

/-- What a cut tells. -/
def cA (l : List UInt8) (o : Option (List UInt8 × List UInt8)) : ByteArray := match o with | some p => mk p.1 | none => mk l
def cB (o : Option (List UInt8 × List UInt8)) : ByteArray := match o with | some p => mk p.2 | none => mk []
theorem Cut_any (s sep : ByteArray) (hs : s.size < 4294967281) (h0 : bl sep ≠ []) (w : World) (hm : MaxIs w) :
    Calls Tryd.prog 37 #[.string s, .string sep] w fun e w' => e = .returned (.tuple #[.string (cA (bl s) (cutO (bl sep) (bl s))), .string (cB (cutO (bl sep) (bl s))), .bool (cutO (bl sep) (bl s)).isSome]) ∧ Kept No w w' := by
  obtain ⟨m, hm⟩ := hm
  refine (Tryd.strings_Cut s sep m w hs hm).mono ?_
  rintro e w' ⟨rfl, n, rfl⟩
  refine ⟨?_, (Kept.refl _ _).drewN n⟩
  rw [show s.data.toList = bl s from rfl, show sep.data.toList = bl sep from rfl, cut_is _ _ h0]
  cases cutO (bl sep) (bl s) <;> rfl

theorem cut1_step (c d : UInt8) (l : List UInt8) : cutO [c] (d :: l) = if d = c then some ([], l) else (cutO [c] l).map fun p => (d :: p.1, p.2) := by
  rw [cutO]
  by_cases h : d = c
  · subst h; simp
  · have hb : (c == d) = false := by rw [beq_eq_false_iff_ne]; exact fun e => h e.symm
    simp only [List.isPrefixOf, hb, Bool.false_and, Bool.false_eq_true, if_false, if_neg h]
set_option maxRecDepth 20000 in
set_option maxHeartbeats 2000000 in
theorem RCut_any (s : ByteArray) (c : UInt8) (hs : s.size ≤ 1000000) (w : World) :
    Calls Tryd.prog 23 #[.string s, .int .u8 (c.toNat : Int)] w fun e w' => e = .returned (.tuple #[.string (cA (bl s) (cutO [c] (bl s))), .string (cB (cutO [c] (bl s))), .bool (cutO [c] (bl s)).isSome]) ∧ Kept No w w' := by
  obtain ⟨X, HX⟩ : ∃ X, Hid (cutO [c] (bl s) = X) := ⟨_, rfl⟩
  rw [HX.out]
  have HI : Hid ((cutO [c] ((bl s).drop 0)).map (fun p => ((bl s).take 0 ++ p.1, p.2)) = X) := by
    show _ = _
    rw [← HX.out, List.drop_zero, List.take_zero]
    cases cutO [c] (bl s) <;> rfl
  clear HX
  go_enter Tryd.func23, Tryd.ntmps23
  go_wp2_with fail
  go_loop [7] (fun i => ∃ j : Nat, j ≤ s.size ∧ i = .int .i64 j ∧ Hid ((cutO [c] ((bl s).drop j)).map (fun p => ((bl s).take j ++ p.1, p.2)) = X)) (fun i => s.size - (intOf i).toNat)
  case atStart => exact ⟨0, by omega, rfl, HI.out⟩
  case round =>
    clear HI
    obtain ⟨j, hj, rfl, HJ⟩ := hrel
    by_cases hlt : j < s.size
    · have hd := bl_drop s hlt
      have HE := HJ.out
      rw [hd, cut1_step] at HE
      have HTk : Hid ((bl s).take (j + 1) = (bl s).take j ++ [s[j]]) := by
        show _ = _
        rw [List.take_succ_eq_append_getElem (by rw [bl_len]; exact hlt), bl_at s hlt]
      by_cases h1 : s[j] = c
      · have i1 : ((s[j].toNat : Int) == (c.toNat : Int)) = true := by rw [h1]; simp
        rw [if_pos h1] at HE
        have hX : X = some ((bl s).take j, (bl s).drop (j + 1)) := by rw [← HE]; simp
        subst hX
        have e1 : s.extract 0 j = mk ((bl s).take j) := mk_to s j
        have e2 : s.extract (j + 1) s.size = mk ((bl s).drop (j + 1)) := mk_from s (j + 1)
        have j1 : (j : Int) ≤ (s.size : Int) := by omega
        have j2 : (j : Int) + 1 ≤ (s.size : Int) := by omega
        clear HE HJ hd h1
        go_wp2_with fail
        go_quiet (fail)
        go_wp2
        go_ret3
        exact ⟨by simp [cA, cB, e1, e2], (Kept.refl _ _).drewN _⟩
      · have i1 : ((s[j].toNat : Int) == (c.toNat : Int)) = false := by
          rw [beq_eq_false_iff_ne]
          exact fun e => h1 (UInt8.toNat_inj.1 (by omega))
        rw [if_neg h1] at HE
        have HJ2 : Hid ((cutO [c] ((bl s).drop (j + 1))).map (fun p => ((bl s).take (j + 1) ++ p.1, p.2)) = X) := by
          show _ = _
          rw [← HE, Option.map_map, HTk.out]
          congr 1
          funext p
          simp
        clear HE HJ hd h1
        go_wp2
        go_round
        case rel => exact ⟨j + 1, by omega, by go_num, HJ2⟩
        case measure => simp [intOf] <;> omega
    · obtain rfl : j = s.size := by omega
      have hX : X = none := by
        rw [← HJ.out, List.drop_eq_nil_of_le (by rw [bl_len]; exact Nat.le_refl _)]; rfl
      subst hX
      have e1 : cA (bl s) none = s := mk_bl s
      clear HJ
      go_wp2
      go_ret3
      exact ⟨by first | rfl | (rw [e1]; rfl), Kept.refl _ _⟩

set_option maxRecDepth 20000 in
set_option maxHeartbeats 2000000 in
theorem behind_any (wd s : ByteArray) (hs : s.size ≤ 100000) (hwd : wd.size ≤ 1000) (w : World) :
    Calls Tryd.prog 46 #[.string wd, .string s] w fun e w' => e = .returned (.tuple #[.int .i64 (optI (afterF (bl wd) (bl s))), .bool (afterF (bl wd) (bl s)).isSome]) ∧ Kept No w w' := by
  have HC : Hid (∀ w, Calls Tryd.prog 51 #[.string s, .string (wd ++ ⟨#[32]⟩)] w fun e w' => e = .returned (.tuple #[.string (mk (Lib.trimPrefix (bl s) (bl wd ++ [32]))), .bool (Lib.hasPrefix (bl s) (bl wd ++ [32]))]) ∧ w' = w) := fun w => by
    have := Tryd.strings_CutPrefix s (wd ++ ⟨#[32]⟩) w
    have e : (wd ++ (⟨#[32]⟩ : ByteArray)).data.toList = bl wd ++ [32] := by simp [bl]
    rw [e] at this
    exact this
  cases hp : Lib.hasPrefix (bl s) (bl wd ++ [32]) with
  | true =>
    have ha : afterF (bl wd) (bl s) = numP ((bl s).drop ((bl wd).length + 1)) := by unfold afterF; rw [if_pos hp]
    have ht : Lib.trimPrefix (bl s) (bl wd ++ [32]) = (bl s).drop ((bl wd).length + 1) := by unfold Lib.trimPrefix; rw [if_pos hp]; simp
    rw [hp, ht] at HC
    rw [ha]
    have HN : Hid (∀ w, Calls Tryd.prog 52 #[.string (mk ((bl s).drop ((bl wd).length + 1)))] w fun e w' => e = .returned (.tuple #[.int .i64 (numI ((bl s).drop ((bl wd).length + 1))), .bool (numB ((bl s).drop ((bl wd).length + 1)))]) ∧ Kept No w w') := fun w => by
      have := number_any (mk ((bl s).drop ((bl wd).length + 1))) (by rw [mk_size, List.length_drop, bl_len]; omega) w
      rw [bl_mk] at this
      exact this
    generalize (bl s).drop ((bl wd).length + 1) = L at HC HN
    clear ha ht hp
    go_enter Tryd.func46, Tryd.ntmps46
    go_wp2_with (first | (go_at_call 51; refine Calls.mono (HC.out _) ?_; rintro e w' ⟨rfl, rfl⟩) | (go_at_call 52; refine Calls.mono (HN.out _) ?_; rintro e w1 ⟨rfl, hk⟩))
    go_ret2
    exact ⟨rfl, hk⟩
  | false =>
    have ha : afterF (bl wd) (bl s) = none := by unfold afterF; rw [if_neg (by rw [hp]; decide)]
    rw [hp] at HC
    rw [ha]
    clear ha hp
    go_enter Tryd.func46, Tryd.ntmps46
    go_wp2_with (first | (go_at_call 51; refine Calls.mono (HC.out _) ?_; rintro e w' ⟨rfl, rfl⟩))
    go_ret2
    exact ⟨rfl, Kept.refl _ _⟩
end Go.Proofs.YtbhmgmbgplkkeaaDoor
