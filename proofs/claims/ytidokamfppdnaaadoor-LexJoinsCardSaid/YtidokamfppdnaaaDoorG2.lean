/- LexParts. -/
import Derived.Test.YtidokamfppdnaaaDoorG1
namespace Go.Proofs.YtidokamfppdnaaaDoor
open Go.RowKit
set_option linter.unusedSimpArgs false
set_option linter.unusedVariables false

theorem Lx.from {s : ByteArray} {hs : s.size ≤ 8192} {k : Nat} {e : Option (Nat × Int)} {L : List Tk} (h : Lx s hs k e L) :
    ∀ D Y T, L = D ++ Y :: T → skipB false ((bl s).drop k) = 0 → ∃ a : Nat, Y.a = (a : Int) ∧ k ≤ a ∧ a < s.size ∧ skipB false ((bl s).drop a) = 0 ∧ Lx s hs a e (Y :: T) := by
  induction h with
  | done k h => intro D Y T hL; simp at hL
  | bad k x h1 h2 h3 => intro D Y T hL; simp at hL
  | more k E X e L h1 h2 h3 h4 h5 h6 h7 ih =>
    intro D Y T hL h0
    obtain ⟨n, K, vt, vn, sy, n1, n2, _, _, hF⟩ := tk_ok s h1 hs h2
    rw [h3] at hF
    cases D with
    | nil =>
      obtain ⟨rfl, rfl⟩ := List.cons.inj hL
      exact ⟨k, by rw [hF], Nat.le_refl _, h1, h0, .more k E X e L h1 h2 h3 h4 h5 h6 h7⟩
    | cons Z D =>
      rw [List.cons_append] at hL
      obtain ⟨rfl, hL2⟩ := List.cons.inj hL
      obtain ⟨a, q1, q2, q3, q4, q5⟩ := ih D Y T hL2 (by rw [← List.drop_drop]; exact skipB_twice _ _)
      exact ⟨a, q1, by omega, q3, q4, q5⟩
theorem TRow.srow {w : World} {B : Nat} {v : Value} {L : List Tk} (h : TRow w B v L) : ∃ ao cap, v = .slice ao L.length cap ∧ SRow w ao L := by
  obtain ⟨ao, cap, hv, hc⟩ := h.any
  refine ⟨ao, cap, hv, fun j hj => ?_⟩
  obtain ⟨g, hg, hcc⟩ := hc j hj
  exact ⟨g, 0, hg, fun w' hk i hi => by rw [Nat.zero_add]; exact hcc w' hk i hi⟩
theorem SRow.no {w w' : World} {ao : Option Addr} {L : List Tk} (h : SRow w ao L) (hk : Kept No w w') : SRow w' ao L := fun j hj => by
  obtain ⟨g, o, hg, hc⟩ := h j hj
  exact ⟨g, o, hg, fun w'' hk' => hc w'' (hk.trans hk')⟩
theorem SRow.take {w : World} {g : Nat} {L : List Tk} (h : SRow w (some ⟨g, 0, none⟩) L) (k : Nat) : SRow w (some ⟨g, 0, none⟩) (L.take k) := fun j hj => by
  have hj' : j < L.length := by rw [List.length_take] at hj; omega
  obtain ⟨g', o, hg, hc⟩ := h j hj'
  refine ⟨g', o, hg, fun w' hk i hi => ?_⟩
  rw [hc w' hk i hi, List.getElem_take]
theorem SRow.drop {w : World} {g : Nat} {L : List Tk} (h : SRow w (some ⟨g, 0, none⟩) L) (k : Nat) : SRow w (some ⟨g, k * 7, none⟩) (L.drop k) := fun j hj => by
  rw [List.length_drop] at hj
  obtain ⟨g', o, hg, hc⟩ := h (k + j) (by omega)
  injection hg with hg
  injection hg with e1 e2
  subst e1 e2
  refine ⟨g, k * 7, rfl, fun w' hk i hi => ?_⟩
  have := hc w' hk i hi
  rw [List.getElem_drop, ← this]
  congr 2
  omega

set_option maxRecDepth 20000 in
set_option maxHeartbeats 2000000 in
theorem parts_err (s : ByteArray) (k : Int) (w : World) (he : ErrIs w) (hg : SgIs w) (at' x : Int) (hx : x ≠ 0)
    (hL : Calls Tryd.prog 13 #[.string s] w fun r w' => r = .returned (.tuple #[.slice none 0 0, .int .i64 at', .int .i64 x]) ∧ Kept No w w') :
    Calls Tryd.prog 7 #[.string s, .int .i64 k] w fun r w' => r = .returned (.bool true) ∧ Kept No w w' := by
  have HL : Hid (Calls Tryd.prog 13 #[.string s] w _) := hL
  have HA : Hid (∀ w', Kept No w w' → Calls Tryd.prog 8 #[] w' fun r w'' => r = .returned (.bool true) ∧ Kept No w' w'') := fun w' hk => alive_any w' (he.no hk) (hg.no hk)
  have HN : Hid (∀ (x : Int) w, Calls Tryd.prog 14 #[.int .i64 x] w fun e w' => e = .returned (.int .i64 x) ∧ w = w') := no_any
  clear hL he hg
  go_enter Tryd.func7, Tryd.ntmps7
  go_wp2_with fail
  refine Calls.mono HL.out ?_
  rintro e W1 ⟨rfl, hk1⟩
  have HK : Hid (Kept No w W1) := hk1
  clear hk1 HL
  go_wp2_with (go_at_call 14; refine Calls.mono (HN.out _ _) ?_; rintro e w' ⟨rfl, rfl⟩)
  refine Calls.mono (HA.out _ HK.out) ?_
  rintro e W2 ⟨rfl, hk2⟩
  have HK2 : Hid (Kept No w W2) := HK.out.trans hk2
  clear hk2 HK HA
  go_wp2_with fail
  go_ret
  exact ⟨rfl, HK2.out⟩

set_option maxRecDepth 20000 in
set_option maxHeartbeats 4000000 in
theorem parts_ok (s : ByteArray) (k : Int) (w : World) (he : ErrIs w) (hg : SgIs w) (hs : s.size ≤ 8192) {L : List Tk} (hL : Lx s hs (skipB false (bl s)) none L) :
    Calls Tryd.prog 7 #[.string s, .int .i64 k] w fun r w' => r = .returned (.bool true) ∧ Kept No w w' := by
  have HL : Hid (Calls Tryd.prog 13 #[.string s] w _) := Lex_is s w he hg hs hL
  have HA : Hid (∀ w', Kept No w w' → Calls Tryd.prog 8 #[] w' fun r w'' => r = .returned (.bool true) ∧ Kept No w' w'') := fun w' hk => alive_any w' (he.no hk) (hg.no hk)
  have HN : Hid (∀ (x : Int) w, Calls Tryd.prog 14 #[.int .i64 x] w fun e w' => e = .returned (.int .i64 x) ∧ w = w') := no_any
  have HEr : Hid (∀ w', Kept No w w' → ErrIs w' ∧ SgIs w') := fun w' hk => ⟨he.no hk, hg.no hk⟩
  have HLx : Hid (Lx s hs (skipB false (bl s)) none L) := hL
  have hlen : L.length ≤ 8192 := by have := hL.len; omega
  clear hL he hg
  go_enter Tryd.func7, Tryd.ntmps7
  go_wp2_with fail
  refine Calls.mono HL.out ?_
  rintro e W1 ⟨⟨v, rfl, hr⟩, hk1⟩
  have HK : Hid (Kept No w W1) := hk1
  clear hk1 HL
  by_cases hk0 : k < 0
  · obtain ⟨ao, cap, rfl, _⟩ := hr.srow
    clear hr HLx HEr
    have d1 : decide (k < 0) = true := decide_eq_true hk0
    go_wp2_with (go_at_call 14; refine Calls.mono (HN.out _ _) ?_; rintro e w' ⟨rfl, rfl⟩)
    refine Calls.mono (HA.out _ HK.out) ?_
    rintro e W2 ⟨rfl, hk2⟩
    have HK2 : Hid (Kept No w W2) := HK.out.trans hk2
    clear hk2 HK HA
    go_wp2_with fail
    go_ret
    exact ⟨rfl, HK2.out⟩
  · have d1 : decide (k < 0) = false := decide_eq_false hk0
    by_cases hkn : (L.length : Int) ≤ k
    · obtain ⟨ao, cap, rfl, _⟩ := hr.srow
      clear hr HLx HEr
      have d2 : decide ((L.length : Int) ≤ k) = true := decide_eq_true hkn
      go_wp2_with (go_at_call 14; refine Calls.mono (HN.out _ _) ?_; rintro e w' ⟨rfl, rfl⟩)
      refine Calls.mono (HA.out _ HK.out) ?_
      rintro e W2 ⟨rfl, hk2⟩
      have HK2 : Hid (Kept No w W2) := HK.out.trans hk2
      clear hk2 HK HA
      go_wp2_with fail
      go_ret
      exact ⟨rfl, HK2.out⟩
    · have d2 : decide ((L.length : Int) ≤ k) = false := decide_eq_false hkn
      obtain ⟨j, rfl⟩ : ∃ j : Nat, k = (j : Int) := ⟨k.toNat, by omega⟩
      have hj : j < L.length := by omega
      obtain ⟨g, cap, rfl, hcap, _, _, hcell⟩ := hr.form (by omega)
      obtain ⟨ao, cap', hv, hsr⟩ := hr.srow
      have hsr' : SRow W1 (some ⟨g, 0, none⟩) L := by injection hv with e1 e2 e3; rw [← e1] at hsr; exact hsr
      have hspl : L = L.take j ++ L[j] :: L.drop (j + 1) := by rw [← List.drop_eq_getElem_cons hj, List.take_append_drop]
      obtain ⟨a, p1, p2, p3, p4, p5⟩ := HLx.out.from _ _ _ hspl (skipB_twice _ _)
      have hz1 : (s.extract 0 a).size ≤ 8192 := by rw [ByteArray.size_extract]; omega
      have hz2 : (s.extract a s.size).size ≤ 8192 := by rw [ByteArray.size_extract]; omega
      have hpre := HLx.out.pre a (by omega) hz1 rfl _ _ _ hspl p1
      have hsk1 : skipB false (bl (s.extract 0 a)) = skipB false (bl s) := by rw [bl_ext, List.drop_zero]; exact skipB_take _ _ _ p2
      rw [← hsk1] at hpre
      have hsuf := p5.suf a (by omega) hz2 rfl 0 (by omega)
      have hsk2 : skipB false (bl (s.extract a s.size)) = 0 := by rw [bl_from]; exact p4
      rw [← List.drop_eq_getElem_cons hj] at hsuf
      have hsuf' : Lx (s.extract a s.size) hz2 (skipB false (bl (s.extract a s.size))) none ((L.drop j).map (sh a)) := by rw [hsk2]; exact hsuf
      have ca : W1.cell? ⟨g, j * 7 + 5, none⟩ = some (.int .i64 (a : Int)) := by
        rw [hcell _ (by omega), fl_at L j hj 5 (by omega), ← p1]; rfl
      have HS : Hid (SRow W1 (some ⟨g, 0, none⟩) L) := hsr'
      have HP : Hid (Lx (s.extract 0 a) hz1 (skipB false (bl (s.extract 0 a))) none (L.take j) ∧ Lx (s.extract a s.size) hz2 (skipB false (bl (s.extract a s.size))) none ((L.drop j).map (sh a))) := ⟨hpre, hsuf'⟩
      have lt : (j : Int) < (L.length : Int) := by omega
      have e1 : (a : Int) ≤ (s.size : Int) := by omega
      clear hr hv hsr hsr' hcell hspl p1 p2 p4 p5 hpre hsk1 hsuf hsk2 hsuf' HLx
      go_wp2_with (go_at_call 14; refine Calls.mono (HN.out _ _) ?_; rintro e w' ⟨rfl, rfl⟩)
      refine Calls.mono (Lex_is (s.extract 0 a) W1 (HEr.out _ HK.out).1 (HEr.out _ HK.out).2 hz1 HP.out.1) ?_
      rintro e W2 ⟨⟨v1, rfl, hr1⟩, hk2⟩
      obtain ⟨ao1, cap1, rfl, hs1⟩ := hr1.srow
      have ca2 := cell_kept ca hk2
      have HK2 : Hid (Kept No w W2 ∧ SRow W2 (some ⟨g, 0, none⟩) L ∧ SRow W2 ao1 (L.take j)) := ⟨HK.out.trans hk2, HS.out.no hk2, hs1⟩
      have hlt1 : (L.take j).length = j := by rw [List.length_take]; omega
      rw [hlt1]
      clear hr1 hk2 hs1 ca HK HS
      go_wp2_with fail
      refine Calls.mono (Lex_is (s.extract a s.size) W2 (HEr.out _ HK2.out.1).1 (HEr.out _ HK2.out.1).2 hz2 HP.out.2) ?_
      rintro e W3 ⟨⟨v2, rfl, hr2⟩, hk3⟩
      obtain ⟨ao2, cap2, rfl, hs2⟩ := hr2.srow
      have HK3 : Hid (Kept No w W3 ∧ SRow W3 (some ⟨g, 0, none⟩) L ∧ SRow W3 ao1 (L.take j) ∧ SRow W3 ao2 ((L.drop j).map (sh a))) := ⟨HK2.out.1.trans hk3, HK2.out.2.1.no hk3, HK2.out.2.2.no hk3, hs2⟩
      have hlt2 : ((L.drop j).map (sh a)).length = L.length - j := by simp
      have hlt3 : (L.drop j).length = L.length - j := by simp
      rw [hlt2]
      have S1 : Hid (∀ C, Calls Tryd.prog 16 #[.slice ao1 j cap1, .slice (some ⟨g, 0, none⟩) j C, .bool true] W3 fun r w' => r = .returned (.bool true) ∧ Kept No W3 w') := fun C => by
        have := Same_true HK3.out.2.2.1 (HK3.out.2.1.take j) rfl (by omega) cap1 C true (fun _ _ _ => rfl)
        rw [hlt1] at this
        exact this
      have S2 : Hid (∀ C w', Kept No W3 w' → Calls Tryd.prog 16 #[.slice ao2 (L.length - j) cap2, .slice (some ⟨g, j * 7, none⟩) (L.length - j) C, .bool false] w' fun r w'' => r = .returned (.bool true) ∧ Kept No w' w'') := fun C w' hk => by
        have := Same_true (HK3.out.2.2.2.no hk) ((HK3.out.2.1.drop j).no hk) (by rw [hlt2, hlt3]) (by omega) cap2 C false (fun i h1 h2 => by
          rw [if_neg (by decide), List.getElem_map]
          rfl)
        rw [hlt2, hlt3] at this
        exact this
      have HK4 : Hid (Kept No w W3) := HK3.out.1
      clear hr2 hk3 hs2 ca2 HK2 HK3 HP hlt1 hlt2 hlt3 HEr
      have u1 : (j : Int) ≤ (cap : Int) := by omega
      have u2 : (j : Int) ≤ (L.length : Int) := by omega
      have u3 : cap - j ≠ 0 := by omega
      have u4 : ¬ cap ≤ j := by omega
      go_wp2_with (first | (go_at_call 14; refine Calls.mono (HN.out _ _) ?_; rintro e w' ⟨rfl, rfl⟩) | fail)
      refine Calls.mono (S1.out _) ?_
      rintro e W4 ⟨rfl, hk4⟩
      have HS2 : Hid (∀ C, Calls Tryd.prog 16 #[.slice ao2 (L.length - j) cap2, .slice (some ⟨g, j * 7, none⟩) (L.length - j) C, .bool false] W4 fun r w'' => r = .returned (.bool true) ∧ Kept No W4 w'') := fun C => S2.out C W4 hk4
      have HK5 : Hid (Kept No w W4) := HK4.out.trans hk4
      clear hk4 HK4 S1 S2
      go_wp2_with fail
      refine Calls.mono (HS2.out _) ?_
      rintro e W5 ⟨rfl, hk5⟩
      have HK6 : Hid (Kept No w W5) := HK5.out.trans hk5
      clear hk5 HK5 HS2
      go_wp2_with fail
      refine Calls.mono (HA.out _ HK6.out) ?_
      rintro e W6 ⟨rfl, hk6⟩
      have HK7 : Hid (Kept No w W6) := HK6.out.trans hk6
      clear hk6 HK6 HA
      go_wp2_with fail
      go_ret
      exact ⟨rfl, HK7.out⟩

theorem LexParts_any (s : ByteArray) (k : Int) (w : World) (hz : s.size ≤ 140737488351232) (he : ErrIs w) (hg : SgIs w) :
    Calls Tryd.prog 7 #[.string s, .int .i64 k] w fun r w' => r = .returned (.bool true) ∧ Kept No w w' := by
  by_cases hs : s.size ≤ 8192
  · obtain ⟨e, L, hL⟩ := Lx.all s hs _ (skipB false (bl s)) (Nat.le_refl _)
    cases e with
    | none => exact parts_ok s k w he hg hs hL
    | some p =>
      obtain ⟨a, x⟩ := p
      exact parts_err s k w he hg a x (hL.err a x rfl).2 (Lex_is s w he hg hs hL)
  · exact parts_err s k w he hg 0 3 (by decide) (Lex_long s w hs)
end Go.Proofs.YtidokamfppdnaaaDoor
