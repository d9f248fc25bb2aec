/- LexAgain. -/
import Derived.Test.YtidokamfppdnaaaDoorJ2
namespace Go.Proofs.YtidokamfppdnaaaDoor
open Go.RowKit
set_option linter.unusedSimpArgs false
set_option linter.unusedVariables false

theorem Lx.tot {s : ByteArray} {hs : s.size ≤ 8192} {k : Nat} {e : Option (Nat × Int)} {L : List Tk} (h : Lx s hs k e L) : _root_.Go.Proofs.YtidokamfppdnaaaDoor.tot L ≤ 2 * (s.size - k) := by
  induction h with
  | done k h => simp [_root_.Go.Proofs.YtidokamfppdnaaaDoor.tot]
  | bad k x h1 h2 h3 => simp [_root_.Go.Proofs.YtidokamfppdnaaaDoor.tot]
  | more k E X e L h1 h2 h3 h4 h5 h6 h7 ih =>
    obtain ⟨n, K, vt, vn, sy, n1, n2, _, _, hF⟩ := tk_ok s h1 hs h2
    rw [h3] at hF
    have hE : E = k + n := by
      have : X.e = ((k + n : Nat) : Int) := by rw [hF]
      omega
    have hz : X.t.size = n := by rw [hF]; show (s.extract k (k + n)).size = n; rw [ByteArray.size_extract]; omega
    have e : _root_.Go.Proofs.YtidokamfppdnaaaDoor.tot (X :: L) = X.t.size + 1 + _root_.Go.Proofs.YtidokamfppdnaaaDoor.tot L := by simp [_root_.Go.Proofs.YtidokamfppdnaaaDoor.tot]
    rw [e, hz]
    omega
theorem np_at {A B : List Tk} (h : B.map np = A.map np) : A.length = B.length ∧ ∀ j (h1 : j < A.length) (h2 : j < B.length), if false then A[j] = B[j] else np A[j] = np B[j] := by
  have hl : A.length = B.length := by have := congrArg List.length h; simpa using this.symm
  refine ⟨hl, fun j h1 h2 => ?_⟩
  rw [if_neg (by decide)]
  have := congrArg (fun l => l[j]?) h
  simp only [List.getElem?_map, List.getElem?_eq_getElem h1, List.getElem?_eq_getElem h2, Option.map_some] at this
  exact (Option.some.inj this).symm
theorem bl_mk (l : List UInt8) : bl (⟨l.toArray⟩ : ByteArray) = l := by simp [bl]

set_option maxRecDepth 20000 in
set_option maxHeartbeats 2000000 in
theorem again_err (s : ByteArray) (w : World) (he : ErrIs w) (hg : SgIs w) (at' x : Int) (hx : x ≠ 0)
    (hL : Calls Tryd.prog 13 #[.string s] w fun r w' => r = .returned (.tuple #[.slice none 0 0, .int .i64 at', .int .i64 x]) ∧ Kept No w w') :
    Calls Tryd.prog 5 #[.string s] w fun r w' => r = .returned (.bool true) ∧ Kept No w w' := by
  have HL : Hid (Calls Tryd.prog 13 #[.string s] w _) := hL
  have HA : Hid (∀ w', Kept No w w' → Calls Tryd.prog 8 #[] w' fun r w'' => r = .returned (.bool true) ∧ Kept No w' w'') := fun w' hk => alive_any w' (he.no hk) (hg.no hk)
  have HN : Hid (∀ (x : Int) w, Calls Tryd.prog 14 #[.int .i64 x] w fun e w' => e = .returned (.int .i64 x) ∧ w = w') := no_any
  clear hL he hg
  go_enter Tryd.func5, Tryd.ntmps5
  go_wp2_with fail
  refine Calls.mono HL.out ?_
  rintro e W1 ⟨rfl, hk1⟩
  have HK : Hid (Kept No w W1) := hk1
  clear hk1 HL
  go_wp2_with (go_at_call 14; refine Calls.mono (HN.out _ _) ?_; rintro e w' ⟨rfl, rfl⟩)
  refine Calls.mono (HA.out _ HK.out) ?_
  rintro e W2 ⟨rfl, hk2⟩
  have HK2 : Hid (Kept No w W2) := HK.out.trans hk2
  clear hk2 HK HA
  go_wp2_with fail
  go_ret
  exact ⟨rfl, HK2.out⟩

set_option maxRecDepth 20000 in
set_option maxHeartbeats 4000000 in
theorem again_ok (s : ByteArray) (w : World) (he : ErrIs w) (hg : SgIs w) (hs : s.size ≤ 8192) {L : List Tk} (hL : Lx s hs (skipB false (bl s)) none L) :
    Calls Tryd.prog 5 #[.string s] w fun r w' => r = .returned (.bool true) ∧ Kept No w w' := by
  have HL : Hid (Calls Tryd.prog 13 #[.string s] w _) := Lex_is s w he hg hs hL
  have HA : Hid (∀ w', Kept No w w' → Calls Tryd.prog 8 #[] w' fun r w'' => r = .returned (.bool true) ∧ Kept No w' w'') := fun w' hk => alive_any w' (he.no hk) (hg.no hk)
  have HN : Hid (∀ (x : Int) w, Calls Tryd.prog 14 #[.int .i64 x] w fun e w' => e = .returned (.int .i64 x) ∧ w = w') := no_any
  have HEr : Hid (∀ w', Kept No w w' → ErrIs w' ∧ SgIs w') := fun w' hk => ⟨he.no hk, hg.no hk⟩
  have hlen : L.length ≤ 8192 := by have := hL.len; omega
  have htot : tot L ≤ 10000000 := by have := hL.tot; omega
  have hC := hL.cutd (skipB_twice _ _)
  obtain ⟨J, HJ⟩ : ∃ J : ByteArray, Hid ((⟨(jB L).toArray⟩ : ByteArray) = J) := ⟨_, show _ = _ from rfl⟩
  have hJ : bl J = jB L := by rw [← HJ.out, bl_mk]
  clear hL he hg
  go_enter Tryd.func5, Tryd.ntmps5
  go_wp2_with fail
  refine Calls.mono HL.out ?_
  rintro e W1 ⟨⟨v, rfl, hr⟩, hk1⟩
  have HK : Hid (Kept No w W1) := hk1
  clear hk1 HL
  obtain ⟨ao, cap, rfl, hs0⟩ := hr.srow
  have HS : Hid (SRow W1 ao L) := hs0
  clear hr hs0
  go_wp2_with (go_at_call 14; refine Calls.mono (HN.out _ _) ?_; rintro e w' ⟨rfl, rfl⟩)
  refine Calls.mono (Join_any HS.out (by omega) htot cap) ?_
  rintro e W2 ⟨rfl, hk2⟩
  rw [HJ.out]
  have HK2 : Hid (Kept No w W2 ∧ SRow W2 ao L) := ⟨HK.out.trans hk2, HS.out.no hk2⟩
  clear hk2 HK HS HJ
  by_cases hz : J.size ≤ 8192
  · obtain ⟨L', hL', hm⟩ := again_lx hC J hz hJ
    obtain ⟨q1, q2⟩ := np_at hm
    have HQ : Hid (L.length = L'.length ∧ ∀ j (h1 : j < L.length) (h2 : j < L'.length), if false then L[j] = L'[j] else np L[j] = np L'[j]) := ⟨q1, q2⟩
    have d1 : decide ((8192 : Int) < (J.size : Int)) = false := decide_eq_false (by omega)
    clear q1 q2 hm hJ hC
    have HLx : Hid (Lx J hz (skipB false (bl J)) none L') := hL'
    clear hL'
    go_wp2_with fail
    refine Calls.mono (Lex_is J W2 (HEr.out _ HK2.out.1).1 (HEr.out _ HK2.out.1).2 hz HLx.out) ?_
    rintro e W3 ⟨⟨v2, rfl, hr2⟩, hk3⟩
    obtain ⟨ao2, cap2, rfl, hs2⟩ := hr2.srow
    have HK3 : Hid (Kept No w W3) := HK2.out.1.trans hk3
    have S1 : Hid (Calls Tryd.prog 16 #[.slice ao L.length cap, .slice ao2 L'.length cap2, .bool false] W3 fun r w' => r = .returned (.bool true) ∧ Kept No W3 w') :=
      Same_true (HK2.out.2.no hk3) hs2 HQ.out.1 (by omega) cap cap2 false HQ.out.2
    clear hr2 hk3 hs2 HK2 HQ HLx HEr
    go_wp2_with (first | (go_at_call 14; refine Calls.mono (HN.out _ _) ?_; rintro e w' ⟨rfl, rfl⟩) | fail)
    refine Calls.mono S1.out ?_
    rintro e W4 ⟨rfl, hk4⟩
    have HK5 : Hid (Kept No w W4) := HK3.out.trans hk4
    clear hk4 HK3 S1
    go_wp2_with fail
    refine Calls.mono (HA.out _ HK5.out) ?_
    rintro e W5 ⟨rfl, hk5⟩
    have HK6 : Hid (Kept No w W5) := HK5.out.trans hk5
    clear hk5 HK5 HA
    go_wp2_with fail
    go_ret
    exact ⟨rfl, HK6.out⟩
  · have d1 : decide ((8192 : Int) < (J.size : Int)) = true := decide_eq_true (by omega)
    clear hC hJ HEr
    go_wp2_with fail
    refine Calls.mono (Lex_long J W2 hz) ?_
    rintro e W3 ⟨rfl, hk3⟩
    have HK3 : Hid (Kept No w W3) := HK2.out.1.trans hk3
    clear hk3 HK2
    go_wp2_with (first | (go_at_call 14; refine Calls.mono (HN.out _ _) ?_; rintro e w' ⟨rfl, rfl⟩) | fail)
    refine Calls.mono (HA.out _ HK3.out) ?_
    rintro e W5 ⟨rfl, hk5⟩
    have HK6 : Hid (Kept No w W5) := HK3.out.trans hk5
    clear hk5 HK3 HA
    go_wp2_with fail
    go_ret
    exact ⟨rfl, HK6.out⟩

theorem LexAgain_any (s : ByteArray) (w : World) (hz : s.size ≤ 140737488351232) (he : ErrIs w) (hg : SgIs w) :
    Calls Tryd.prog 5 #[.string s] w fun r w' => r = .returned (.bool true) ∧ Kept No w w' := by
  by_cases hs : s.size ≤ 8192
  · obtain ⟨e, L, hL⟩ := Lx.all s hs _ (skipB false (bl s)) (Nat.le_refl _)
    cases e with
    | none => exact again_ok s w he hg hs hL
    | some p =>
      obtain ⟨a, x⟩ := p
      exact again_err s w he hg a x (hL.err a x rfl).2 (Lex_is s w he hg hs hL)
  · exact again_err s w he hg 0 3 (by decide) (Lex_long s w hs)
end Go.Proofs.YtidokamfppdnaaaDoor
