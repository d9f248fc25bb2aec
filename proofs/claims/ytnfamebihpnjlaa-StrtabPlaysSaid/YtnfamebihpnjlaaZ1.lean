/- StrtabGone. -/
import Derived.Test.YtnfamebihpnjlaaZ0
namespace Go.Proofs.Ytnfamebihpnjlaa
open Go.RowKit
set_option linter.unusedVariables false
set_option linter.unusedSimpArgs false

theorem Tab.short {w0 w : World} {A b : Nat} {C : Ct} (h : Tab w0 w A b C) : C.length ≤ b := by
  obtain ⟨p, n, L, hp, hR, hI, hc⟩ := h
  have : L.length = C.length := by rw [← hc.length_eq]; simp [ct]
  have := hR.le
  omega
theorem mem_less {C : Ct} {x : Int} {y : Int × ByteArray} : y ∈ C.filter (fun e => e.1 != x) ↔ y ∈ C ∧ y.1 ≠ x := by
  rw [List.mem_filter]; simp

/-- What is found behind a drop. -/
theorem gone_find {C : Ct} (g : GoodC C) {h : Int} {was s : ByteArray} (hm : (h, was) ∈ C) (hs : s ≠ was) {o1 o2 : Option Int} (h1 : ∀ x, o1 = some x ↔ (x, s) ∈ C.filter (fun e => e.1 != h)) (h2 : ∀ x, o2 = some x ↔ (x, s) ∈ C) : o1 = o2 := by
  have key : ∀ x, o1 = some x ↔ o2 = some x := fun x => by
    rw [h1, h2, mem_less]
    constructor
    · exact fun h => h.1
    · intro h3
      refine ⟨h3, fun e => ?_⟩
      dsimp only at e
      subst e
      exact hs (g.same_h h3 hm)
  cases o1 with
  | none =>
    cases o2 with
    | none => rfl
    | some y => exact (key y).2 rfl
  | some x => exact ((key x).1 rfl).symm
theorem gone_was {C : Ct} (g : GoodC C) {h : Int} {was : ByteArray} (hm : (h, was) ∈ C) {o : Option Int} (h1 : ∀ x, o = some x ↔ (x, was) ∈ C.filter (fun e => e.1 != h)) : o = none := by
  cases o with
  | none => rfl
  | some x =>
    have := (mem_less.1 ((h1 x).1 rfl))
    exact absurd (g.same_s this.1 hm) this.2
theorem gone_text {C : Ct} {h : Int} {o : Option ByteArray} (h1 : ∀ t, o = some t ↔ (h, t) ∈ C.filter (fun e => e.1 != h)) : o = none := by
  cases o with
  | none => rfl
  | some t => exact absurd rfl (mem_less.1 ((h1 t).1 rfl)).2
theorem gone_has {C : Ct} {h : Int} {s : ByteArray} : hasC (C.filter (fun e => e.1 != h)) s h ↔ ∃ x, (x, s) ∈ C.filter (fun e => e.1 != h) := by
  constructor
  · rintro ⟨⟨x, t⟩, he, h1 | h1⟩
    · exact absurd h1 (mem_less.1 he).2
    · dsimp only at h1; subst h1; exact ⟨x, he⟩
  · rintro ⟨x, hx⟩; exact ⟨_, hx, Or.inr rfl⟩

set_option maxRecDepth 20000 in
set_option maxHeartbeats 2000000 in
theorem StrtabGone_any (v : Value) (L : List Ac) (h : Int) (s : ByteArray) (w : World) (hL : Acts w v L) (hw : wf h) (hs : s.size ≤ maxLen) : Calls Try.prog 7 #[v, .int .i64 h, .string s] w fun e w' => e = .returned (.bool true) ∧ Kept No w w' := by
  have HA : Hid (Acts w v L) := hL
  have HW : Hid (wf h ∧ s.size ≤ maxLen) := ⟨hw, hs⟩
  clear hL hw hs
  have HLg : Hid _ := long_any HA.out
  go_enter Try.func7, Try.ntmps7
  go_wp2_with fail
  refine Calls.mono HLg.out ?_
  rintro e w0 ⟨t, rfl, hl, rfl⟩
  clear HLg
  cases t with
  | true =>
    go_wp2_with fail
    refine (alive_any _).mono ?_
    rintro e w1 ⟨rfl, hk1⟩
    have HK : Hid (Kept No w w1) := hk1
    clear hk1
    go_wp2
    go_ret
    exact ⟨rfl, HK.out⟩
  | false =>
    have hl100 : L.length ≤ 100 := hl rfl
    clear hl
    by_cases h5 : 5000 < s.size
    · have h5z : (5000 : Int) < (s.size : Int) := by omega
      go_wp2_with fail
      refine (alive_any _).mono ?_
      rintro e w1 ⟨rfl, hk1⟩
      have HK : Hid (Kept No w w1) := hk1
      clear hk1
      go_wp2
      go_ret
      exact ⟨rfl, HK.out⟩
    · have h5z : ¬ (5000 : Int) < (s.size : Int) := by omega
      go_wp2_with fail
      refine (lmade_any HA.out hl100).mono ?_
      rintro e w1 ⟨A, rfl, h1⟩
      have H1 : Hid (Tab w w1 A 100 (playC L)) := h1
      clear h1
      go_wp2_with fail
      refine (lmade_any (HA.out.kept H1.out.since) hl100).mono ?_
      rintro e w2 ⟨U, rfl, h2⟩
      have H2 : Hid (Tab w1 w2 U 100 (playC L)) := h2
      clear h2
      obtain ⟨C, HC⟩ : ∃ C, Hid (playC L = C) := ⟨_, rfl⟩
      rw [HC.out] at H1 H2
      have HG : Hid (GoodC C) := H1.out.good
      have hCl : C.length ≤ 100 := H1.out.short
      clear HC
      have HT : Hid _ := (H1.out.kept H2.out.since).text h HW.out.1
      go_wp2_with fail
      refine Calls.mono HT.out ?_
      rintro e w3 ⟨o, rfl, ho, hk3⟩
      have HO : Hid (∀ t, o = some t ↔ (h, t) ∈ C) := ho
      have HK3 : Hid (Kept No w1 w3 ∧ Kept No w2 w3) := ⟨H2.out.since.trans hk3, hk3⟩
      clear ho hk3 HT
      have HN3 : Hid _ := (H1.out.kept HK3.out.1).len
      have HD : Hid _ := H1.out.dropK HK3.out.1 (by omega) h HW.out.1
      unfold txtV
      go_wp2_with (go_at_call 15; refine Calls.mono HN3.out ?_; rintro e w' ⟨rfl, rfl⟩)
      refine Calls.mono HD.out ?_
      rintro e w4 ⟨hk4, hd⟩
      have HK4 : Hid (Kept (fun k => k < w1.heap.size) w2 w4) := (HK3.out.2.no).trans hk4
      clear hk4 HD HN3
      cases o with
      | none =>
        have hno : ∀ y ∈ C, y.1 ≠ h := fun y hy e1 => by
          have := (HO.out y.2).2 (by rw [← e1]; exact hy)
          cases this
        rcases hd with ⟨_, rfl, ht⟩ | ⟨⟨y, hy, h6⟩, _⟩
        · have H4 : Hid (Tab w w4 A 100 C) := ht
          have HN4 : Hid _ := H4.out.len
          have HAl : Hid _ := alive_any w4
          clear ht
          go_wp2_with (first | (go_at_call 28; refine (no_any _ _).mono ?_; rintro e w' ⟨rfl, rfl⟩) | (go_at_call 15; refine Calls.mono HN4.out ?_; rintro e w' ⟨rfl, rfl⟩))
          refine Calls.mono HAl.out ?_
          rintro e w5 ⟨rfl, hk5⟩
          have HK : Hid (Kept No w w5) := H4.out.since.trans hk5
          clear hk5 HAl HN4
          go_wp2
          go_ret
          exact ⟨rfl, HK.out⟩
        · exact absurd h6 (hno y hy)
      | some was =>
        have hm : (h, was) ∈ C := (HO.out was).1 rfl
        rcases hd with ⟨hno, _⟩ | ⟨_, rfl, ht⟩
        · exact absurd rfl (hno _ hm)
        · have HM : Hid ((h, was) ∈ C) := hm
          have hle := filter_len HG.out.hnd hm
          obtain ⟨C2, HC2⟩ : ∃ C2, Hid (C.filter (fun e => e.1 != h) = C2) := ⟨_, rfl⟩
          dsimp only at hle
          rw [HC2.out] at ht hle
          have H4 : Hid (Tab w w4 A 100 C2) := ht
          clear ht hm
          have HF1 : Hid _ := H4.out.find was (HG.out.siz _ HM.out)
          go_wp2_with fail
          refine Calls.mono HF1.out ?_
          rintro e w5 ⟨o1, rfl, ho1, hk5⟩
          obtain rfl : o1 = none := gone_was HG.out HM.out (by rw [HC2.out]; exact ho1)
          have H5 : Hid (Tab w w5 A 100 C2) := H4.out.kept hk5
          have HK5 : Hid (Kept (fun k => k < w1.heap.size) w2 w5) := HK4.out.trans hk5.no
          clear ho1 hk5 HF1 H4
          have HT5 : Hid _ := H5.out.text h HW.out.1
          unfold fndV
          go_wp2_with fail
          refine Calls.mono HT5.out ?_
          rintro e w6 ⟨o2, rfl, ho2, hk6⟩
          obtain rfl : o2 = none := gone_text (by rw [HC2.out]; exact ho2)
          have H6 : Hid (Tab w w6 A 100 C2) := H5.out.kept hk6
          have HK6 : Hid (Kept (fun k => k < w1.heap.size) w2 w6) := HK5.out.trans hk6.no
          clear ho2 hk6 HT5 H5
          have HN6 : Hid _ := H6.out.len
          have HF6 : Hid _ := H6.out.find s HW.out.2
          have e1 : ((C.length : Nat) : Int) - 1 = ((C2.length : Nat) : Int) := by omega
          have e2 : ((((C2.length : Nat) : Int)) != ((C2.length : Nat) : Int)) = false := by simp
          clear hle
          unfold txtV
          go_wp2_with (first | (go_at_call 28; refine (no_any _ _).mono ?_; rintro e w' ⟨rfl, rfl⟩) | (go_at_call 15; refine Calls.mono HN6.out ?_; rintro e w' ⟨rfl, rfl⟩))
          refine Calls.mono HF6.out ?_
          rintro e w7 ⟨o7, rfl, ho7, hk7⟩
          have HO7 : Hid (∀ x, o7 = some x ↔ (x, s) ∈ C2) := ho7
          have H7 : Hid (Tab w w7 A 100 C2) := H6.out.kept hk7
          have HK7 : Hid (Kept (fun k => k < w1.heap.size) w2 w7) := HK6.out.trans hk7.no
          clear ho7 hk7 HF6 HN6 H6
          have HF8 : Hid _ := H2.out.find_apart HK7.out s HW.out.2
          unfold fndV
          go_wp2_with fail
          refine Calls.mono HF8.out ?_
          rintro e w8 ⟨o8, rfl, ho8, hk8⟩
          have HO8 : Hid (∀ x, o8 = some x ↔ (x, s) ∈ C) := ho8
          have H8 : Hid (Tab w w8 A 100 C2) := H7.out.kept hk8
          clear ho8 hk8 HF8 H7
          have HP : Hid _ := H8.out.put (by omega) s HW.out.2 h HW.out.1
          have hh1 : 1 ≤ h := HG.out.pos _ HM.out
          by_cases hsw : s = was
          · subst hsw
            obtain rfl : o7 = none := gone_was HG.out HM.out (by rw [HC2.out]; exact HO7.out)
            have hnh : ¬ hasC C2 s h := by
              rw [← HC2.out, gone_has, HC2.out]
              rintro ⟨x, hx⟩
              have := (HO7.out x).2 hx
              cases this
            have hss : (s.toList == s.toList) = true := by simp
            unfold fndV
            go_wp2_with fail
            refine Calls.mono HP.out ?_
            rintro e w9 (⟨g1, _⟩ | ⟨_, g1, _⟩ | ⟨_, _, rfl, ht⟩)
            · omega
            · exact absurd g1 hnh
            · have H9 : Hid (Tab w w9 A 101 (C2 ++ [(h, s)])) := ht
              clear ht HP
              go_wp2_with (go_at_call 28; refine (no_any _ _).mono ?_; rintro e w' ⟨rfl, rfl⟩)
              refine (alive_any _).mono ?_
              rintro e w10 ⟨rfl, hk10⟩
              have HK : Hid (Kept No w w10) := H9.out.since.trans hk10
              clear hk10
              go_wp2
              go_ret
              exact ⟨rfl, HK.out⟩
          · obtain rfl : o7 = o8 := gone_find HG.out HM.out hsw (by rw [HC2.out]; exact HO7.out) HO8.out
            have hss : (s.toList == was.toList) = false := by
              rw [ByteArray.toList_eq, ByteArray.toList_eq, beq_eq_false_iff_ne]
              exact fun e => hsw (ba_ext e)
            unfold fndV
            cases o7 with
            | none =>
              have hnh : ¬ hasC C2 s h := by
                rw [← HC2.out, gone_has, HC2.out]
                rintro ⟨x, hx⟩
                have := (HO7.out x).2 hx
                cases this
              go_wp2_with fail
              refine Calls.mono HP.out ?_
              rintro e w9 (⟨g1, _⟩ | ⟨_, g1, _⟩ | ⟨_, _, rfl, ht⟩)
              · omega
              · exact absurd g1 hnh
              · have H9 : Hid (Tab w w9 A 101 (C2 ++ [(h, s)])) := ht
                clear ht HP
                go_wp2_with (go_at_call 28; refine (no_any _ _).mono ?_; rintro e w' ⟨rfl, rfl⟩)
                refine (alive_any _).mono ?_
                rintro e w10 ⟨rfl, hk10⟩
                have HK : Hid (Kept No w w10) := H9.out.since.trans hk10
                clear hk10
                go_wp2
                go_ret
                exact ⟨rfl, HK.out⟩
            | some y =>
              have hnh : hasC C2 s h := by
                rw [← HC2.out, gone_has, HC2.out]
                exact ⟨y, (HO7.out y).1 rfl⟩
              go_wp2_with fail
              refine Calls.mono HP.out ?_
              rintro e w9 (⟨g1, _⟩ | ⟨_, _, rfl, ht⟩ | ⟨_, g1, _⟩)
              · omega
              · have H9 : Hid (Tab w w9 A 101 C2) := ht
                clear ht HP
                go_wp2_with (go_at_call 28; refine (no_any _ _).mono ?_; rintro e w' ⟨rfl, rfl⟩)
                refine (alive_any _).mono ?_
                rintro e w10 ⟨rfl, hk10⟩
                have HK : Hid (Kept No w w10) := H9.out.since.trans hk10
                clear hk10
                go_wp2
                go_ret
                exact ⟨rfl, HK.out⟩
              · exact absurd hnh g1
end Go.Proofs.Ytnfamebihpnjlaa
