/- TextUnpacks, walked. -/
import Derived.Test.YtinhfgpcgbnhdaaT14
import Derived.Laws.AppendOwnNone
namespace Go.Proofs.Ytinhfgpcgbnhdaa
open Go.RowKit

/-- The two answers of a pair, and what the law asks of them. -/
theorem unpack_pair (zs : List Int) (n : Int) : ∃ (t : ByteArray) (e : Int), unpackT zs n = .tuple #[.string t, .int .i64 e] := by
  unfold unpackT
  split
  · exact ⟨_, _, rfl⟩
  · split
    · exact ⟨_, _, rfl⟩
    · exact ⟨_, _, rfl⟩

theorem SliceIs_cells {w : World} {ad : Addr} {m c : Nat} {zs : List Int} (h : SliceIs w (.slice (some ad) m c) zs) : m = zs.length ∧ ∀ j u, (ic zs)[j]? = some u → w.cell? (ad.add j) = some u := by
  obtain ⟨ao, cap, he, hc⟩ := h
  simp only [Value.slice.injEq] at he
  obtain ⟨rfl, rfl, rfl⟩ := he
  refine ⟨rfl, fun j u hu => ?_⟩
  have hj : j < zs.length := by have := (List.getElem?_eq_some_iff.1 hu).1; simpa [ic] using this
  obtain ⟨b, off, hb, hg⟩ := hc (by omega)
  cases hb
  have hadd : (⟨b, off, none⟩ : Addr).add j = ⟨b, off + j, none⟩ := by unfold Addr.add; split <;> simp_all
  rw [hadd, hg j hj]
  simpa [ic, List.getD, List.getElem?_eq_getElem hj] using hu

set_option maxHeartbeats 1000000 in
/-- What comes behind the copy. -/
theorem TextUnpacks_any (v : Value) (zs : List Int) (n : Int) (w : World) (hv : SliceIs w v zs) (hn : v = .slice none 0 0 ∨ ∃ ad m c, v = .slice (some ad) m c) (hz : zs.length ≤ 9223372036854775807) (h2 : n ≤ 9223372036854775807) :
    Calls Try.prog 5 #[v, .int .i64 n] w fun e w' => e = .returned (.bool true) ∧ Below w.heap.size w w' := by
  obtain ⟨i0, hi, hz0, hz1, hz2⟩ := info_parts info2
  obtain ⟨m, hm⟩ : ∃ m : Nat, m = zs.length := ⟨_, rfl⟩
  have HM : Hid (m = zs.length) := hm
  have HV : Hid (SliceIs w v zs) := hv
  rw [← hm] at hz
  obtain ⟨T, E, hTE⟩ := unpack_pair zs n
  have HU : Hid (zs.length ≤ 400 → ∀ v w, SliceIs w v zs → Calls Try.prog 21 #[v, .int .i64 n] w fun e w' => e = .returned (.tuple #[.string T, .int .i64 E]) ∧ Below w.heap.size w w') := by
    intro h v w hv; rw [← hTE]; exact Unpack_any v zs n w hv h h2
  have HR : Hid (zs.length ≤ 400 → ∀ v w, SliceIs w v zs → Calls Try.prog 22 #[v, .int .i64 n] w fun e w' => e = .returned (.tuple #[.string T, .int .i64 E]) ∧ Below w.heap.size w w') := by
    intro h v w hv; rw [← hTE]; exact RUnpack_any v zs n w hv h
  have hT := (show (T.toList == T.toList) = true by simp)
  clear hTE
  rcases hn with rfl | ⟨ad, m', c, rfl⟩
  · have hm0 : m = 0 := by obtain ⟨ao, cap, he, _⟩ := hv; simp only [Value.slice.injEq] at he; omega
    have HZ : Hid (zs.length ≤ 400) := by show _ ≤ _; omega
    have HZ2 : Hid (zs.length ≤ 100000) := by show _ ≤ _; omega
    have HE : Hid (zs = []) := List.eq_nil_of_length_eq_zero (by omega)
    clear hv hm hm0
    go_enter Try.func5, Try.ntmps5
    go_wp2_with (first | (at_builtin; refine wpList_append_own_none rfl _ _ 28 rfl w.heap.size 2 i0 1 Try.underlying28 hi _ 0 [] rfl (World.ownsRow_lit w #[] 0 (Nat.le_refl _) (by decide) rfl) rfl ?_))
    have HSo : Hid (SliceIs (w.alloc (.cells #[] 2)) (.slice (some ⟨w.heap.size, 0, none⟩) 0 0) zs) := by
      show SliceIs _ _ _; rw [HE.out]; exact ⟨_, _, rfl, fun h => absurd h (by decide)⟩
    have HBo : Hid (Below w.heap.size w (w.alloc (.cells #[] 2))) := (Below.refl _ _).alloc (Nat.le_refl _) _
    have HSv : Hid (SliceIs (w.alloc (.cells #[] 2)) (.slice none 0 0) zs) := HV.out.later HBo.out
    generalize w.alloc (.cells #[] 2) = wo at HSo HBo HSv ⊢
    generalize hvo : Value.slice (some ⟨w.heap.size, 0, none⟩) 0 0 = vo at HSo ⊢
    refine (HU.out HZ.out _ _ HSo.out).mono ?_
    rintro e w2 ⟨rfl, hb2⟩
    have HSo2 : Hid (SliceIs w2 vo zs) := HSo.out.later hb2
    have HSv2 : Hid (SliceIs w2 (.slice none 0 0) zs) := HSv.out.later hb2
    have HB2 : Hid (Below w.heap.size w w2) := HBo.out.trans (hb2.mono HBo.out.size)
    clear hb2 HSo HSv HBo
    go_wp2_with fail
    refine (HR.out HZ.out _ _ HSv2.out).mono ?_
    rintro e w3 ⟨rfl, hb3⟩
    have HSo3 : Hid (SliceIs w3 vo zs) := HSo2.out.later hb3
    have HSv3 : Hid (SliceIs w3 (.slice none 0 0) zs) := HSv2.out.later hb3
    have HB3 : Hid (Below w.heap.size w w3) := HB2.out.trans (hb3.mono HB2.out.size)
    clear hb3 HSo2 HSv2 HB2
    go_wp2_with (first | (go_at_call 23; refine (no_any _ _).mono ?_; rintro e w' ⟨rfl, rfl⟩))
    refine (Same_any _ _ _ _ _ HSo3.out HSv3.out HZ2.out).mono ?_
    rintro e w4 ⟨rfl, hb4⟩
    rw [decide_eq_true (rfl : zs = zs)]
    have HB4 : Hid (Below w.heap.size w w4) := HB3.out.trans (hb4.mono HB3.out.size)
    clear hb4 HSo3 HSv3 HB3
    go_wp2_with (first | (go_at_call 11; refine (alive_any _).mono ?_; rintro e w5 ⟨rfl, hb5⟩))
    go_ret
    exact ⟨rfl, HB4.out.trans (hb5.mono HB4.out.size)⟩
  · obtain ⟨hmm, hcl⟩ := SliceIs_cells hv
    rw [← hm] at hmm
    subst hmm
    clear hv hm
    by_cases hb : (400 : Int) < (m' : Int)
    · go_enter Try.func5, Try.ntmps5
      go_wp2_with (first | (go_at_call 11; refine (alive_any _).mono ?_; rintro e w1 ⟨rfl, hb1⟩))
      go_ret
      exact ⟨rfl, hb1⟩
    · have HZ : Hid (zs.length ≤ 400) := by show _ ≤ _; rw [← HM.out]; omega
      have HZ2 : Hid (zs.length ≤ 100000) := by show _ ≤ _; rw [← HM.out]; omega
      have HCL : Hid (∀ j u, (ic zs)[j]? = some u → w.cell? (ad.add j) = some u) := hcl
      clear hcl
      go_enter Try.func5, Try.ntmps5
      go_wp2_with (first | (at_builtin; refine wpList_append_own _ rfl _ _ 28 rfl w.heap.size 2 i0 (.int .i64 0) 1 8 Try.underlying28 hi hz0 hz1 hz2 rfl (by decide) _ 0 [] rfl (World.ownsRow_lit w #[] 0 (Nat.le_refl _) (by decide) rfl) ad m' c (ic zs) rfl ?_ ?_ ?_ ?_ ?_ ?_ ?_))
      · simp [ic, HM.out]
      · intro j u hu; exact cell_later ((Below.refl _ _).alloc (Nat.le_refl _) _) (HCL.out j u hu)
      · intro u hu; simp only [ic, List.mem_map] at hu; obtain ⟨q, _, rfl⟩ := hu; rfl
      · unfold maxLen; omega
      · omega
      intro vo wo hown hgrow _
      have hown' : wo.ownsRow w.heap.size 2 1 vo m' (ic zs) := hown
      have HSo : Hid (SliceIs wo vo zs) := SliceIs_own_any hown'
      have HBo : Hid (Below w.heap.size w wo) := ((Below.refl _ _).alloc (Nat.le_refl _) _).grown hgrow (by simp) (fun q hq => by simp [Value.ownBlock] at hq; omega)
      have HSv : Hid (SliceIs wo (.slice (some ad) m' c) zs) := HV.out.later HBo.out
      clear hown hown' hgrow HCL
      go_wp2_with fail
      refine (HU.out HZ.out _ _ HSo.out).mono ?_
      rintro e w2 ⟨rfl, hb2⟩
      have HSo2 : Hid (SliceIs w2 vo zs) := HSo.out.later hb2
      have HSv2 : Hid (SliceIs w2 (.slice (some ad) m' c) zs) := HSv.out.later hb2
      have HB2 : Hid (Below w.heap.size w w2) := HBo.out.trans (hb2.mono HBo.out.size)
      clear hb2 HSo HSv HBo
      go_wp2_with fail
      refine (HR.out HZ.out _ _ HSv2.out).mono ?_
      rintro e w3 ⟨rfl, hb3⟩
      have HSo3 : Hid (SliceIs w3 vo zs) := HSo2.out.later hb3
      have HSv3 : Hid (SliceIs w3 (.slice (some ad) m' c) zs) := HSv2.out.later hb3
      have HB3 : Hid (Below w.heap.size w w3) := HB2.out.trans (hb3.mono HB2.out.size)
      clear hb3 HSo2 HSv2 HB2
      go_wp2_with (first | (go_at_call 23; refine (no_any _ _).mono ?_; rintro e w' ⟨rfl, rfl⟩))
      refine (Same_any _ _ _ _ _ HSo3.out HSv3.out HZ2.out).mono ?_
      rintro e w4 ⟨rfl, hb4⟩
      rw [decide_eq_true (rfl : zs = zs)]
      have HB4 : Hid (Below w.heap.size w w4) := HB3.out.trans (hb4.mono HB3.out.size)
      clear hb4 HSo3 HSv3 HB3
      go_wp2_with (first | (go_at_call 11; refine (alive_any _).mono ?_; rintro e w5 ⟨rfl, hb5⟩))
      go_ret
      exact ⟨rfl, HB4.out.trans (hb5.mono HB4.out.size)⟩
end Go.Proofs.Ytinhfgpcgbnhdaa
