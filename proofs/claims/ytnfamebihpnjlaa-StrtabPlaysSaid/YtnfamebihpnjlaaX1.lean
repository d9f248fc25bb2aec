/- slices.SortFunc and slices.SortedFunc of a map's keys, by earlier: a permutation of them. -/
import Derived.Test.YtnfamebihpnjlaaX0
import Derived.TacticsInMore
namespace Go.Proofs.Ytnfamebihpnjlaa
open Go.RowKit Go.Maps Go.Sort Go.Shelf
set_option linter.unusedSimpArgs false
set_option linter.unusedVariables false

set_option maxRecDepth 20000 in
set_option maxHeartbeats 1000000 in
theorem SortFunc_any {w0 w : World} {g cap A : Nat} {l0 : List Int} {cf : Int → Int → Int} (X : Ctx w0 g A l0 cf) (hsm : l0.length ≤ 60000) (S : ∃ l, SR w0 g cap l0 l w) :
    Calls Try.prog 50 #[.slice (some ⟨g, 0, none⟩) l0.length cap, cv A] w fun e w' => e = .returned (.tuple #[]) ∧ ∃ l, SR w0 g cap l0 l w' := by
  have H1 : Hid (∀ w : World, Calls Try.prog 55 #[.int .u64 (l0.length : Int)] w fun e w' => e = .returned (.int .i64 (Lib.bitLen l0.length : Nat)) ∧ w = w') := fun w => BLen_any _ (by omega) w
  have H2 : Hid (Calls Try.prog 54 #[.slice (some ⟨g, 0, none⟩) l0.length cap, .int .i64 ((0 : Nat) : Int), .int .i64 (l0.length : Int), .int .i64 (Lib.bitLen l0.length : Nat), cv A] w fun e w' => e = .returned (.tuple #[]) ∧ ∃ l, SR w0 g cap l0 l w') :=
    pdq_any X hsm l0.length 0 l0.length _ w (by omega) (by omega) (by omega) (by have := bitLen_small l0.length (by omega); omega) S
  have e0 : ((0 : Nat) : Int) = 0 := rfl
  rw [e0] at H2
  clear X S e0
  generalize Lib.bitLen l0.length = k at H1 H2
  go_enter Try.func50, Try.ntmps50
  go_wp2_with (go_at_call 55; refine (H1.out _).mono ?_; rintro e w' ⟨rfl, rfl⟩)
  refine Calls.mono H2.out ?_
  rintro e w2 ⟨rfl, hs⟩
  have HS : Hid (∃ l, SR w0 g cap l0 l w2) := hs
  clear hs H1 H2
  go_wp2
  go_end0
  exact ⟨rfl, HS.out⟩

theorem ins_nil (A : Nat) (w : World) : Calls Try.prog 57 #[.slice none 0 0, .int .i64 0, .int .i64 0, cv A] w fun e w' => e = .returned (.tuple #[]) ∧ w = w' := by
  go_enter Try.func57, Try.ntmps57
  go_wp2_with fail
  go_loop [8] (fun v => v = .int .i64 1) (fun _ => 0)
  case atStart => rfl
  case round =>
    subst hrel
    go_wp2
    go_end0
    exact ⟨rfl, rfl⟩
set_option maxRecDepth 20000 in
set_option maxHeartbeats 1000000 in
theorem pdq_nil (A : Nat) (w : World) : Calls Try.prog 54 #[.slice none 0 0, .int .i64 0, .int .i64 0, .int .i64 0, cv A] w fun e w' => e = .returned (.tuple #[]) ∧ w = w' := by
  have HI := fun w => ins_nil A w
  go_enter Try.func54, Try.ntmps54
  go_wp2_with fail
  go_loop [1, 2, 3, 10, 11, 12, 13, 14, 15, 16, 17, 18, 19, 20] (fun v1 v2 _ _ _ _ _ _ _ _ _ _ _ _ => v1 = .int .i64 0 ∧ v2 = .int .i64 0) (fun _ _ _ _ _ _ _ _ _ _ _ _ _ _ => 0)
  case atStart => exact ⟨rfl, rfl⟩
  case round =>
    obtain ⟨rfl, rfl⟩ := hrel
    go_wp2_with (go_at_call 57; refine (HI _).mono ?_; rintro e w' ⟨rfl, rfl⟩)
    first | (go_end0; exact ⟨rfl, rfl⟩) | (refine bodyPost_ret (results_none rfl _ _ _) rfl ?_; exact ⟨rfl, rfl⟩)
set_option maxRecDepth 20000 in
set_option maxHeartbeats 1000000 in
theorem SortFunc_nil (A : Nat) (w : World) : Calls Try.prog 50 #[.slice none 0 0, cv A] w fun e w' => e = .returned (.tuple #[]) ∧ w = w' := by
  have H1 : Hid (∀ w : World, Calls Try.prog 55 #[.int .u64 0] w fun e w' => e = .returned (.int .i64 0) ∧ w = w') := fun w => BLen_any 0 (by omega) w
  go_enter Try.func50, Try.ntmps50
  go_wp2_with (first | (go_at_call 55; refine (H1.out _).mono ?_; rintro e w' ⟨rfl, rfl⟩) | (go_at_call 54; refine (pdq_nil A _).mono ?_; rintro e w' ⟨rfl, rfl⟩))
  go_end0
  exact ⟨rfl, rfl⟩

/-- The keys of a table's map. -/
theorem keys_perm {w : World} {M n : Nat} {L : List Ent} (h : MapIs w M n L.length (lookE L)) (hnd : (L.map Ent.h).Nodup) :
    ∃ D : DataW Unit, w.ownsMap Try.prog 3 iR M n D ∧ (L.map Ent.h).Perm (intKeys D) ∧ Maps.size D = L.length := by
  obtain ⟨D, ho, hD⟩ := h
  refine ⟨D, ho, ?_, hD.1⟩
  obtain ⟨es, hE, hpw, _⟩ := ho.entries keyed3
  obtain ⟨es', hE', hko⟩ := ho.keysOf
  obtain rfl : es = es' := by rw [hE] at hE'; simpa using hE'
  subst hE
  refine perm_intKeys hpw (fun p hp => ?_) hnd (fun x => ?_)
  · obtain ⟨v, hv⟩ := hko p hp
    obtain ⟨x, _, hx, _⟩ := Maps.keyOf_i64 Try.underlying3 hv
    exact ⟨x, hx⟩
  · rw [(hD.2 x).2, lookE_isSome, List.mem_map]

set_option maxRecDepth 20000 in
set_option maxHeartbeats 1000000 in
theorem SortedFunc_any {w : World} {A C n M p nn Bm : Nat} {L : List Ent} (hA : w.heap[A]? = some (tb C n M p)) (hM : MapIs w M nn L.length (lookE L)) (hg : Good L p) (hl : L.length ≤ 60000) (hB : w.cell? ⟨Bm, 0, none⟩ = some (.map (some M))) (hBl : Bm < w.heap.size) :
    Calls Try.prog 46 #[.func (.func 51) #[] #[.pointer (some ⟨Bm, 0, none⟩)], cv A] w fun e w' => ∃ (v : Value) (ss : List Int), e = .returned v ∧ ss.Perm (L.map Ent.h) ∧ w'.ownsRow w.heap.size 3 1 v ss.length (ic ss) ∧ Below w.heap.size w w' := by
  obtain ⟨D, hown, hperm, hsize⟩ := keys_perm hM hg.hnd
  have hseq : SeqGives Fence.wide 2 Try.prog 51 #[.pointer (some ⟨Bm, 0, none⟩)] encZ (fun ss => ss.Perm (intKeys D)) (Maps.size D) w :=
    AnyZI.keys_gives (ρ := Try.keysS_ren) { Try.keysS with } Fence.wide _ trivial rfl (by omega) Bm M nn D _ hBl hB hown
  have cC : Hid (CallsIn Fence.wide 4 Try.prog 49 #[.func (.func 51) #[] #[.pointer (some ⟨Bm, 0, none⟩)]] w fun e w' => ∃ (v : Value) (ss : List Int), e = .returned v ∧ ss.Perm (intKeys D) ∧ w'.ownsRow w.heap.size 3 1 v ss.length (ss.map encZ) ∧ (v = .slice none 0 0 ↔ ss = []) ∧ Below w.heap.size w w') :=
    AnyZI.collect_in (ρ := Try.collS_ren) Try.collS Fence.wide 4 trivial trivial rfl (by omega) 51 #[.pointer (some ⟨Bm, 0, none⟩)] trivial (enters_of Try.func51 (by kernel_rfl) rfl) _ (Maps.size D) (by rw [hsize]; unfold maxLen; omega) (by rw [hsize]; omega) w hseq
  have HG : Hid (Good L p) := hg
  have HA : Hid (w.heap[A]? = some (tb C n M p)) := hA
  have HM : Hid (MapIs w M nn L.length (lookE L)) := hM
  have HP : Hid ((L.map Ent.h).Perm (intKeys D)) := hperm
  clear hA hM hg hperm hown hseq hB
  go_enter Try.func46, Try.ntmps46
  go_wp2_with fail
  refine Calls.mono (callsIn_wide.1 cC.out) ?_
  rintro e w1 ⟨v, ss, rfl, hss, hrow, _, hbel⟩
  have HQ : Hid (ss.Perm (L.map Ent.h)) := hss.trans HP.out.symm
  have HB : Hid (Below w.heap.size w w1) := hbel
  clear hss hbel cC HP
  rcases hrow.2 with ⟨rfl, hz⟩ | ⟨g, cap, cur, rfl, hbase, hgb, r1, r2, r3, r4⟩
  · have hs0 : ss = [] := List.eq_nil_of_length_eq_zero hz
    subst hs0
    have HR : Hid (w1.ownsRow w.heap.size 3 1 (.slice none 0 0) 0 (ic [])) := hrow
    clear hrow
    go_wp2_with (go_at_call 50; refine (SortFunc_nil A _).mono ?_; rintro e w' ⟨rfl, rfl⟩)
    go_ret
    exact ⟨_, [], rfl, HQ.out, HR.out, HB.out⟩
  · have X : Ctx w1 g A ss (fun x y => cmp3 (whenE (lookE L) x) (whenE (lookE L) y)) := by
      refine ⟨fun w' hk x y hx hy => ?_, fun x hx => ?_, ?_, hp_lt hgb⟩
      · have hk0 : Kept No w w1 := Kept.of_below HB.out
        have n1 : A ≠ g := by have := hp_lt HA.out; omega
        have n2 : M ≠ g := by have := HM.out.lt; omega
        exact earlier_any (hk.heap (hk0.heap HA.out id) n1) ((HM.out.kept hk0 id).kept hk n2) hx hy
      · obtain ⟨e, he, rfl⟩ := List.mem_map.1 (HQ.out.mem_iff.1 hx)
        exact wf_pos (HG.out.pos e he).1 (HG.out.pos e he).2
      · have := HQ.out.length_eq
        rw [List.length_map] at this; omega
    have hlen : ss.length ≤ 60000 := by
      have := HQ.out.length_eq
      rw [List.length_map] at this; omega
    have S : ∃ l, SR w1 g cap ss l w1 := ⟨ss, ⟨cur, hgb, by simpa using r3, r1, by rw [Nat.mul_one] at r4; exact r4⟩, Kept.refl _ _, List.Perm.refl _⟩
    have HS : Hid _ := SortFunc_any X hlen S
    have HR2 : Hid (cap ≤ maxLen) := r2
    clear X S hrow hgb r1 r2 r3 r4
    go_wp2_with fail
    refine Calls.mono HS.out ?_
    rintro e w2 ⟨rfl, l, hs⟩
    have HE : Hid (SR w1 g cap ss l w2) := hs
    clear hs HS
    go_wp2
    go_ret
    have hl := HE.out.len
    refine ⟨.slice (some ⟨g, 0, none⟩) ss.length cap, l, rfl, HE.out.perm.trans HQ.out, ⟨by simp [ic], Or.inr ?_⟩, ?_⟩
    · obtain ⟨cur, h1, h2, h3, h4⟩ := HE.out.row
      exact ⟨g, cap, cur, by rw [hl], hbase, h1, h3, HR2.out, by simpa using h2, by simpa using h4⟩
    · exact HB.out.trans (HE.out.kept.below HB.out.size (fun k e => by subst e; exact hbase))
end Go.Proofs.Ytnfamebihpnjlaa
