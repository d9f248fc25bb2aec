/- slices.SortFunc and slices.SortedFunc of a map's keys, by earlier: in the order of the puts. -/
import Derived.Test.YtnfamebihpnjlaaX1
import Derived.Test.YtnfamebihpnjlaaK8
namespace Go.Proofs.Ytnfamebihpnjlaa
open Go.RowKit Go.Maps Go.Sort Go.Shelf
set_option linter.unusedSimpArgs false
set_option linter.unusedVariables false

/-- Entries in the order of their puts. -/
def Ord (L : List Ent) : Prop := L.Pairwise fun a b => a.q < b.q
theorem perm_sorted {K : Int → Int} : ∀ {l m : List Int}, l.Perm m → l.Pairwise (fun x y => K x < K y) → m.Pairwise (fun x y => K x < K y) → l = m
  | [], m, h, _, _ => (List.nil_perm.1 h).symm
  | a :: l, [], h, _, _ => absurd h.length_eq (by simp)
  | a :: l, b :: m, h, h1, h2 => by
    rw [List.pairwise_cons] at h1 h2
    have e : a = b := by
      have ha : a ∈ b :: m := h.mem_iff.1 (by simp)
      have hb : b ∈ a :: l := h.mem_iff.2 (by simp)
      rcases List.mem_cons.1 ha with e | ha'
      · exact e
      · rcases List.mem_cons.1 hb with e | hb'
        · exact e.symm
        · have x1 := h1.1 b hb'
          have x2 := h2.1 a ha'
          omega
    subst e
    rw [perm_sorted h.cons_inv h1.2 h2.2]
theorem srt_pairwise {K : Int → Int} {l : List Int} (h : Srt 0 l.length (fk K l)) : l.Pairwise (fun x y => K x < K y) := by
  rw [List.pairwise_iff_getElem]
  intro i j hi hj hij
  have := h i j (by omega) hij hj
  unfold fk at' at this
  rw [List.getD_eq_getElem?_getD, List.getD_eq_getElem?_getD, List.getElem?_eq_getElem hi, List.getElem?_eq_getElem hj] at this
  exact this
theorem cmp3_neg (x y : Int) : cmp3 x y < 0 ↔ x < y := by
  unfold cmp3
  by_cases h1 : x < y
  · simp [h1]
  · by_cases h2 : y < x <;> simp [h1, h2]
theorem whenE_mem {L : List Ent} (hn : (L.map Ent.h).Nodup) {e : Ent} (he : e ∈ L) : whenE (lookE L) e.h = (e.q : Int) := by
  unfold whenE; rw [lookE_mem hn he]; rfl
theorem ord_pairwise {L : List Ent} (hn : (L.map Ent.h).Nodup) (ho : Ord L) : (L.map Ent.h).Pairwise (fun x y => whenE (lookE L) x < whenE (lookE L) y) := by
  rw [List.pairwise_map]
  refine List.Pairwise.imp_of_mem (fun {a b} ha hb h => ?_) ho
  rw [whenE_mem hn ha, whenE_mem hn hb]; omega
theorem when_nodup {L : List Ent} (hn : (L.map Ent.h).Nodup) (ho : (L.map Ent.q).Pairwise (· ≠ ·)) : ((L.map Ent.h).map (whenE (lookE L))).Nodup := by
  rw [List.map_map]
  have e : L.map (whenE (lookE L) ∘ Ent.h) = L.map (fun e => (e.q : Int)) := List.map_congr_left fun e he => whenE_mem hn he
  rw [e]
  have h2 : (L.map (fun e => (e.q : Int))) = (L.map Ent.q).map (fun n : Nat => (n : Int)) := by rw [List.map_map]; rfl
  rw [h2]
  unfold List.Nodup
  rw [List.pairwise_map]
  exact List.Pairwise.imp (fun h e => h (by omega)) ho

set_option maxRecDepth 20000 in
set_option maxHeartbeats 1000000 in
theorem SortFunc_srt {w0 w : World} {g cap A : Nat} {l0 : List Int} {cf : Int → Int → Int} {K : Int → Int} {f0 : Nat → Int} (X : CtxK w0 g A l0 cf K) (hsm : l0.length ≤ 60000) (S : SRP w0 g cap l0 K w (fun f => f = f0)) :
    Calls Try.prog 50 #[.slice (some ⟨g, 0, none⟩) l0.length cap, cv A] w fun e w' => e = .returned (.tuple #[]) ∧ SRP w0 g cap l0 K w' (fun f => Win 0 l0.length f0 f ∧ Srt 0 l0.length f) := by
  have H1 : Hid (∀ w : World, Calls Try.prog 55 #[.int .u64 (l0.length : Int)] w fun e w' => e = .returned (.int .i64 (Lib.bitLen l0.length : Nat)) ∧ w = w') := fun w => BLen_any _ (by omega) w
  have H2 : Hid (Calls Try.prog 54 #[.slice (some ⟨g, 0, none⟩) l0.length cap, .int .i64 ((0 : Nat) : Int), .int .i64 (l0.length : Int), .int .i64 (Lib.bitLen l0.length : Nat), cv A] w fun e w' => e = .returned (.tuple #[]) ∧ SRP w0 g cap l0 K w' (fun f => Win 0 l0.length f0 f ∧ Srt 0 l0.length f)) :=
    pdq_srt X hsm l0.length 0 l0.length _ w f0 (by omega) (by omega) (by omega) (by have := bitLen_small l0.length (by omega); omega) S (fun k h0 => by omega)
  have e0 : ((0 : Nat) : Int) = 0 := rfl
  rw [e0] at H2
  clear X S e0
  generalize Lib.bitLen l0.length = k at H1 H2
  go_enter Try.func50, Try.ntmps50
  go_wp2_with (go_at_call 55; refine (H1.out _).mono ?_; rintro e w' ⟨rfl, rfl⟩)
  refine Calls.mono H2.out ?_
  rintro e w2 ⟨rfl, hs⟩
  have HS := hid hs
  clear hs H1 H2
  go_wp2
  go_end0
  exact ⟨rfl, HS.out⟩

set_option maxRecDepth 20000 in
set_option maxHeartbeats 1000000 in
theorem SortedFunc_ord {w : World} {A C n M p nn Bm : Nat} {L : List Ent} (hA : w.heap[A]? = some (tb C n M p)) (hM : MapIs w M nn L.length (lookE L)) (hg : Good L p) (ho : Ord L) (hl : L.length ≤ 60000) (hB : w.cell? ⟨Bm, 0, none⟩ = some (.map (some M))) (hBl : Bm < w.heap.size) :
    Calls Try.prog 46 #[.func (.func 51) #[] #[.pointer (some ⟨Bm, 0, none⟩)], cv A] w fun e w' => ∃ (v : Value) (ss : List Int), e = .returned v ∧ ss = L.map Ent.h ∧ w'.ownsRow w.heap.size 3 1 v ss.length (ic ss) ∧ Below w.heap.size w w' := by
  obtain ⟨D, hown, hperm, hsize⟩ := keys_perm hM hg.hnd
  have hseq : SeqGives Fence.wide 2 Try.prog 51 #[.pointer (some ⟨Bm, 0, none⟩)] encZ (fun ss => ss.Perm (intKeys D)) (Maps.size D) w :=
    AnyZI.keys_gives (ρ := Try.keysS_ren) { Try.keysS with } Fence.wide _ trivial rfl (by omega) Bm M nn D _ hBl hB hown
  have cC : Hid (CallsIn Fence.wide 4 Try.prog 49 #[.func (.func 51) #[] #[.pointer (some ⟨Bm, 0, none⟩)]] w fun e w' => ∃ (v : Value) (ss : List Int), e = .returned v ∧ ss.Perm (intKeys D) ∧ w'.ownsRow w.heap.size 3 1 v ss.length (ss.map encZ) ∧ (v = .slice none 0 0 ↔ ss = []) ∧ Below w.heap.size w w') :=
    AnyZI.collect_in (ρ := Try.collS_ren) Try.collS Fence.wide 4 trivial trivial rfl (by omega) 51 #[.pointer (some ⟨Bm, 0, none⟩)] trivial (enters_of Try.func51 (by kernel_rfl) rfl) _ (Maps.size D) (by rw [hsize]; unfold maxLen; omega) (by rw [hsize]; omega) w hseq
  have HG : Hid (Good L p) := hg
  have HO : Hid (Ord L) := ho
  have HA : Hid (w.heap[A]? = some (tb C n M p)) := hA
  have HM : Hid (MapIs w M nn L.length (lookE L)) := hM
  have HP : Hid ((L.map Ent.h).Perm (intKeys D)) := hperm
  clear hA hM hg ho hperm hown hseq hB
  go_enter Try.func46, Try.ntmps46
  go_wp2_with fail
  refine Calls.mono (callsIn_wide.1 cC.out) ?_
  rintro e w1 ⟨v, ss, rfl, hss, hrow, _, hbel⟩
  have HQ : Hid (ss.Perm (L.map Ent.h)) := hss.trans HP.out.symm
  have HB : Hid (Below w.heap.size w w1) := hbel
  clear hss hbel cC HP
  rcases hrow.2 with ⟨rfl, hz⟩ | ⟨g, cap, cur, rfl, hbase, hgb, r1, r2, r3, r4⟩
  · have hs0 : ss = [] := List.eq_nil_of_length_eq_zero hz
    subst hs0
    have HR : Hid (w1.ownsRow w.heap.size 3 1 (.slice none 0 0) 0 (ic [])) := hrow
    clear hrow
    go_wp2_with (go_at_call 50; refine (SortFunc_nil A _).mono ?_; rintro e w' ⟨rfl, rfl⟩)
    go_ret
    exact ⟨_, [], rfl, (List.nil_perm.1 HQ.out).symm, HR.out, HB.out⟩
  · have X : CtxK w1 g A ss (fun x y => cmp3 (whenE (lookE L) x) (whenE (lookE L) y)) (whenE (lookE L)) := by
      refine ⟨⟨fun w' hk x y hx hy => ?_, fun x hx => ?_, ?_, hp_lt hgb⟩, fun x y => cmp3_neg _ _, ((HQ.out.map _).nodup_iff).2 (when_nodup HG.out.hnd HG.out.ord)⟩
      · have hk0 : Kept No w w1 := Kept.of_below HB.out
        have n1 : A ≠ g := by have := hp_lt HA.out; omega
        have n2 : M ≠ g := by have := HM.out.lt; omega
        exact earlier_any (hk.heap (hk0.heap HA.out id) n1) ((HM.out.kept hk0 id).kept hk n2) hx hy
      · obtain ⟨e, he, rfl⟩ := List.mem_map.1 (HQ.out.mem_iff.1 hx)
        exact wf_pos (HG.out.pos e he).1 (HG.out.pos e he).2
      · have := HQ.out.length_eq
        rw [List.length_map] at this; omega
    have hlen : ss.length ≤ 60000 := by
      have := HQ.out.length_eq
      rw [List.length_map] at this; omega
    have S : SRP w1 g cap ss (whenE (lookE L)) w1 (fun f => f = fk (whenE (lookE L)) ss) := ⟨ss, ⟨⟨cur, hgb, by simpa using r3, r1, by rw [Nat.mul_one] at r4; exact r4⟩, Kept.refl _ _, List.Perm.refl _⟩, rfl⟩
    have HS : Hid _ := SortFunc_srt X hlen S
    have HR2 : Hid (cap ≤ maxLen) := r2
    clear X S hrow hgb r1 r2 r3 r4
    go_wp2_with fail
    refine Calls.mono HS.out ?_
    rintro e w2 ⟨rfl, l, hs, hsrt⟩
    have HE : Hid (SR w1 g cap ss l w2) := hs
    have HL : Hid (Srt 0 ss.length (fk (whenE (lookE L)) l)) := hsrt.2
    clear hs hsrt HS
    go_wp2
    go_ret
    have hl := HE.out.len
    refine ⟨.slice (some ⟨g, 0, none⟩) ss.length cap, l, rfl, perm_sorted (HE.out.perm.trans HQ.out) (srt_pairwise (by rw [hl]; exact HL.out)) (ord_pairwise HG.out.hnd HO.out), ⟨by simp [ic], Or.inr ?_⟩, ?_⟩
    · obtain ⟨cur, h1, h2, h3, h4⟩ := HE.out.row
      exact ⟨g, cap, cur, by rw [hl], hbase, h1, h3, HR2.out, by simpa using h2, by simpa using h4⟩
    · exact HB.out.trans (HE.out.kept.below HB.out.size (fun k e => by subst e; exact hbase))
end Go.Proofs.Ytnfamebihpnjlaa
