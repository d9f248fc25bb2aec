/- A token. -/
import Derived.Test.YtidokamfppdnaaaGreatDoorC8
namespace Go.Proofs.YtidokamfppdnaaaGreatDoor
open Go.RowKit
set_option linter.unusedSimpArgs false
set_option linter.unusedVariables false

/-- The four answers, in their order. -/
noncomputable def asks (s : ByteArray) (k : Nat) (hs : s.size ≤ 8192) : List (Tk × Int) := [(nmT s k, 0), nuX s k hs, quX s k, (sgX s k, 0)]
/-- Is it one? -/
def hit (p : Tk × Int) : Bool := p.2 != 0 || p.1.k != 0
def pick (L : List (Tk × Int)) : Tk × Int := match L.find? hit with | some p => p | none => (t0, 15)

theorem ask_any {w : World} {c : Nat} {s : ByteArray} (h : Cu w c s) (he : ErrIs w) (hg : SgIs w) (k : Nat) (hk : k < s.size) (hs : s.size ≤ 8192) (j : Nat) (hj : j < 4) :
    Calls Tryz.prog (16 + j) #[.pointer (some ⟨c, 0, none⟩), .int .i64 (k : Int)] w fun r w' => r = .returned (.tuple #[tv ((asks s k hs)[j]'hj).1, .int .i64 ((asks s k hs)[j]'hj).2]) ∧ Kept No w w' := by
  match j, hj with
  | 0, _ => exact name_any h k hk hs
  | 1, _ => exact number_any h he k hk hs
  | 2, _ => exact quoted_any h k hk hs
  | 3, _ => exact sign_any h hg k hk hs
theorem callAsk (j : Nat) (hj : j < 4) (a : Array Value) (w : World) : (callFunc (16 + j) a).run Tryz.prog w = .ok (.enter (16 + j) a) w := by
  match j, hj with
  | 0, _ => simp [go_sem]
  | 1, _ => simp [go_sem]
  | 2, _ => simp [go_sem]
  | 3, _ => simp [go_sem]
theorem Cu.ask {w : World} {c : Nat} {s : ByteArray} (h : Cu w c s) : ∃ K, ∀ w', Kept No w w' → w'.cell? ⟨c, 2, none⟩ = some (.slice (some ⟨K, 0, none⟩) 4 4) ∧ ∀ j, j < 4 → w'.cell? ⟨K, j, none⟩ = some (mth (16 + j) c) := by
  obtain ⟨M, K, h1, h2, h3⟩ := h.ex
  refine ⟨K, fun w' hk => ⟨by rw [cell_of (hk.heap h1 id)]; rfl, fun j hj => ?_⟩⟩
  rw [cell_of (hk.heap h2 id)]
  match j, hj with
  | 0, _ => rfl
  | 1, _ => rfl
  | 2, _ => rfl
  | 3, _ => rfl

set_option maxRecDepth 20000 in
set_option maxHeartbeats 2000000 in
theorem token_is {w : World} {c : Nat} {s : ByteArray} (h : Cu w c s) (he : ErrIs w) (hg : SgIs w) (k : Nat) (hk : k < s.size) (hs : s.size ≤ 8192) (X : Tk) (x : Int) (hX : (X, x) = pick (asks s k hs)) :
    Calls Tryz.prog 11 #[.pointer (some ⟨c, 0, none⟩), .int .i64 (k : Int)] w fun r w' => r = .returned (.tuple #[tv X, .int .i64 x]) ∧ Kept No w w' := by
  obtain ⟨W, HW⟩ : ∃ W, Hid (W = w.alloc (.cells #[.int .i64 0, .string ⟨#[]⟩, .int .i64 0, .int .i64 0, .string ⟨#[]⟩, .int .i64 0, .int .i64 0] 38)) := ⟨_, show _ = _ from rfl⟩
  have HK : Hid (Kept No w W) := by show Kept _ _ _; rw [HW.out]; exact (Kept.refl No w).alloc _
  have HR0 : Hid (W.heap[w.heap.size]? = some (tb t0)) := by show _ = _; rw [HW.out]; exact World.alloc_heap_new w _
  obtain ⟨K, hK⟩ := h.ask
  have c2 : ∀ o, (w.alloc o).cell? ⟨c, 2, none⟩ = some (.slice (some ⟨K, 0, none⟩) 4 4) := fun o => (hK _ ((Kept.refl No w).alloc o)).1
  have HKc : Hid (∀ w', Kept No w w' → ∀ j, j < 4 → w'.cell? ⟨K, j, none⟩ = some (mth (16 + j) c)) := fun w' hk => (hK w' hk).2
  have HAsk : Hid (∀ w', Kept No w w' → ∀ j (hj : j < 4), Calls Tryz.prog (16 + j) #[.pointer (some ⟨c, 0, none⟩), .int .i64 (k : Int)] w' fun r w'' => r = .returned (.tuple #[tv ((asks s k hs)[j]'hj).1, .int .i64 ((asks s k hs)[j]'hj).2]) ∧ Kept No w' w'') := fun w' hk' j hj => ask_any (h.no hk') (he.no hk') (hg.no hk') k hk hs j hj
  have HX : Hid ((X, x) = _) := hX
  obtain ⟨L, HL⟩ : ∃ L : List (Tk × Int), Hid (asks s k hs = L) := ⟨_, show _ = _ from rfl⟩
  have hLl : L.length = 4 := by rw [← HL.out]; rfl
  have HAsk2 : Hid (∀ w', Kept No w w' → ∀ j (hj : j < L.length), Calls Tryz.prog (16 + j) #[.pointer (some ⟨c, 0, none⟩), .int .i64 (k : Int)] w' fun r w'' => r = .returned (.tuple #[tv (L[j]'hj).1, .int .i64 (L[j]'hj).2]) ∧ Kept No w' w'') := by
    have e := HL.out; subst e; exact fun w' hk j hj => HAsk.out w' hk j hj
  rw [HL.out] at HX
  clear hX h he hg hK HAsk HL
  obtain ⟨R, HRR⟩ : ∃ R, Hid (w.heap.size = R) := ⟨_, show _ = _ from rfl⟩
  rw [HRR.out] at HR0
  have HwR : Hid (w.heap.size ≤ R) := by show _ ≤ _; rw [HRR.out]; exact Nat.le_refl _
  go_enter Tryz.func11, Tryz.ntmps11
  go_wp2_with fail
  rw [← HW.out, HRR.out]
  clear HW HRR c2
  go_loopw [15] (fun i wr => ∃ j : Nat, j ≤ 4 ∧ i = .int .i64 j ∧ Hid (Kept No w wr) ∧ Hid (wr.heap[R]? = some (tb t0)) ∧ Hid (pick (L.drop j) = pick L)) (fun i _ => 4 - (intOf i).toNat)
  case atStart => exact ⟨0, by omega, rfl, HK.out, HR0.out, rfl⟩
  case round =>
    clear HK HR0
    obtain ⟨j, hj, rfl, HK, HR0, HJ⟩ := hrel
    by_cases hlt : j < 4
    · have dlt : decide ((j : Int) < 4) = true := decide_eq_true (by omega)
      have lt4 : (j : Int) < 4 := by omega
      have hcj := HKc.out _ HK.out j hlt
      have HA := HAsk2.out _ HK.out j (by omega)
      have Hd : Hid (L.drop j = L[j] :: L.drop (j + 1)) := List.drop_eq_getElem_cons (by omega)
      unfold mth at hcj
      have hca := callAsk j hlt
      generalize L[j] = p at HA Hd
      obtain ⟨⟨pk, pt, pvt, pvn, psy, pa, pe⟩, x1⟩ := p
      have HA2 : Hid _ := HA
      clear HA
      go_wp2_with fail
      refine Calls.mono HA2.out ?_
      rintro e W1 ⟨rfl, hk1⟩
      have HK1 : Hid (Kept No w W1) := HK.out.trans hk1
      have HR1 : Hid (W1.heap[R]? = some (tb t0)) := hk1.heap HR0.out id
      obtain ⟨r3, r4, r5, r6, r7, r8, r9⟩ := tbo_cells (Kept.refl No W1) HR1.out
      have t2' := fun o p => tb_frozen (((Kept.refl No W1).alloc o).heap HR1.out id) p
      dsimp only [t0] at r3 r4 r5 r6 r7 r8 r9
      have hRne : R ≠ W1.heap.size := by have := hp_lt HR1.out; omega
      clear HA2 hca hcj hk1 HR0 HAsk2 HKc
      unfold tv
      dsimp only
      by_cases hx : x1 = 0
      · subst hx
        by_cases hp : pk = 0
        · subst hp
          have HJ2 : Hid (pick (L.drop (j + 1)) = pick L) := by
            show _ = _
            rw [← HJ.out, Hd.out]
            unfold pick
            rw [List.find?_cons]
            rfl
          have HR2 : Hid (∀ o, (W1.alloc o).heap[R]? = some (tb t0)) := fun o => ((Kept.refl No W1).alloc o).heap HR1.out id
          clear HJ Hd HX
          go_wp2_with fail
          go_roundw
          case rel => exact ⟨j + 1, by omega, by go_num, HK1.out.alloc _, HR2.out _, HJ2⟩
          case measure => simp [intOf] <;> omega
        · have hpb : (pk == 0) = false := by simp [hp]
          have HIT : hit (⟨pk, pt, pvt, pvn, psy, pa, pe⟩, 0) = true := by simp [hit, hp]
          clear hp
          have HXX : Hid (X = ⟨pk, pt, pvt, pvn, psy, pa, pe⟩ ∧ x = 0) := by
            have hh := HX.out
            rw [← HJ.out, Hd.out] at hh
            unfold pick at hh
            rw [List.find?_cons, HIT] at hh
            dsimp only at hh
            exact ⟨congrArg Prod.fst hh, congrArg Prod.snd hh⟩
          clear HX HJ Hd
          go_wp2_with fail
          refine bodyPost_ret (v := .tuple #[tv ⟨pk, pt, pvt, pvn, psy, pa, pe⟩, .int .i64 0]) (by simp [results, Tryz.results11, go_sem, tv, t0, r3, r4, r5, r6, r7, r8, r9]) rfl ⟨by rw [HXX.out.1, HXX.out.2], ?_⟩
          exact (HK1.out.alloc _).set _ _ _ (Or.inr HwR.out)|>.set _ _ _ (Or.inr HwR.out)|>.set _ _ _ (Or.inr HwR.out)|>.set _ _ _ (Or.inr HwR.out)|>.set _ _ _ (Or.inr HwR.out)|>.set _ _ _ (Or.inr HwR.out)|>.set _ _ _ (Or.inr HwR.out)
      · have hxb : (x1 == 0) = false := by simp [hx]
        have HIT : hit (⟨pk, pt, pvt, pvn, psy, pa, pe⟩, x1) = true := by simp [hit, hx]
        clear hx
        have HXX : Hid (X = ⟨pk, pt, pvt, pvn, psy, pa, pe⟩ ∧ x = x1) := by
          have hh := HX.out
          rw [← HJ.out, Hd.out] at hh
          unfold pick at hh
          rw [List.find?_cons, HIT] at hh
          dsimp only at hh
          exact ⟨congrArg Prod.fst hh, congrArg Prod.snd hh⟩
        clear HX HJ Hd
        go_wp2_with fail
        refine bodyPost_ret (v := .tuple #[tv ⟨pk, pt, pvt, pvn, psy, pa, pe⟩, .int .i64 x1]) (by simp [results, Tryz.results11, go_sem, tv, t0, r3, r4, r5, r6, r7, r8, r9]) rfl ⟨by rw [HXX.out.1, HXX.out.2], ?_⟩
        exact (HK1.out.alloc _).set _ _ _ (Or.inr HwR.out)|>.set _ _ _ (Or.inr HwR.out)|>.set _ _ _ (Or.inr HwR.out)|>.set _ _ _ (Or.inr HwR.out)|>.set _ _ _ (Or.inr HwR.out)|>.set _ _ _ (Or.inr HwR.out)|>.set _ _ _ (Or.inr HwR.out)
    · obtain rfl : j = 4 := by omega
      have dlt : decide ((4 : Int) < 4) = false := by decide
      have HXX : Hid (X = t0 ∧ x = 15) := by
        have hh := HX.out
        rw [← HJ.out, List.drop_eq_nil_of_le (by omega)] at hh
        exact ⟨congrArg Prod.fst hh, congrArg Prod.snd hh⟩
      obtain ⟨r3, r4, r5, r6, r7, r8, r9⟩ := tb_cells HR0.out
      have t2' := fun o => tb_frozen HR0.out o
      dsimp only [t0] at r3 r4 r5 r6 r7 r8 r9
      clear HJ HX HAsk2 HKc
      go_wp2_with fail
      refine bodyPost_ret (v := .tuple #[tv t0, .int .i64 15]) (by simp [results, Tryz.results11, go_sem, tv, t0, r3, r4, r5, r6, r7, r8, r9]) rfl ⟨by rw [HXX.out.1, HXX.out.2], ?_⟩
      exact HK.out.set _ _ _ (Or.inr HwR.out)|>.set _ _ _ (Or.inr HwR.out)|>.set _ _ _ (Or.inr HwR.out)|>.set _ _ _ (Or.inr HwR.out)|>.set _ _ _ (Or.inr HwR.out)|>.set _ _ _ (Or.inr HwR.out)|>.set _ _ _ (Or.inr HwR.out)
/-- The token at a place, or its error. -/
noncomputable def tkAt (s : ByteArray) (k : Nat) (hs : s.size ≤ 8192) : Tk × Int := pick (asks s k hs)
theorem token_any {w : World} {c : Nat} {s : ByteArray} (h : Cu w c s) (he : ErrIs w) (hg : SgIs w) (k : Nat) (hk : k < s.size) (hs : s.size ≤ 8192) :
    Calls Tryz.prog 11 #[.pointer (some ⟨c, 0, none⟩), .int .i64 (k : Int)] w fun r w' => r = .returned (.tuple #[tv (tkAt s k hs).1, .int .i64 (tkAt s k hs).2]) ∧ Kept No w w' := token_is h he hg k hk hs _ _ rfl
end Go.Proofs.YtidokamfppdnaaaGreatDoor
