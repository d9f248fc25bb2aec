/- freeHandle, New. -/
import Derived.Test.YtdaklohfecinjaaA15
namespace Go.Proofs.Ytdaklohfecinjaa
open Go.RowKit
set_option linter.unusedSimpArgs false
set_option linter.unusedVariables false

/-- The least handle that may be free, as it stands in memory. -/
def leastOf (A : Nat) (w : World) : Nat := match w.cell? ⟨A, 4, none⟩ with | some (.int _ q) => q.toNat | _ => 0

set_option maxHeartbeats 1000000 in
theorem freeHandle_any {A C M F f size least n N : Nat} {g : Int → Option Nat} (w : World) (hA : w.heap[A]? = some (ar C M F f size least)) (hM : MapIs w M n g) (hN : least ≤ N) (hN2 : N ≤ 1000000) (hgN : g N = none) :
    Calls Try.prog 59 #[.pointer (some ⟨A, 0, none⟩)] w fun e w' => ∃ k : Nat, e = .returned (.int .i64 k) ∧ least ≤ k ∧ k ≤ N ∧ g k = none ∧ (∀ i : Nat, least ≤ i → i < k → g i ≠ none) ∧ w'.heap[A]? = some (ar C M F f size k) ∧ Kept (Only A) w w' ∧ w'.heap.size = w.heap.size := by
  have HM : Hid (MapIs w M n g) := hM
  have hMA : M ≠ A := hM.not_cells hA
  have HN : Hid (g N = none) := hgN
  have HA : Hid (w.heap[A]? = some (ar C M F f size least)) := hA
  clear hM hgN hA
  go_enter Try.func59, Try.ntmps59
  go_wp2
  go_loopw [] (fun wr => ∃ k : Nat, least ≤ k ∧ k ≤ N ∧ (∀ i : Nat, least ≤ i → i < k → g i ≠ none) ∧ wr.heap[A]? = some (ar C M F f size k) ∧ Kept (Only A) w wr ∧ wr.heap.size = w.heap.size) (fun wr => N - leastOf A wr)
  case atStart => exact ⟨least, Nat.le_refl _, hN, fun i h1 h2 => by omega, HA.out, Kept.refl _ _, rfl⟩
  case round =>
    obtain ⟨k, hk1, hk2, hk3, hkA, hkk, hsz⟩ := hrel
    have HK : Hid ((∀ i : Nat, least ≤ i → i < k → g i ≠ none) ∧ wr.heap[A]? = some (ar C M F f size k) ∧ Kept (Only A) w wr ∧ wr.heap.size = w.heap.size) := ⟨hk3, hkA, hkk, hsz⟩
    obtain ⟨a0, a1, a2, a3, a4⟩ := ar_cells hkA
    obtain ⟨f3, f4⟩ := ar_frozen hkA
    have hMk : Hid (∀ m, MapIs (wr.drewN m) M n g) := fun m => HM.out.kept (hkk.drewN m) hMA
    have hl : ∀ m, (Instr.lookup 62 (.map (some M)) (.int .i64 (k : Int)) false).run Try.prog (wr.drewN m) = .ok (.pointer (pt (g k))) (wr.drewN m) := fun m => (hMk.out m).look (wf_of (by omega) (by omega))
    have ek : leastOf A wr = k := by unfold leastOf; rw [a4]; simp
    clear hk3 hkA hkk hsz
    cases hg : g k with
    | none =>
      rw [hg, pt_none] at hl
      have HG : Hid (g k = none) := hg
      clear hg ek
      go_wp2
      go_quiet (fail)
      go_wp2
      go_ret
      exact ⟨k, rfl, hk1, hk2, HG.out, HK.out.1, HK.out.2.1, HK.out.2.2.1.drewN _, HK.out.2.2.2⟩
    | some p =>
      rw [hg, pt_some] at hl
      have HG : Hid (g k = some p) := hg
      have HE : Hid (leastOf A wr = k) := ek
      clear hg ek
      go_wp2
      go_quiet (fail)
      go_wp2
      go_roundw
      case rel =>
        have hne : k ≠ N := by rintro rfl; have := HG.out; rw [HN.out] at this; cases this
        refine ⟨k + 1, by omega, by omega, fun i h1 h2 => ?_, ?_, (HK.out.2.2.1.drewN _).set A 4 _ (.inl rfl), ?_⟩
        · by_cases e : i = k
          · rw [e, HG.out]; simp
          · exact HK.out.1 i h1 (by omega)
        · exact hp_set_same (w := wr.drewN nq) HK.out.2.1 4 _
        · rw [size_set]; exact HK.out.2.2.2
      case measure =>
        have hne : k ≠ N := by rintro rfl; have := HG.out; rw [HN.out] at this; cases this
        have e2 : leastOf A ((wr.drewN nq).setCell ⟨A, 4, none⟩ (.int .i64 ((k : Int) + 1))) = k + 1 := by
          unfold leastOf
          rw [cell_of (hp_set_same (w := wr.drewN nq) HK.out.2.1 4 _)]
          simp
        rw [HE.out, e2]; omega
end Go.Proofs.Ytdaklohfecinjaa
