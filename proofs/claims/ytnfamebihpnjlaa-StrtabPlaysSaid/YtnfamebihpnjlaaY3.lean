/- long, made; StrtabSpreads. -/
import Derived.Test.YtnfamebihpnjlaaY2
namespace Go.Proofs.Ytnfamebihpnjlaa
open Go.RowKit
set_option linter.unusedVariables false
set_option linter.unusedSimpArgs false

set_option maxRecDepth 20000 in
set_option maxHeartbeats 1000000 in
theorem long_any {w : World} {v : Value} {L : List Ac} (hL : Acts w v L) : Calls Try.prog 12 #[v] w fun e w' => ∃ t : Bool, e = .returned (.bool t) ∧ (t = false → L.length ≤ 100) ∧ w = w' := by
  obtain ⟨ao, cap, rfl, hwf, hcl⟩ := hL
  have HC : Hid (0 < L.length → ∃ b off, ao = some ⟨b, off, none⟩ ∧ ∀ i a, L[i]? = some a →
    w.cell? ⟨b, off + i * 3, none⟩ = some (.int .i64 a.kind) ∧ w.cell? ⟨b, off + i * 3 + 1, none⟩ = some (.string a.s) ∧ w.cell? ⟨b, off + i * 3 + 2, none⟩ = some (.int .i64 a.h)) := hcl
  clear hcl hwf
  go_enter Try.func12, Try.ntmps12
  go_wp2_with fail
  go_loop [3, 4] (fun n i => ∃ (z : Int) (j : Nat), j ≤ L.length ∧ j ≤ 101 ∧ n = .int .i64 z ∧ i = .int .i64 j) (fun _ i => 101 - (ivO i).toNat)
  case atStart => exact ⟨0, 0, by omega, by omega, rfl, rfl⟩
  case round =>
    obtain ⟨z, j, hj, hj1, rfl, rfl⟩ := hrel
    by_cases h1 : j < L.length
    · have k1 : (j : Int) < (L.length : Int) := by omega
      by_cases h2 : j ≤ 100
      · have k2 : (j : Int) ≤ 100 := by omega
        obtain ⟨b, off, rfl, hcell⟩ := HC.out (by omega)
        obtain ⟨a, ha⟩ : ∃ a, L[j]? = some a := ⟨L[j], List.getElem?_eq_getElem _⟩
        obtain ⟨c0, c1, c2⟩ := hcell j a ha
        go_wp2
        go_round
        case rel => exact ⟨_, j + 1, by omega, by omega, rfl, by first | rfl | go_num⟩
        case measure => simp [ivO] <;> omega
      · have k2 : ¬ (j : Int) ≤ 100 := by omega
        have k3 : (100 : Int) < (L.length : Int) := by omega
        go_wp2
        go_ret
        exact Or.inr ⟨rfl, rfl⟩
    · have k1 : ¬ (j : Int) < (L.length : Int) := by omega
      by_cases h3 : 100 < L.length
      · have k3 : (100 : Int) < (L.length : Int) := by omega
        go_wp2
        go_ret
        exact Or.inr ⟨rfl, rfl⟩
      · have k3 : ¬ (100 : Int) < (L.length : Int) := by omega
        by_cases h5 : 5000 < z
        · go_wp2
          go_ret
          exact Or.inr ⟨rfl, rfl⟩
        · go_wp2
          go_ret
          exact Or.inl ⟨rfl, by omega, rfl⟩

set_option maxRecDepth 20000 in
set_option maxHeartbeats 1000000 in
theorem lmade_any {w : World} {v : Value} {L : List Ac} (hL : Acts w v L) (hl : L.length ≤ 100) :
    Calls Try.prog 24 #[v] w fun e w' => ∃ A, e = .returned (.pointer (some ⟨A, 0, none⟩)) ∧ Tab w w' A 100 (playC L) := by
  have HA : Hid (Acts w v L) := hL
  obtain ⟨ao, cap, rfl, hwf, hcl⟩ := hL
  clear hcl
  have HW : Hid (∀ a ∈ L, wf a.h ∧ a.s.size ≤ maxLen) := hwf
  clear hwf
  go_enter Try.func24, Try.ntmps24
  go_wp2_with fail
  refine (Tab.new w).mono ?_
  rintro e w1 ⟨A, rfl, h1⟩
  have H1 : Hid (Tab w w1 A 0 (playC (L.take 0))) := h1
  clear h1
  go_wp2_with fail
  go_loopw [4] (fun i wr => ∃ j : Nat, j ≤ L.length ∧ i = .int .i64 j ∧ Hid (Tab w wr A j (playC (L.take j)))) (fun i _ => L.length - (ivO i).toNat)
  case atStart => exact ⟨0, Nat.zero_le _, rfl, H1.out⟩
  case round =>
    clear H1
    obtain ⟨j, hj, rfl, HT⟩ := hrel
    by_cases h1 : j < L.length
    · have k1 : (j : Int) < (L.length : Int) := by omega
      obtain ⟨ao', cap', hv, _, hcl⟩ := HA.out.kept HT.out.since
      injection hv with e1 e2 e3
      subst e1
      clear e2 e3
      obtain ⟨b, off, rfl, hcell⟩ := hcl (by omega)
      obtain ⟨a, ha⟩ : ∃ a, L[j]? = some a := ⟨L[j], List.getElem?_eq_getElem _⟩
      obtain ⟨c0, c1, c2⟩ := hcell j a ha
      have HX : Hid (playC (L.take (j + 1)) = doC (playC (L.take j)) a) := by
        show _ = _
        rw [List.take_add_one, ha]; exact playC_snoc _ _
      have HWa := HW.out a (List.mem_of_getElem? ha)
      have HD : Hid _ := HT.out.do (by omega) a HWa.1 HWa.2
      clear HWa ha hcell hcl HT
      obtain ⟨kind, s, x⟩ := a
      go_wp2_with fail
      refine Calls.mono HD.out ?_
      rintro e w2 ⟨⟨v, rfl⟩, h2⟩
      rw [← HX.out] at h2
      have HT : Hid (Tab w w2 A (j + 1) (playC (L.take (j + 1)))) := h2
      clear h2 HD c0 c1 c2
      go_wp2
      go_round
      case rel => exact ⟨j + 1, by omega, by first | rfl | go_num, HT.out⟩
      case measure => simp [ivO] <;> omega
    · have k1 : ¬ (j : Int) < (L.length : Int) := by omega
      obtain rfl : j = L.length := by omega
      go_wp2
      go_ret
      refine ⟨A, rfl, ?_⟩
      have := HT.out.more hl
      rwa [List.take_length] at this
end Go.Proofs.Ytnfamebihpnjlaa
