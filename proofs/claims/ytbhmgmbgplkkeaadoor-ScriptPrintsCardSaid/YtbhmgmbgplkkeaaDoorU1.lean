/- May a point be; how many are alike; why a scene may not be. -/
import Derived.Test.YtbhmgmbgplkkeaaDoorM3
import Derived.Test.YtbhmgmbgplkkeaaDoorP7
import Derived.Test.YtbhmgmbgplkkeaaDoorQ0
namespace Go.Proofs.YtbhmgmbgplkkeaaDoor
open Go.RowKit
set_option linter.unusedSimpArgs false
set_option linter.unusedVariables false

theorem rowV_r0' : rowV ((none : Option Row).getD r0) = .agg #[.int .i64 0, .string ⟨#[]⟩, .bool false, .int .i64 0] := rfl
theorem rowV_some' (k : Int) (wd : List UInt8) (nm : Bool) (mo : Int) : rowV ((some (Row.mk k wd nm mo)).getD r0) = .agg #[.int .i64 k, .string (mk wd), .bool nm, .int .i64 mo] := rfl

set_option maxRecDepth 20000 in
set_option maxHeartbeats 2000000 in
theorem mayBePoint_any (p : V) (w : World) (hr : RowsIs w) :
    Calls Tryd.prog 41 #[AV p] w fun e w' => e = .returned (.bool (fitsP p)) ∧ Kept No w w' := by
  obtain ⟨k, n⟩ := p
  obtain ⟨W, HW⟩ : ∃ W, Hid (W = w.alloc (.cells #[.int .i64 k, .int .i64 n] 45)) := ⟨_, rfl⟩
  have HK : Hid (Kept No w W) := by show Kept _ _ _; rw [HW.out]; exact (Kept.refl No w).alloc _
  have HB : Hid (W.heap[w.heap.size]? = some (.cells #[.int .i64 k, .int .i64 n] 45 (0, 0))) := by show _ = _; rw [HW.out]; exact World.alloc_heap_new w _
  obtain ⟨b, hb⟩ : ∃ b, Hid (b = w.heap.size) := ⟨_, rfl⟩
  have HR : Hid _ := rowOfKind_any k W (hr.no HK.out)
  have c0 : W.cell? ⟨b, 0, none⟩ = some (.int .i64 k) := by rw [hb.out, cell_of HB.out]; rfl
  have HF : Hid (fitsP (k, n) = match rowK k with | some r => decide (0 ≤ n) && decide (n ≤ r.most) | none => false) := rfl
  show Calls Tryd.prog 41 #[.agg #[.int .i64 k, .int .i64 n]] w fun e w' => e = .returned (.bool (fitsP (k, n))) ∧ Kept No w w'
  obtain ⟨F, HFF⟩ : ∃ F, Hid (fitsP (k, n) = F) := ⟨_, rfl⟩
  rw [HFF.out]
  clear hr
  go_enter Tryd.func41, Tryd.ntmps41
  go_wp2_with (first | rw [← HW.out, ← hb.out])
  refine Calls.mono HR.out ?_
  rintro e w1 ⟨rfl, hk1⟩
  have hB1 : w1.heap[b]? = some (.cells #[.int .i64 k, .int .i64 n] 45 (0, 0)) := by rw [hb.out]; exact hk1.heap HB.out id
  have hl : b < w1.heap.size := hp_lt hB1
  have q1 : ∀ o, (w1.alloc o).cell? ⟨b, 1, none⟩ = some (.int .i64 n) := fun o => by rw [cell_alloc_old _ _ _ _ hl, cell_of hB1]; rfl
  have HK2 : Hid (∀ o, Kept No w (w1.alloc o)) := fun o => (HK.out.trans hk1).alloc o
  clear hk1 hB1 c0 HR HB
  have HF2 : Hid (F = match rowK k with | some r => decide (0 ≤ n) && decide (n ≤ r.most) | none => false) := by show _ = _; rw [← HFF.out]; exact HF.out
  clear HF HFF
  generalize rowK k = Z at HF2 ⊢
  rcases Z with _ | ⟨k', wd, nm, mo⟩
  · rw [rowV_r0']
    have hF : F = false := HF2.out
    clear HF2
    go_wp2
    go_ret
    exact ⟨by rw [hF]; rfl, HK2.out _⟩
  · rw [rowV_some']
    have hF : Hid (F = (decide (0 ≤ n) && decide (n ≤ mo))) := HF2.out
    clear HF2
    by_cases h0 : (0 : Int) ≤ n <;> by_cases h1 : n ≤ mo <;> (go_wp2; go_ret; exact ⟨by rw [hF.out]; simp [h0, h1], HK2.out _⟩)

set_option maxRecDepth 20000 in
set_option maxHeartbeats 2000000 in
theorem alike_any {w : World} {lv : Value} {L : List V} (hL : RdV w lv L) (hn : L.length ≤ 100000) (h0 : L ≠ []) :
    Calls Tryd.prog 29 #[lv] w fun e w' => e = .returned (.int .i64 (aliF L : Int)) ∧ ∃ m, w' = w.drewN m := by
  obtain ⟨ao, cap, rfl, hcap, hC⟩ := hL
  have hlen : 0 < L.length := by
    cases L with
    | nil => exact absurd rfl h0
    | cons p r => simp
  obtain ⟨b, off, rfl, c0, c1⟩ := hC 0 hlen
  have HC : Hid (∀ j (hj : j < L.length), w.cell? ⟨b, off + j * 2, none⟩ = some (.int .i64 L[j].1) ∧ w.cell? ⟨b, off + j * 2 + 1, none⟩ = some (.int .i64 L[j].2)) := fun j hj => by
    obtain ⟨b', off', e1, h1⟩ := hC j hj
    injection e1 with e1
    injection e1 with e1 e2
    subst e1 e2
    exact h1
  replace c0 : w.cell? ⟨b, off, none⟩ = some (.int .i64 L[0].1) := by simpa using c0
  replace c1 : w.cell? ⟨b, off + 1, none⟩ = some (.int .i64 L[0].2) := by simpa using c1
  have hh : Hid (L.head? = some L[0]) := by show _ = _; rw [List.head?_eq_getElem?]; exact List.getElem?_eq_getElem hlen
  have HA : Hid (∀ i, i < aliF L → L[i]? = some L[0]) := fun i hi => by rw [aliF_at L i hi]; exact hh.out
  have HE : Hid (aliF L < L.length → L[aliF L]? ≠ some L[0]) := fun hi => by rw [← hh.out]; exact aliF_end L hi
  have hal := aliF_le L
  have hap : 1 ≤ aliF L := by
    cases L with
    | nil => exact absurd rfl h0
    | cons p r => exact aliF_pos p r
  generalize L[0] = p at c0 c1 hh HA HE
  obtain ⟨p1, p2⟩ := p
  generalize aliF L = A at HA HE hal hap ⊢
  clear hC hh
  go_enter Tryd.func29, Tryd.ntmps29
  go_wp2_with fail
  go_loopw [3] (fun i wr => ∃ j : Nat, 1 ≤ j ∧ j ≤ A ∧ i = .int .i64 j ∧ Hid (∃ m, wr = w.drewN m)) (fun i _ => A - (intOf i).toNat)
  case atStart => exact ⟨1, by omega, by omega, rfl, 0, rfl⟩
  case round =>
    obtain ⟨j, hj1, hj, rfl, HM⟩ := hrel
    obtain ⟨m0, rfl⟩ := HM.out
    have HMd : Hid (∀ q, ∃ m, (w.drewN m0).drewN q = w.drewN m) := fun q => ⟨m0 + q, by rw [World.drewN_drewN] ⟩
    have jz : (0 : Int) < (L.length : Int) := by omega
    by_cases hlt : j < L.length
    · have dl : decide ((j : Int) < (L.length : Int)) = true := by rw [decide_eq_true_eq]; omega
      have jl : (j : Int) < (L.length : Int) := by omega
      obtain ⟨k0, k1⟩ := HC.out j hlt
      have hat : L[j]? = some L[j] := List.getElem?_eq_getElem hlt
      by_cases hjA : j < A
      · have hp := HA.out j hjA
        rw [hat] at hp
        injection hp with hp
        rw [hp] at k0 k1
        clear hat hp
        go_wp2_with fail
        go_quiet (fail)
        go_wp2
        go_round
        case rel => exact ⟨j + 1, by omega, by omega, by go_num, _, rfl⟩
        case measure => simp [intOf] <;> omega
      · obtain rfl : j = A := by omega
        have hp := HE.out hlt
        rw [hat] at hp
        have hp : ¬ (L[j].1 = p1 ∧ L[j].2 = p2) := fun h => hp (congrArg some (Prod.ext h.1 h.2))
        generalize L[j].1 = q1 at k0 hp
        generalize L[j].2 = q2 at k1 hp
        clear hat
        by_cases h1 : q1 = p1
        · subst h1
          have h2 : (q2 == p2) = false := by rw [beq_eq_false_iff_ne]; exact fun e => hp ⟨rfl, e⟩
          clear hp
          go_wp2_with fail
          go_quiet (fail)
          go_wp2
          go_ret
          exact ⟨rfl, HMd.out _⟩
        · have h2 : (q1 == p1) = false := by rw [beq_eq_false_iff_ne]; exact h1
          clear hp
          go_wp2_with fail
          go_quiet (fail)
          go_wp2
          go_ret
          exact ⟨rfl, HMd.out _⟩
    · have dl : decide ((j : Int) < (L.length : Int)) = false := by rw [decide_eq_false_iff_not]; omega
      obtain rfl : j = A := by omega
      go_wp2_with fail
      go_quiet (fail)
      go_wp2
      go_ret
      exact ⟨rfl, HMd.out _⟩
end Go.Proofs.YtbhmgmbgplkkeaaDoor
