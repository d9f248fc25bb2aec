/- atPowers, sizes. -/
import Derived.Test.YthefmfjlinpepaaE0
import Derived.Test.YthefmfjlinpepaaB1
import Derived.Test.YthefmfjlinpepaaB2
namespace Go.Proofs.Ythefmfjlinpepaa
open Go.RowKit Go.Shelf
set_option linter.unusedSimpArgs false
set_option linter.unusedVariables false
attribute [local go_sem] Oper.semAt_some

/-- May a key lie in an array? -/
def powB (k : Int × Int) : Bool := k.1 == 2 && (decide (1 ≤ k.2) && decide (k.2 ≤ 4096))
/-- The power of two from which on it may. -/
def lenK (k : Int × Int) : Nat := Lib.bitLen (k.2 - 1).toNat
/-- How many keys have just that power. -/
def cnt (L : List Ent) (p : Nat) : Nat := (L.filter fun e => powB e.1 && lenK e.1 == p).length
theorem cnt_snoc (L : List Ent) (e : Ent) (p : Nat) : cnt (L ++ [e]) p = cnt L p + (if (powB e.1 && lenK e.1 == p) = true then 1 else 0) := by
  unfold cnt
  rw [List.filter_append, List.length_append]
  congr 1
  cases h : (powB e.1 && lenK e.1 == p) <;> simp [h]
theorem cnt_le (L : List Ent) (p : Nat) : cnt L p ≤ L.length := List.length_filter_le _ _
theorem lenK_le {k : Int × Int} (h : powB k = true) : lenK k ≤ 12 := by
  simp only [powB, Bool.and_eq_true, decide_eq_true_eq] at h
  exact Lib.bitLen_le _ 12 (by decide) (by omega)
theorem Len64_any (m : Nat) (hm : m ≤ 4095) (w : World) : Calls Try.prog 90 #[.int .u64 (m : Int)] w fun e w' => e = .returned (.int .i64 (Lib.bitLen m : Nat)) ∧ w = w' := by
  rcases Nat.lt_or_ge m 256 with h | h
  · have := Len64_one (m : Int) w (by omega) (by omega)
    simpa using this
  · have := Len64_two (m : Int) w (by omega) (by omega)
    simpa using this

/-- Thirteen numbers. -/
def cntO (c : Nat → Nat) : Array Value := ((List.range 13).map fun p => Value.int .i64 (c p : Int)).toArray
theorem cntO_get (c : Nat → Nat) (k : Nat) (h : k < 13) : (cntO c)[k]? = some (.int .i64 (c k : Int)) := by simp [cntO, h]
theorem cntO_set (c c' : Nat → Nat) (k : Nat) (h : k < 13) (hc : ∀ p, c' p = c p + (if k = p then 1 else 0)) : (cntO c).setIfInBounds k (.int .i64 ((c k : Int) + 1)) = cntO c' := by
  apply Array.ext_getElem?
  intro i
  rw [Array.getElem?_setIfInBounds]
  by_cases hi : k = i
  · subst hi
    rw [if_pos rfl, if_pos (by simp [cntO, h]), cntO_get _ _ h, hc k, if_pos rfl]; simp
  · rw [if_neg hi]
    by_cases h13 : i < 13
    · rw [cntO_get _ _ h13, cntO_get _ _ h13, hc i, if_neg hi]; simp
    · simp [cntO, h13]
theorem cntO_zero : cntO (fun _ => 0) = #[.int .i64 0, .int .i64 0, .int .i64 0, .int .i64 0, .int .i64 0, .int .i64 0, .int .i64 0, .int .i64 0, .int .i64 0, .int .i64 0, .int .i64 0, .int .i64 0, .int .i64 0] := rfl
theorem cntO_size (c : Nat → Nat) : (cntO c).size = 13 := by simp [cntO]
theorem cntO_one (c : Nat → Nat) : (cntO c).all (·.oneCell') = true := by
  rw [Array.all_eq_true]
  intro i hi
  simp [cntO, Value.oneCell']

/-- While keys are counted: the answer's block, the counts' block. -/
structure AI (w : World) (c : Nat → Nat) (W : World) : Prop where
  r : W.heap[w.heap.size]? = some (.cells (cntO (fun _ => 0)) 123 (0, 0))
  c : W.heap[w.heap.size + 1]? = some (.cells (cntO c) 123 (0, 0))
  kp : Kept No w W

set_option maxRecDepth 20000 in
set_option maxHeartbeats 4000000 in
theorem atPowers_nil (w : World) :
    Calls Try.prog 84 #[.slice none 0 0] w fun e w' => e = .returned (.agg (cntO (cnt []))) ∧ Kept No w w' := by
  have ez : cntO (cnt []) = cntO (fun _ => 0) := rfl
  have HA0 : Hid (AI w (fun _ => 0) ((w.alloc (.cells (cntO (fun _ => 0)) 123)).alloc (.cells (cntO (fun _ => 0)) 123))) := by
    refine ⟨heap_old (heap_new1 w _) _, ?_, ((Kept.refl _ _).alloc _).alloc _⟩
    have := heap_new1 (w.alloc (.cells (cntO (fun _ => 0)) 123)) (.cells (cntO (fun _ => 0)) 123); rw [World.size_alloc] at this; exact this
  rw [ez]
  have HZ : Hid (cntO (fun _ => 0) = #[.int .i64 0, .int .i64 0, .int .i64 0, .int .i64 0, .int .i64 0, .int .i64 0, .int .i64 0, .int .i64 0, .int .i64 0, .int .i64 0, .int .i64 0, .int .i64 0, .int .i64 0]) := cntO_zero
  rw [HZ.out] at HA0 ⊢
  clear ez
  go_enter Try.func84, Try.ntmps84
  go_wp2_with fail
  generalize (w.alloc _).alloc _ = W0 at HA0 ⊢
  go_loopw [8] (fun i wr => i = .int .i64 0 ∧ Hid (AI w (fun _ => 0) wr)) (fun i _ => 0)
  case atStart => exact ⟨rfl, HA0.out⟩
  case round =>
    obtain ⟨rfl, HA⟩ := hrel
    have hz : w.heap.size + 1 < wr.heap.size := hp_lt HA.out.c
    go_wp2_with (first | (refine wpList_load_row rfl 123 (.tmp 3) rfl (w.heap.size + 1) rfl 123 (cntO (fun _ => 0)) (0, 0) _ HA.out.c Try.underlying123 rfl (by rw [cntO_size]; kernel_rfl) ?_) | (refine wpList_store_row rfl 123 (.tmp 2) (.tmp 39) rfl w.heap.size (cntO (fun _ => 0)) rfl rfl 123 _ HA.out.r (by rw [cntO_size]; kernel_rfl) (by rw [cntO_size]) (cntO_one _) ?_))
    refine bodyPost_ret (v := .agg (cntO (fun _ => 0))) (results_cell_row rfl _ _ w.heap.size 123 (cntO (fun _ => 0)) (0, 0) _ rfl (setRow_heap _ _ _ _ _ _ HA.out.r) Try.underlying123 rfl (by rw [cntO_size]; kernel_rfl)) rfl ⟨by rw [HZ.out], ?_⟩
    refine HA.out.kp.trans' (T := fun k => k = w.heap.size) ⟨rfl, rfl, rfl, by simp, fun k _ hn => setRow_other _ _ k _ hn⟩ (fun i e => .inr (by omega))

set_option maxRecDepth 20000 in
set_option maxHeartbeats 4000000 in
theorem atPowers_block (L : List Ent) (hL : L.length ≤ 1000) (b cap : Nat) (w : World) (hc : ∀ j e, L[j]? = some e → w.cell? ⟨b, j * 4, none⟩ = some (.int .i64 e.1.1) ∧ w.cell? ⟨b, j * 4 + 1, none⟩ = some (.int .i64 e.1.2) ∧ w.cell? ⟨b, j * 4 + 2, none⟩ = some (.int .i64 e.2.1) ∧ w.cell? ⟨b, j * 4 + 3, none⟩ = some (.int .i64 e.2.2)) :
    Calls Try.prog 84 #[.slice (some ⟨b, 0, none⟩) L.length cap] w fun e w' => e = .returned (.agg (cntO (cnt L))) ∧ Kept No w w' := by
  have HC : Hid (∀ j e, L[j]? = some e → w.cell? ⟨b, j * 4, none⟩ = some (.int .i64 e.1.1) ∧ w.cell? ⟨b, j * 4 + 1, none⟩ = some (.int .i64 e.1.2) ∧ w.cell? ⟨b, j * 4 + 2, none⟩ = some (.int .i64 e.2.1) ∧ w.cell? ⟨b, j * 4 + 3, none⟩ = some (.int .i64 e.2.2)) := hc
  clear hc
  obtain ⟨N, hN⟩ : ∃ N, N = L.length := ⟨_, rfl⟩
  rw [← hN] at hL ⊢
  have HN : Hid (N = L.length) := hN
  clear hN
  have HA0 : Hid (AI w (fun _ => 0) ((w.alloc (.cells (cntO (fun _ => 0)) 123)).alloc (.cells (cntO (fun _ => 0)) 123))) := by
    refine ⟨heap_old (heap_new1 w _) _, ?_, ((Kept.refl _ _).alloc _).alloc _⟩
    have := heap_new1 (w.alloc (.cells (cntO (fun _ => 0)) 123)) (.cells (cntO (fun _ => 0)) 123); rw [World.size_alloc] at this; exact this
  rw [cntO_zero] at HA0
  go_enter Try.func84, Try.ntmps84
  go_wp2_with fail
  generalize (w.alloc _).alloc _ = W0 at HA0 ⊢
  go_loopw [8] (fun i wr => ∃ j : Nat, j ≤ N ∧ i = .int .i64 j ∧ Hid (AI w (cnt (L.take j)) wr)) (fun i _ => N - (intOf i).toNat)
  case atStart => exact ⟨0, Nat.zero_le _, rfl, HA0.out⟩
  case round =>
    obtain ⟨j, hj, rfl, HA⟩ := hrel
    by_cases hlt : j < N
    · obtain ⟨e, he⟩ : ∃ e, L[j]? = some e := ⟨L[j]'(by rw [← HN.out]; exact hlt), List.getElem?_eq_getElem _⟩
      obtain ⟨g0, g1, g2, g3⟩ := HC.out j e he
      have HT : Hid (∀ p, cnt (L.take (j + 1)) p = cnt (L.take j) p + (if (powB e.1 && lenK e.1 == p) = true then 1 else 0)) := by
        intro p
        rw [List.take_add_one, he]
        exact cnt_snoc _ _ _
      obtain ⟨⟨k1, k2⟩, v1, v2⟩ := e
      have kb : Below w.heap.size w wr := HA.out.kp.below (Nat.le_refl _) (fun _ e => e.elim)
      have c0 : wr.cell? ⟨b, j * 4, none⟩ = some (.int .i64 k1) := cell_later kb g0
      have c1 : wr.cell? ⟨b, j * 4 + 1, none⟩ = some (.int .i64 k2) := cell_later kb g1
      have c2 : wr.cell? ⟨b, j * 4 + 2, none⟩ = some (.int .i64 v1) := cell_later kb g2
      have c3 : wr.cell? ⟨b, j * 4 + 3, none⟩ = some (.int .i64 v2) := cell_later kb g3
      have hz : w.heap.size + 1 < wr.heap.size := hp_lt HA.out.c
      have e1 : (0 : Int) ≤ (j : Int) := by omega
      have e2 : (j : Int) < (N : Int) := by omega
      clear g0 g1 g2 g3 kb he
      by_cases hp : powB (k1, k2) = true
      · have hq := lenK_le hp
        have HS : Hid (∀ p, cnt (L.take (j + 1)) p = cnt (L.take j) p + (if lenK (k1, k2) = p then 1 else 0)) := by
          intro p
          rw [HT.out p, hp]
          simp
        have hp' := hp
        simp only [powB, Bool.and_eq_true, decide_eq_true_eq, beq_iff_eq] at hp'
        obtain ⟨rfl, n1, n2⟩ := hp'
        obtain ⟨m, rfl⟩ : ∃ m : Nat, k2 = (m : Int) + 1 := ⟨(k2 - 1).toNat, by omega⟩
        have HQ : Hid (∀ W, Calls Try.prog 90 #[.int .u64 (m : Int)] W fun e w' => e = .returned (.int .i64 (lenK (2, (m : Int) + 1) : Nat)) ∧ W = w') := by
          intro W
          have := Len64_any m (by omega) W
          have e : lenK (2, (m : Int) + 1) = Lib.bitLen m := by unfold lenK; simp
          rw [e]; exact this
        generalize lenK (2, (m : Int) + 1) = q at hq HS HQ
        have m0 : (m : Int) + 1 - 1 = (m : Int) := by omega
        have m1 : (m : Int) ≤ 4095 := by omega
        have cC : wr.cell? ⟨w.heap.size + 1, q, none⟩ = some (.int .i64 (cnt (L.take j) q : Nat)) := by rw [cell_of HA.out.c]; exact cntO_get _ _ (by omega)
        have fC : wr.frozen? ⟨w.heap.size + 1, q, none⟩ = false := frozen_of HA.out.c q
        have hcl : cnt (L.take j) q ≤ 1000 := Nat.le_trans (cnt_le _ _) (by rw [List.length_take]; omega)
        have HX : Hid (∀ E, AI w (cnt (L.take (j + 1))) ((wr.setCell ⟨w.heap.size + 1, q, none⟩ (.int .i64 ((cnt (L.take j) q : Int) + 1))).alloc E)) := by
          intro E
          refine ⟨heap_old (hp_set_other HA.out.r _ _ (by omega)) E, heap_old ?_ E, (HA.out.kp.set _ _ _ (.inr (by omega))).alloc _⟩
          rw [hp_set_same HA.out.c]
          rw [cntO_set (cnt (L.take j)) (cnt (L.take (j + 1))) q (by omega) HS.out]
        have q1 : (0 : Int) ≤ (q : Int) := by omega
        have q2 : (q : Int) < 13 := by omega
        generalize cnt (L.take j) q = cq at cC hcl HX
        clear HA HT HS hp
        go_wp2_with (go_at_call 90; refine (HQ.out _).mono ?_; rintro e w' ⟨rfl, rfl⟩)
        go_roundw
        case rel => exact ⟨j + 1, by omega, by go_num, HX.out _⟩
        case measure => simp [intOf]; omega
      · have hpf : powB (k1, k2) = false := by simpa using hp
        have HX : Hid (∀ E, AI w (cnt (L.take (j + 1))) (wr.alloc E)) := by
          intro E
          have e : cnt (L.take (j + 1)) = cnt (L.take j) := by
            funext p; rw [HT.out p, hpf]; simp
          rw [e]
          exact ⟨heap_old HA.out.r E, heap_old HA.out.c E, HA.out.kp.alloc _⟩
        clear HA HT hp
        simp only [powB] at hpf
        by_cases h1 : k1 = 2
        · have h1' : (k1 == 2) = true := by simp [h1]
          rw [h1', Bool.true_and] at hpf
          by_cases h2 : 1 ≤ k2
          · have h3 : ¬ k2 ≤ 4096 := by
              intro h
              simp [h2, h] at hpf
            clear hpf
            go_wp2
            go_roundw
            case rel => exact ⟨j + 1, by omega, by go_num, HX.out _⟩
            case measure => simp [intOf]; omega
          · clear hpf
            go_wp2
            go_roundw
            case rel => exact ⟨j + 1, by omega, by go_num, HX.out _⟩
            case measure => simp [intOf]; omega
        · have h1' : (k1 == 2) = false := by simp [h1]
          clear hpf
          go_wp2
          go_roundw
          case rel => exact ⟨j + 1, by omega, by go_num, HX.out _⟩
          case measure => simp [intOf]; omega
    · have he : j = N := by omega
      subst he
      have HT : Hid (L.take j = L) := by show _ = _; rw [HN.out]; exact List.take_length
      rw [HT.out] at HA
      have hz : w.heap.size + 1 < wr.heap.size := hp_lt HA.out.c
      go_wp2_with (first | (refine wpList_load_row rfl 123 (.tmp 3) rfl (w.heap.size + 1) rfl 123 (cntO (cnt L)) (0, 0) _ HA.out.c Try.underlying123 rfl (by rw [cntO_size]; kernel_rfl) ?_) | (refine wpList_store_row rfl 123 (.tmp 2) (.tmp 39) rfl w.heap.size (cntO (cnt L)) rfl rfl 123 _ HA.out.r (by rw [cntO_size]; kernel_rfl) (by rw [cntO_size, cntO_size]) (cntO_one _) ?_))
      refine bodyPost_ret (v := .agg (cntO (cnt L))) (results_cell_row rfl _ _ w.heap.size 123 (cntO (cnt L)) (0, 0) _ rfl (setRow_heap _ _ _ _ _ _ HA.out.r) Try.underlying123 rfl (by rw [cntO_size]; kernel_rfl)) rfl ⟨rfl, ?_⟩
      refine HA.out.kp.trans' (T := fun k => k = w.heap.size) ⟨rfl, rfl, rfl, by simp, fun k _ hn => setRow_other _ _ k _ hn⟩ (fun i e => .inr (by omega))

theorem atPowers_any (L : List Ent) (hL : L.length ≤ 1000) (v : Value) (w : World) (hv : EntsIs w v L) :
    Calls Try.prog 84 #[v] w fun e w' => e = .returned (.agg (cntO (cnt L))) ∧ Kept No w w' := by
  rcases hv with ⟨rfl, rfl⟩ | ⟨b, c, rfl, hc⟩
  · exact atPowers_nil w
  · exact atPowers_block L hL b c w hc
end Go.Proofs.Ythefmfjlinpepaa
