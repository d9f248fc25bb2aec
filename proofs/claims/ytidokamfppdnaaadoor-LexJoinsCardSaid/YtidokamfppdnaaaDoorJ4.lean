/- LexBlanks. -/
import Derived.Test.YtidokamfppdnaaaDoorJ3
namespace Go.Proofs.YtidokamfppdnaaaDoor
open Go.RowKit
set_option linter.unusedSimpArgs false
set_option linter.unusedVariables false

theorem tm5 (k : Int) : -5 < k.tmod 5 ∧ k.tmod 5 < 5 := by
  have hn : (k.tmod 5).natAbs < 5 := by rw [Int.natAbs_tmod]; exact Nat.mod_lt _ (by decide)
  omega
theorem wrap_ok {x : Int} (h1 : -9223372036854775808 ≤ x) (h2 : x ≤ 9223372036854775807) : wrap64 x = x := by
  unfold wrap64; omega
theorem wrap_i {x : Int} (h1 : -9223372036854775808 ≤ x) (h2 : x ≤ 9223372036854775807) : IntKind.i64.wrap x = x := by rw [IntKind.wrap_i64]; omega
/-- A gap as a text. -/
def gB (K : Nat) : ByteArray := ⟨(gp K).toArray⟩
theorem gB_cell (W : World) (K : Nat) (hK : K < 5) : (W.alloc (.cells #[.string ⟨#[32]⟩, .string ⟨#[10]⟩, .string ⟨#[9, 13, 32]⟩, .string ⟨#[32, 45, 45, 32, 97, 32, 34, 98, 10]⟩, .string ⟨#[10, 45, 45, 10]⟩] 9)).cell? ⟨W.heap.size, K, none⟩ = some (.string (gB K)) := by
  rw [Lib.cell_of_heap (World.alloc_heap_new W _)]
  rcases (by omega : K = 0 ∨ K = 1 ∨ K = 2 ∨ K = 3 ∨ K = 4) with rfl | rfl | rfl | rfl | rfl <;> rfl
/-- The text so far. -/
def tx (L : List Tk) (K j : Nat) : ByteArray := ⟨(gp K ++ bB (L.take j) K).toArray⟩
theorem tx_bl (L : List Tk) (K j : Nat) : bl (tx L K j) = gp K ++ bB (L.take j) K := bl_mk _
theorem gB_bl (K : Nat) : bl (gB K) = gp K := bl_mk _
theorem bl_add (a b : ByteArray) : bl (a ++ b) = bl a ++ bl b := by unfold bl; rw [ByteArray.data_append, Array.toList_append]
theorem tx_zero (L : List Tk) (K : Nat) : tx L K 0 = gB K := by
  apply bl_inj; rw [tx_bl, gB_bl]; simp [bB]
theorem tx_succ (L : List Tk) (K j : Nat) (hj : j < L.length) : tx L K j ++ L[j].t ++ gB ((K + j) % 5) = tx L K (j + 1) := by
  apply bl_inj
  rw [bl_add, bl_add, tx_bl, tx_bl, gB_bl, List.take_succ_eq_append_getElem hj, bB_snoc, List.length_take, Nat.min_eq_left (by omega)]
  simp
theorem tot_at (L : List Tk) (j : Nat) (hj : j < L.length) : L[j].t.size ≤ tot L := by
  have h4 : tot (L.take (j + 1)) = tot (L.take j) + (L[j].t.size + 1) := by unfold tot; rw [List.take_succ_eq_append_getElem hj, List.map_append, List.sum_append]; simp only [List.map_cons, List.map_nil, List.sum_cons, List.sum_nil, Nat.add_zero]
  have h5 := tot_take L (j + 1)
  omega
theorem gp_len (K : Nat) : (gp K).length ≤ 9 := by unfold gp; split <;> decide
theorem bB_le : ∀ (L : List Tk) (K : Nat), (bB L K).length ≤ 9 * tot L
  | [], K => by simp [bB]
  | X :: L, K => by
    have h1 := bB_le L (K + 1)
    have h2 := gp_len (K % 5)
    have e : tot (X :: L) = X.t.size + 1 + tot L := by simp [tot]
    rw [e]
    simp only [bB, List.length_append, bl_len]
    omega
theorem tx_le (L : List Tk) (K j : Nat) : (tx L K j).size ≤ 9 + 9 * tot L := by
  rw [← bl_len, tx_bl, List.length_append]
  have h1 := gp_len K
  have h2 := bB_le (L.take j) K
  have h3 := tot_take L j
  omega

set_option maxRecDepth 20000 in
set_option maxHeartbeats 2000000 in
theorem blanks_err (s : ByteArray) (k : Int) (w : World) (he : ErrIs w) (hg : SgIs w) (at' x : Int) (hx : x ≠ 0)
    (hL : Calls Tryd.prog 13 #[.string s] w fun r w' => r = .returned (.tuple #[.slice none 0 0, .int .i64 at', .int .i64 x]) ∧ Kept No w w') :
    Calls Tryd.prog 6 #[.string s, .int .i64 k] w fun r w' => r = .returned (.bool true) ∧ Kept No w w' := by
  have HL : Hid (Calls Tryd.prog 13 #[.string s] w _) := hL
  have HA : Hid (∀ w', Kept No w w' → Calls Tryd.prog 8 #[] w' fun r w'' => r = .returned (.bool true) ∧ Kept No w' w'') := fun w' hk => alive_any w' (he.no hk) (hg.no hk)
  have HN : Hid (∀ (x : Int) w, Calls Tryd.prog 14 #[.int .i64 x] w fun e w' => e = .returned (.int .i64 x) ∧ w = w') := no_any
  clear hL he hg
  go_enter Tryd.func6, Tryd.ntmps6
  go_wp2_with fail
  refine Calls.mono HL.out ?_
  rintro e W1 ⟨rfl, hk1⟩
  have HK : Hid (Kept No w W1) := hk1
  clear hk1 HL
  go_wp2_with (go_at_call 14; refine Calls.mono (HN.out _ _) ?_; rintro e w' ⟨rfl, rfl⟩)
  refine Calls.mono (HA.out _ HK.out) ?_
  rintro e W2 ⟨rfl, hk2⟩
  have HK2 : Hid (Kept No w W2) := HK.out.trans hk2
  clear hk2 HK HA
  go_wp2_with fail
  go_ret
  exact ⟨rfl, HK2.out⟩

set_option maxRecDepth 20000 in
set_option maxHeartbeats 4000000 in
theorem blanks_ok (s : ByteArray) (k : Int) (w : World) (he : ErrIs w) (hg : SgIs w) (hs : s.size ≤ 8192) {L : List Tk} (hL : Lx s hs (skipB false (bl s)) none L) :
    Calls Tryd.prog 6 #[.string s, .int .i64 k] w fun r w' => r = .returned (.bool true) ∧ Kept No w w' := by
  have HL : Hid (Calls Tryd.prog 13 #[.string s] w _) := Lex_is s w he hg hs hL
  have HA : Hid (∀ w', Kept No w w' → Calls Tryd.prog 8 #[] w' fun r w'' => r = .returned (.bool true) ∧ Kept No w' w'') := fun w' hk => alive_any w' (he.no hk) (hg.no hk)
  have HN : Hid (∀ (x : Int) w, Calls Tryd.prog 14 #[.int .i64 x] w fun e w' => e = .returned (.int .i64 x) ∧ w = w') := no_any
  have HEr : Hid (∀ w', Kept No w w' → ErrIs w' ∧ SgIs w') := fun w' hk => ⟨he.no hk, hg.no hk⟩
  have hlen : L.length ≤ 8192 := by have := hL.len; omega
  have htot : tot L ≤ 10000000 := by have := hL.tot; omega
  have hC := hL.cutd (skipB_twice _ _)
  clear hL he hg
  go_enter Tryd.func6, Tryd.ntmps6
  go_wp2_with fail
  refine Calls.mono HL.out ?_
  rintro e W1 ⟨⟨v, rfl, hr⟩, hk1⟩
  have HK : Hid (Kept No w W1) := hk1
  clear hk1 HL
  obtain ⟨ao, cap, rfl, hs0⟩ := hr.srow
  have HS : Hid (SRow W1 ao L) := hs0
  clear hr hs0
  by_cases hneg : k.tmod 5 < 0
  · have dneg : decide (k.tmod 5 < 0) = true := decide_eq_true hneg
    obtain ⟨K, hK, hK5⟩ : ∃ K : Nat, k.tmod 5 + 5 = (K : Int) ∧ K < 5 := ⟨(k.tmod 5 + 5).toNat, by have := Int.tmod_lt_of_pos k (show (0 : Int) < 5 by decide); have := (tm5 k).1; omega, by have := (tm5 k).1; omega⟩
    have eK : wrap64 (k.tmod 5 + 5) = (K : Int) := by rw [hK]; exact wrap_ok (by omega) (by omega)
    have cK := gB_cell W1 K hK5
    have lt5 : (K : Int) < 5 := by omega
    have HB : Hid (∀ i, i < 5 → (W1.alloc (.cells #[.string ⟨#[32]⟩, .string ⟨#[10]⟩, .string ⟨#[9, 13, 32]⟩, .string ⟨#[32, 45, 45, 32, 97, 32, 34, 98, 10]⟩, .string ⟨#[10, 45, 45, 10]⟩] 9)).cell? ⟨W1.heap.size, i, none⟩ = some (.string (gB i))) := fun i hi => gB_cell W1 i hi
    have HK2 : Hid (Kept No w (W1.alloc (.cells #[.string ⟨#[32]⟩, .string ⟨#[10]⟩, .string ⟨#[9, 13, 32]⟩, .string ⟨#[32, 45, 45, 32, 97, 32, 34, 98, 10]⟩, .string ⟨#[10, 45, 45, 10]⟩] 9)) ∧ SRow (W1.alloc (.cells #[.string ⟨#[32]⟩, .string ⟨#[10]⟩, .string ⟨#[9, 13, 32]⟩, .string ⟨#[32, 45, 45, 32, 97, 32, 34, 98, 10]⟩, .string ⟨#[10, 45, 45, 10]⟩] 9)) ao L) := ⟨HK.out.alloc _, HS.out.no ((Kept.refl No W1).alloc _)⟩
    go_wp2_with (go_at_call 14; refine Calls.mono (HN.out _ _) ?_; rintro e w' ⟨rfl, rfl⟩)
    obtain ⟨W2, HW2⟩ : ∃ W2, Hid (W1.alloc (.cells #[.string ⟨#[32]⟩, .string ⟨#[10]⟩, .string ⟨#[9, 13, 32]⟩, .string ⟨#[32, 45, 45, 32, 97, 32, 34, 98, 10]⟩, .string ⟨#[10, 45, 45, 10]⟩] 9) = W2) := ⟨_, show _ = _ from rfl⟩
    rw [HW2.out] at HB HK2 ⊢
    generalize W1.heap.size = bk at HB ⊢
    clear cK HW2 HS HK
    go_loopw [10, 11] (fun t i wr => ∃ j : Nat, j ≤ L.length ∧ i = .int .i64 j ∧ t = .string (tx L K j) ∧ Hid (Kept No W2 wr)) (fun _ i _ => L.length - (intOf i).toNat)
    case atStart => exact ⟨0, by omega, rfl, by rw [tx_zero], Kept.refl _ _⟩
    case round =>
      obtain ⟨j, hj, rfl, rfl, HR⟩ := hrel
      by_cases hlt : j < L.length
      · have dlt : decide ((j : Int) < (L.length : Int)) = true := decide_eq_true (by omega)
        have lt : (j : Int) < (L.length : Int) := by omega
        obtain ⟨g, o, rfl, hc⟩ := HK2.out.2 j hlt
        have a1 := hc wr HR.out 1 (by omega)
        have b1 : wr.cell? ⟨bk, (K + j) % 5, none⟩ = some (.string (gB ((K + j) % 5))) := cell_kept (HB.out _ (Nat.mod_lt _ (by decide))) HR.out
        have HT : Hid (tx L K j ++ L[j].t ++ gB ((K + j) % 5) = tx L K (j + 1)) := tx_succ L K j hlt
        clear hc
        simp only [tc, List.getElem?_cons_zero, List.getElem?_cons_succ, Nat.add_zero] at a1
        have hxt : L[j].t.size ≤ 100000000 := by have := tot_at L j hlt; omega
        generalize L[j].t = xt at a1 HT hxt
        have e2 : wrap64 ((K : Int) + (j : Int)) = (K : Int) + (j : Int) := wrap_ok (by omega) (by omega)
        have e3 : ((K : Int) + (j : Int)).tmod 5 = (((K + j) % 5 : Nat) : Int) := by
          rw [Int.tmod_eq_emod_of_nonneg (by omega)]; omega
        have e4 : (((K + j) % 5 : Nat) : Int) < 5 := by omega
        generalize (K + j) % 5 = m at b1 HT e3 e4
        have z0 := tx_le L K j
        have z1 : (tx L K j).size + xt.size ≤ 200000000 := by omega
        have z3 : (gB m).size ≤ 9 := by rw [← bl_len, gB_bl]; exact gp_len m
        clear z0
        generalize tx L K j = Tj at z1 HT ⊢
        have z2 : (Tj ++ xt).size + (gB m).size ≤ 300000000 := by rw [ByteArray.size_append]; omega
        have y1 : ¬ 9223372036854775807 < Tj.size + xt.size := by omega
        have y2 : ¬ 9223372036854775807 < (Tj ++ xt).size + (gB m).size := by omega
        have y3 : ¬ 9223372036854775807 < Tj.size + xt.size + (gB m).size := by omega
        have e5 : IntKind.i64.wrap ((K : Int) + (j : Int)) = (K : Int) + (j : Int) := wrap_i (by omega) (by omega)
        go_wp2_with fail
        go_region_held3 (fun w' => w'.cell? ⟨g, o + j * 7 + 1, none⟩ = some (.string xt) ∧ w'.cell? ⟨bk, m, none⟩ = some (.string (gB m))) (go_keep) (first | (fail))
        rw [HT.out]
        have HR2 : Hid (Kept No W2 wr.drew) := HR.out.drew
        clear a1 b1 y1 y2 y3 z1 z2 z3 e2 e3 e4 e5 hxt HT HR
        go_wp2_with fail
        go_roundw
        case rel => exact ⟨j + 1, by omega, by go_num, rfl, HR2.out⟩
        case measure => simp [intOf] <;> omega
      · have dlt : decide ((j : Int) < (L.length : Int)) = false := decide_eq_false (by omega)
        have hje : j = L.length := by omega
        obtain ⟨J, HJ⟩ : ∃ J, Hid (tx L K j = J) := ⟨_, show _ = _ from rfl⟩
        have hJ : bl J = gp (K % 5) ++ bB L K := by rw [← HJ.out, tx_bl, hje, List.take_length, Nat.mod_eq_of_lt hK5]
        rw [HJ.out]
        have HK3 : Hid (Kept No w wr ∧ SRow wr ao L) := ⟨HK2.out.1.trans HR.out, HK2.out.2.no HR.out⟩
        clear HR HK2 HJ HB
        by_cases hz : J.size ≤ 8192
        · obtain ⟨L', hL', hm⟩ := blanks_lx hC K J hz hJ
          obtain ⟨q1, q2⟩ := np_at hm
          have HQ : Hid (L.length = L'.length ∧ ∀ j (h1 : j < L.length) (h2 : j < L'.length), if false then L[j] = L'[j] else np L[j] = np L'[j]) := ⟨q1, q2⟩
          have d1 : decide ((8192 : Int) < (J.size : Int)) = false := decide_eq_false (by omega)
          have HLx : Hid (Lx J hz (skipB false (bl J)) none L') := hL'
          clear q1 q2 hm hJ hC hL'
          go_wp2_with fail
          refine Calls.mono (Lex_is J wr (HEr.out _ HK3.out.1).1 (HEr.out _ HK3.out.1).2 hz HLx.out) ?_
          rintro e W3 ⟨⟨v2, rfl, hr2⟩, hk3⟩
          obtain ⟨ao2, cap2, rfl, hs2⟩ := hr2.srow
          have HK4 : Hid (Kept No w W3) := HK3.out.1.trans hk3
          have S1 : Hid (Calls Tryd.prog 16 #[.slice ao L.length cap, .slice ao2 L'.length cap2, .bool false] W3 fun r w' => r = .returned (.bool true) ∧ Kept No W3 w') :=
            Same_true (HK3.out.2.no hk3) hs2 HQ.out.1 (by omega) cap cap2 false HQ.out.2
          clear hr2 hk3 hs2 HK3 HQ HLx HEr
          go_wp2_with (first | (go_at_call 14; refine Calls.mono (HN.out _ _) ?_; rintro e w' ⟨rfl, rfl⟩) | fail)
          refine Calls.mono S1.out ?_
          rintro e W4 ⟨rfl, hk4⟩
          have HK5 : Hid (Kept No w W4) := HK4.out.trans hk4
          clear hk4 HK4 S1
          go_wp2_with fail
          refine Calls.mono (HA.out _ HK5.out) ?_
          rintro e W5 ⟨rfl, hk5⟩
          have HK6 : Hid (Kept No w W5) := HK5.out.trans hk5
          clear hk5 HK5 HA
          go_wp2_with fail
          go_ret
          exact ⟨rfl, HK6.out⟩
        · have d1 : decide ((8192 : Int) < (J.size : Int)) = true := decide_eq_true (by omega)
          clear hC hJ HEr
          go_wp2_with fail
          refine Calls.mono (Lex_long J wr hz) ?_
          rintro e W3 ⟨rfl, hk3⟩
          have HK4 : Hid (Kept No w W3) := HK3.out.1.trans hk3
          clear hk3 HK3
          go_wp2_with (first | (go_at_call 14; refine Calls.mono (HN.out _ _) ?_; rintro e w' ⟨rfl, rfl⟩) | fail)
          refine Calls.mono (HA.out _ HK4.out) ?_
          rintro e W5 ⟨rfl, hk5⟩
          have HK6 : Hid (Kept No w W5) := HK4.out.trans hk5
          clear hk5 HK4 HA
          go_wp2_with fail
          go_ret
          exact ⟨rfl, HK6.out⟩
  · have dneg : decide (k.tmod 5 < 0) = false := decide_eq_false hneg
    obtain ⟨K, hK, hK5⟩ : ∃ K : Nat, k.tmod 5 = (K : Int) ∧ K < 5 := ⟨(k.tmod 5).toNat, by omega, by have := (tm5 k).2; omega⟩
    rw [hK] at dneg
    have eK : k.tmod 5 = (K : Int) := hK
    have cK := gB_cell W1 K hK5
    have lt5 : (K : Int) < 5 := by omega
    have HB : Hid (∀ i, i < 5 → (W1.alloc (.cells #[.string ⟨#[32]⟩, .string ⟨#[10]⟩, .string ⟨#[9, 13, 32]⟩, .string ⟨#[32, 45, 45, 32, 97, 32, 34, 98, 10]⟩, .string ⟨#[10, 45, 45, 10]⟩] 9)).cell? ⟨W1.heap.size, i, none⟩ = some (.string (gB i))) := fun i hi => gB_cell W1 i hi
    have HK2 : Hid (Kept No w (W1.alloc (.cells #[.string ⟨#[32]⟩, .string ⟨#[10]⟩, .string ⟨#[9, 13, 32]⟩, .string ⟨#[32, 45, 45, 32, 97, 32, 34, 98, 10]⟩, .string ⟨#[10, 45, 45, 10]⟩] 9)) ∧ SRow (W1.alloc (.cells #[.string ⟨#[32]⟩, .string ⟨#[10]⟩, .string ⟨#[9, 13, 32]⟩, .string ⟨#[32, 45, 45, 32, 97, 32, 34, 98, 10]⟩, .string ⟨#[10, 45, 45, 10]⟩] 9)) ao L) := ⟨HK.out.alloc _, HS.out.no ((Kept.refl No W1).alloc _)⟩
    go_wp2_with (go_at_call 14; refine Calls.mono (HN.out _ _) ?_; rintro e w' ⟨rfl, rfl⟩)
    obtain ⟨W2, HW2⟩ : ∃ W2, Hid (W1.alloc (.cells #[.string ⟨#[32]⟩, .string ⟨#[10]⟩, .string ⟨#[9, 13, 32]⟩, .string ⟨#[32, 45, 45, 32, 97, 32, 34, 98, 10]⟩, .string ⟨#[10, 45, 45, 10]⟩] 9) = W2) := ⟨_, show _ = _ from rfl⟩
    rw [HW2.out] at HB HK2 ⊢
    generalize W1.heap.size = bk at HB ⊢
    clear cK HW2 HS HK
    go_loopw [10, 11] (fun t i wr => ∃ j : Nat, j ≤ L.length ∧ i = .int .i64 j ∧ t = .string (tx L K j) ∧ Hid (Kept No W2 wr)) (fun _ i _ => L.length - (intOf i).toNat)
    case atStart => exact ⟨0, by omega, rfl, by rw [tx_zero], Kept.refl _ _⟩
    case round =>
      obtain ⟨j, hj, rfl, rfl, HR⟩ := hrel
      by_cases hlt : j < L.length
      · have dlt : decide ((j : Int) < (L.length : Int)) = true := decide_eq_true (by omega)
        have lt : (j : Int) < (L.length : Int) := by omega
        obtain ⟨g, o, rfl, hc⟩ := HK2.out.2 j hlt
        have a1 := hc wr HR.out 1 (by omega)
        have b1 : wr.cell? ⟨bk, (K + j) % 5, none⟩ = some (.string (gB ((K + j) % 5))) := cell_kept (HB.out _ (Nat.mod_lt _ (by decide))) HR.out
        have HT : Hid (tx L K j ++ L[j].t ++ gB ((K + j) % 5) = tx L K (j + 1)) := tx_succ L K j hlt
        clear hc
        simp only [tc, List.getElem?_cons_zero, List.getElem?_cons_succ, Nat.add_zero] at a1
        have hxt : L[j].t.size ≤ 100000000 := by have := tot_at L j hlt; omega
        generalize L[j].t = xt at a1 HT hxt
        have e2 : wrap64 ((K : Int) + (j : Int)) = (K : Int) + (j : Int) := wrap_ok (by omega) (by omega)
        have e3 : ((K : Int) + (j : Int)).tmod 5 = (((K + j) % 5 : Nat) : Int) := by
          rw [Int.tmod_eq_emod_of_nonneg (by omega)]; omega
        have e4 : (((K + j) % 5 : Nat) : Int) < 5 := by omega
        generalize (K + j) % 5 = m at b1 HT e3 e4
        have z0 := tx_le L K j
        have z1 : (tx L K j).size + xt.size ≤ 200000000 := by omega
        have z3 : (gB m).size ≤ 9 := by rw [← bl_len, gB_bl]; exact gp_len m
        clear z0
        generalize tx L K j = Tj at z1 HT ⊢
        have z2 : (Tj ++ xt).size + (gB m).size ≤ 300000000 := by rw [ByteArray.size_append]; omega
        have y1 : ¬ 9223372036854775807 < Tj.size + xt.size := by omega
        have y2 : ¬ 9223372036854775807 < (Tj ++ xt).size + (gB m).size := by omega
        have y3 : ¬ 9223372036854775807 < Tj.size + xt.size + (gB m).size := by omega
        have e5 : IntKind.i64.wrap ((K : Int) + (j : Int)) = (K : Int) + (j : Int) := wrap_i (by omega) (by omega)
        go_wp2_with fail
        go_region_held3 (fun w' => w'.cell? ⟨g, o + j * 7 + 1, none⟩ = some (.string xt) ∧ w'.cell? ⟨bk, m, none⟩ = some (.string (gB m))) (go_keep) (first | (fail))
        rw [HT.out]
        have HR2 : Hid (Kept No W2 wr.drew) := HR.out.drew
        clear a1 b1 y1 y2 y3 z1 z2 z3 e2 e3 e4 e5 hxt HT HR
        go_wp2_with fail
        go_roundw
        case rel => exact ⟨j + 1, by omega, by go_num, rfl, HR2.out⟩
        case measure => simp [intOf] <;> omega
      · have dlt : decide ((j : Int) < (L.length : Int)) = false := decide_eq_false (by omega)
        have hje : j = L.length := by omega
        obtain ⟨J, HJ⟩ : ∃ J, Hid (tx L K j = J) := ⟨_, show _ = _ from rfl⟩
        have hJ : bl J = gp (K % 5) ++ bB L K := by rw [← HJ.out, tx_bl, hje, List.take_length, Nat.mod_eq_of_lt hK5]
        rw [HJ.out]
        have HK3 : Hid (Kept No w wr ∧ SRow wr ao L) := ⟨HK2.out.1.trans HR.out, HK2.out.2.no HR.out⟩
        clear HR HK2 HJ HB
        by_cases hz : J.size ≤ 8192
        · obtain ⟨L', hL', hm⟩ := blanks_lx hC K J hz hJ
          obtain ⟨q1, q2⟩ := np_at hm
          have HQ : Hid (L.length = L'.length ∧ ∀ j (h1 : j < L.length) (h2 : j < L'.length), if false then L[j] = L'[j] else np L[j] = np L'[j]) := ⟨q1, q2⟩
          have d1 : decide ((8192 : Int) < (J.size : Int)) = false := decide_eq_false (by omega)
          have HLx : Hid (Lx J hz (skipB false (bl J)) none L') := hL'
          clear q1 q2 hm hJ hC hL'
          go_wp2_with fail
          refine Calls.mono (Lex_is J wr (HEr.out _ HK3.out.1).1 (HEr.out _ HK3.out.1).2 hz HLx.out) ?_
          rintro e W3 ⟨⟨v2, rfl, hr2⟩, hk3⟩
          obtain ⟨ao2, cap2, rfl, hs2⟩ := hr2.srow
          have HK4 : Hid (Kept No w W3) := HK3.out.1.trans hk3
          have S1 : Hid (Calls Tryd.prog 16 #[.slice ao L.length cap, .slice ao2 L'.length cap2, .bool false] W3 fun r w' => r = .returned (.bool true) ∧ Kept No W3 w') :=
            Same_true (HK3.out.2.no hk3) hs2 HQ.out.1 (by omega) cap cap2 false HQ.out.2
          clear hr2 hk3 hs2 HK3 HQ HLx HEr
          go_wp2_with (first | (go_at_call 14; refine Calls.mono (HN.out _ _) ?_; rintro e w' ⟨rfl, rfl⟩) | fail)
          refine Calls.mono S1.out ?_
          rintro e W4 ⟨rfl, hk4⟩
          have HK5 : Hid (Kept No w W4) := HK4.out.trans hk4
          clear hk4 HK4 S1
          go_wp2_with fail
          refine Calls.mono (HA.out _ HK5.out) ?_
          rintro e W5 ⟨rfl, hk5⟩
          have HK6 : Hid (Kept No w W5) := HK5.out.trans hk5
          clear hk5 HK5 HA
          go_wp2_with fail
          go_ret
          exact ⟨rfl, HK6.out⟩
        · have d1 : decide ((8192 : Int) < (J.size : Int)) = true := decide_eq_true (by omega)
          clear hC hJ HEr
          go_wp2_with fail
          refine Calls.mono (Lex_long J wr hz) ?_
          rintro e W3 ⟨rfl, hk3⟩
          have HK4 : Hid (Kept No w W3) := HK3.out.1.trans hk3
          clear hk3 HK3
          go_wp2_with (first | (go_at_call 14; refine Calls.mono (HN.out _ _) ?_; rintro e w' ⟨rfl, rfl⟩) | fail)
          refine Calls.mono (HA.out _ HK4.out) ?_
          rintro e W5 ⟨rfl, hk5⟩
          have HK6 : Hid (Kept No w W5) := HK4.out.trans hk5
          clear hk5 HK4 HA
          go_wp2_with fail
          go_ret
          exact ⟨rfl, HK6.out⟩

theorem LexBlanks_any (s : ByteArray) (k : Int) (w : World) (hz : s.size ≤ 140737488351232) (he : ErrIs w) (hg : SgIs w) :
    Calls Tryd.prog 6 #[.string s, .int .i64 k] w fun r w' => r = .returned (.bool true) ∧ Kept No w w' := by
  by_cases hs : s.size ≤ 8192
  · obtain ⟨e, L, hL⟩ := Lx.all s hs _ (skipB false (bl s)) (Nat.le_refl _)
    cases e with
    | none => exact blanks_ok s k w he hg hs hL
    | some p =>
      obtain ⟨a, x⟩ := p
      exact blanks_err s k w he hg a x (hL.err a x rfl).2 (Lex_is s w he hg hs hL)
  · exact blanks_err s k w he hg 0 3 (by decide) (Lex_long s w hs)
end Go.Proofs.YtidokamfppdnaaaDoor
