/- slices.Clone, slices.Reverse; Chain. -/
import Derived.Test.YtnfamebihpnjlaaZ1
namespace Go.Proofs.Ytnfamebihpnjlaa
open Go.RowKit
set_option linter.unusedVariables false
set_option linter.unusedSimpArgs false

theorem eql42 (w : World) (a : Option Addr) (n c n' c' : Nat) : (binOp .eql 42 (.slice a n c) (.slice none n' c')).run Try.prog w = .ok (.bool a.isNone) w := Lib.run_eql_slice_nil w _ _ a n c n' c' Try.underlying42

set_option maxRecDepth 20000 in
set_option maxHeartbeats 1000000 in
theorem Clone_any {w : World} {B : Nat} {v : Value} {l : List Int} (h : w.ownsRow B 3 1 v l.length (ic l)) (hl : l.length ≤ 100000) :
    Calls Try.prog 35 #[v] w fun e w' => ∃ v', e = .returned v' ∧ w'.ownsRow w.heap.size 3 1 v' l.length (ic l) ∧ Kept No w w' := by
  obtain ⟨i0, hi, hz0, hz1, hz2⟩ := info_parts info3
  have he := eql42
  rcases row_shape h with ⟨rfl, rfl⟩ | ⟨g, cap, rfl, hg, hcap, hcm⟩
  · go_enter Try.func35, Try.ntmps35
    go_wp2
    go_ret
    exact ⟨_, rfl, World.ownsRow_nil _ _ _ _, Kept.refl _ _⟩
  · have HC : Hid (∀ k (hk : k < l.length), w.cell? ⟨g, k, none⟩ = some (.int .i64 l[k])) := fun k hk => row_cell h rfl hk
    clear h
    go_enter Try.func35, Try.ntmps35
    go_wp2_with (at_builtin; refine wpList_append_own _ rfl _ _ 42 rfl w.heap.size 3 i0 (.int .i64 0) 1 8 Try.underlying42 hi hz0 hz1 hz2 rfl (by decide) _ _ _ rfl (World.ownsRow_made w #[] 0 (Nat.le_refl _) (Nat.zero_le _) (by simp)) ⟨g, 0, none⟩ l.length cap (ic l) rfl ?qc1 ?qc2 ?qc3 ?qc4 ?qc5 ?qc6 ?_)
    case qc1 => simp [ic]
    case qc2 =>
      intro j u hj
      rw [Addr.add_lit]
      refine Lib.cell?_alloc_some _ ?_
      have hjn : j < l.length := by have := (List.getElem?_eq_some_iff.1 hj).1; simpa [ic] using this
      rw [Nat.zero_add, HC.out j hjn, ← hj]
      simp [ic, List.getElem?_eq_getElem hjn]
    case qc3 => intro u hu; obtain ⟨m, _, rfl⟩ := List.mem_map.1 hu; rfl
    case qc4 => unfold maxLen; omega
    case qc5 => omega
    case qc6 => simp
    intro v' w1 hown hgrow hnil
    have hown2 : w1.ownsRow w.heap.size 3 1 v' l.length (ic l) := by simpa using hown
    have HO : Hid (w1.ownsRow w.heap.size 3 1 v' l.length (ic l)) := hown2
    clear hown2
    have HK : Hid (Kept No w w1) := ((Kept.refl No w).alloc _).grown hgrow (by intro k hk; simp [Value.ownBlock] at hk; exact .inr (by omega))
    clear hown hgrow hnil
    go_wp2
    go_ret
    exact ⟨_, rfl, HO.out, HK.out⟩

theorem swp_at (l : List Int) {i j k : Nat} (hi : i < l.length) (hj : j < l.length) : at' (swp l i j) k = if k = j then at' l i else if k = i then at' l j else at' l k := by
  unfold swp at'
  simp only [List.getD_eq_getElem?_getD, List.getElem?_set, List.length_set]
  by_cases h1 : k = j
  · subst h1
    simp [hj]
  · by_cases h2 : k = i
    · subst h2
      have : ¬ j = k := fun e => h1 e.symm
      simp [this, h1, hi]
    · have e1 : ¬ j = k := fun e => h1 e.symm
      have e2 : ¬ i = k := fun e => h2 e.symm
      simp [e1, e2, h1, h2]
/-- The first i and the last i places are turned. -/
def Turned (l m : List Int) (i : Nat) : Prop := m.length = l.length ∧ ∀ k, k < l.length → at' m k = if k < i ∨ l.length - i ≤ k then at' l (l.length - 1 - k) else at' l k
theorem Turned.step {l m : List Int} {i : Nat} (h : Turned l m i) (hi : 2 * i + 1 < l.length) : Turned l (swp m i (l.length - 1 - i)) (i + 1) := by
  obtain ⟨h1, h2⟩ := h
  refine ⟨by rw [swp_length, h1], fun k hk => ?_⟩
  rw [swp_at m (by omega) (by omega)]
  by_cases e1 : k = l.length - 1 - i
  · rw [if_pos e1, if_pos (by omega), h2 i (by omega), if_neg (by omega)]
    congr 1; omega
  · rw [if_neg e1]
    by_cases e2 : k = i
    · rw [if_pos e2, if_pos (by omega), h2 _ (by omega), if_neg (by omega)]
      congr 1; omega
    · rw [if_neg e2, h2 k hk]
      by_cases e3 : k < i ∨ l.length - i ≤ k
      · rw [if_pos e3, if_pos (by omega)]
      · rw [if_neg e3, if_neg (by omega)]
theorem Turned.done {l m : List Int} {i : Nat} (h : Turned l m i) (hi : l.length ≤ 2 * i + 1) : m = l.reverse := by
  obtain ⟨h1, h2⟩ := h
  refine List.ext_getElem (by simp [h1]) (fun k hk1 hk2 => ?_)
  have hk : k < l.length := by omega
  have := h2 k hk
  have e1 : at' m k = m[k] := by simp [at', List.getD_eq_getElem?_getD, List.getElem?_eq_getElem hk1]
  rw [List.getElem_reverse, ← e1, this]
  by_cases e3 : k < i ∨ l.length - i ≤ k
  · rw [if_pos e3]; simp [at', List.getD_eq_getElem?_getD, List.getElem?_eq_getElem (show l.length - 1 - k < l.length by omega)]
  · rw [if_neg e3]
    have e4 : l.length - 1 - k = k := by omega
    simp only [e4]
    simp [at', List.getD_eq_getElem?_getD, List.getElem?_eq_getElem hk]

set_option maxRecDepth 20000 in
set_option maxHeartbeats 1000000 in
theorem Reverse_any {w : World} {g cap : Nat} {l : List Int} (h : Row w g cap l) (hl : l.length ≤ 100000) :
    Calls Try.prog 36 #[.slice (some ⟨g, 0, none⟩) l.length cap] w fun e w' => e = .returned (.tuple #[]) ∧ Row w' g cap l.reverse ∧ Kept (fun k => k = g) w w' := by
  have mixed : Try.prog.follows .mixedOrders = true := by kernel_rfl
  have HS : Hid (∃ m, Turned l m 0 ∧ Row w g cap m ∧ Kept (fun k => k = g) w w) := ⟨l, ⟨rfl, fun k hk => by rw [if_neg (by omega)]⟩, h, Kept.refl _ _⟩
  clear h
  go_enter Try.func36, Try.ntmps36
  go_wp2_with fail
  go_loopw [2, 3] (fun v v' wr => ∃ i : Nat, i ≤ l.length ∧ v = .int .i64 i ∧ v' = .int .i64 ((l.length : Int) - 1 - (i : Int)) ∧ Hid (∃ m, Turned l m i ∧ Row wr g cap m ∧ Kept (fun k => k = g) w wr)) (fun v _ _ => l.length - (ivO v).toNat)
  case atStart => exact ⟨0, Nat.zero_le _, rfl, by first | rfl | go_num | (congr 1; omega), HS.out⟩
  case round =>
    clear HS
    obtain ⟨i, hi, rfl, rfl, HS⟩ := hrel
    by_cases hij : 2 * i + 1 < l.length
    · obtain ⟨j, hj, hj1, hj2⟩ : ∃ j : Nat, (l.length : Int) - 1 - (i : Int) = (j : Int) ∧ j + i + 1 ≤ l.length ∧ l.length ≤ j + i + 1 := ⟨l.length - 1 - i, by omega, by omega, by omega⟩
      rw [hj]
      have hz : (i : Int) < (j : Int) := by omega
      have HJ : Hid (l.length - 1 - i = j) := by show _ = _; omega
      clear hj
      obtain ⟨m, HM⟩ : ∃ m, Hid (Turned l m i ∧ Row wr g cap m ∧ Kept (fun k => k = g) w wr) := HS.out
      clear HS
      have hml : m.length = l.length := HM.out.1.1
      have d1 := HM.out.2.1.cell (i := i) (by omega)
      have d2 := HM.out.2.1.cell (i := j) (by omega)
      have f1 := HM.out.2.1.frozen i
      have f2 := HM.out.2.1.frozen j
      have d3 := (HM.out.2.1.set i (at' m j)).cell (i := j) (by rw [List.length_set]; omega)
      have HE : Hid (∃ m', Turned l m' (i + 1) ∧ Row ((wr.setCell ⟨g, i, none⟩ (.int .i64 (at' m j))).setCell ⟨g, j, none⟩ (.int .i64 (at' m i))).drew g cap m' ∧ Kept (fun k => k = g) w ((wr.setCell ⟨g, i, none⟩ (.int .i64 (at' m j))).setCell ⟨g, j, none⟩ (.int .i64 (at' m i))).drew) := by
        refine ⟨swp m i j, ?_, (HM.out.2.1.set i _).set j _, ((HM.out.2.2.set g i _ (.inl rfl)).set g j _ (.inl rfl)).drew⟩
        have := HM.out.1.step hij
        rw [HJ.out] at this; exact this
      generalize at' (m.set i (at' m j)) j = u at d3
      generalize at' m i = x at d1 HE
      generalize at' m j = y at d2 d3 HE
      clear HM
      go_wp2_with fail
      go_big_region_o
      generalize ((wr.setCell ⟨g, i, none⟩ (.int .i64 y)).setCell ⟨g, j, none⟩ (.int .i64 x)).drew = W at HE ⊢
      clear d1 d2 d3 f1 f2
      go_wp2
      go_round
      case rel => exact ⟨i + 1, by omega, by first | rfl | go_num, by first | rfl | go_num | (congr 1; omega), HE.out⟩
      case measure => simp [ivO] <;> omega
    · have hz : ¬ (i : Int) < (l.length : Int) - 1 - (i : Int) := by omega
      go_wp2
      go_end0
      obtain ⟨m, h1, h2, h3⟩ := HS.out
      rw [h1.done (by omega)] at h2
      exact ⟨rfl, h2, h3⟩
theorem Reverse_nil (w : World) : Calls Try.prog 36 #[.slice none 0 0] w fun e w' => e = .returned (.tuple #[]) ∧ w = w' := by
  go_enter Try.func36, Try.ntmps36
  go_wp2_with fail
  go_loop [2, 3] (fun v v' => v = .int .i64 0 ∧ v' = .int .i64 (-1)) (fun _ _ => 0)
  case atStart => exact ⟨rfl, rfl⟩
  case round =>
    obtain ⟨rfl, rfl⟩ := hrel
    go_wp2
    go_end0
    exact ⟨rfl, rfl⟩

set_option maxRecDepth 20000 in
set_option maxHeartbeats 1000000 in
theorem Chain_any {w : World} {B A C M n p nn : Nat} {vs : List Value} {L : List Ent} (h : Rep w B A C M n p nn vs L) {b : Nat} (hb : b < n) :
    Calls Try.prog 22 #[.pointer (some ⟨A, 0, none⟩), .int .i64 b] w fun e w' => ∃ v', e = .returned v' ∧ w'.ownsRow w.heap.size 3 1 v' (cL L n b).length (ic (cL L n b).reverse) ∧ Kept No w w' := by
  have hbv : b < vs.length := by rw [h.len]; exact hb
  have hrow := h.row b hbv
  have hc := ch_cell h.hC hbv
  obtain ⟨a0, a1, a2⟩ := tb_cells h.hA
  have HBk : Hid _ := Buckets_any w h.hA
  have n2 := h.n2
  have hlen : (cL L n b).length ≤ 100000 := Nat.le_trans (cL_len L n b) (Nat.le_trans h.map.le h.nb)
  obtain ⟨v, hv⟩ : ∃ v, Hid (v = vs[b]) := ⟨vs[b], (show vs[b] = vs[b] from rfl)⟩
  rw [← hv.out] at hc hrow
  generalize cL L n b = l at hrow hlen ⊢
  have HCl : Hid _ := Clone_any hrow hlen
  clear hrow h hv
  have k1 : ¬ (b : Int) < 0 := by omega
  have k2 : (b : Int) < (n : Int) := by omega
  have k3 : ¬ (n : Int) ≤ (b : Int) := by omega
  go_enter Try.func22, Try.ntmps22
  go_wp2_with (go_at_call 16; refine Calls.mono HBk.out ?_; rintro e w' ⟨rfl, rfl⟩)
  refine Calls.mono HCl.out ?_
  rintro e w1 ⟨v1, rfl, hr1, hk1⟩
  have HR : Hid (w1.ownsRow w.heap.size 3 1 v1 l.length (ic l) ∧ Kept No w w1) := ⟨hr1, hk1⟩
  clear hk1 HCl HBk a0 a1 a2 hc
  rcases hr1.2 with ⟨rfl, hz⟩ | ⟨g, cap, cur, rfl, hbase, hgb, r1, r2, r3, r4⟩
  · obtain rfl : l = [] := List.eq_nil_of_length_eq_zero hz
    clear hr1
    go_wp2_with (go_at_call 36; refine (Reverse_nil _).mono ?_; rintro e w' ⟨rfl, rfl⟩)
    go_ret
    exact ⟨_, rfl, HR.out.1, HR.out.2⟩
  · have HV : Hid _ := Reverse_any (w := w1) (g := g) (cap := cap) (l := l) ⟨cur, hgb, by simpa using r3, r1, by rw [Nat.mul_one] at r4; exact r4⟩ hlen
    have HM : Hid (cap ≤ maxLen ∧ w.heap.size ≤ g) := ⟨r2, hbase⟩
    clear hr1 hgb r1 r2 r3 r4 hbase
    go_wp2_with fail
    refine Calls.mono HV.out ?_
    rintro e w2 ⟨rfl, hrow2, hk2⟩
    have HE : Hid (Row w2 g cap l.reverse ∧ Kept No w w2) := ⟨hrow2, HR.out.2.trans' hk2 (fun i e => by subst e; exact Or.inr HM.out.2)⟩
    clear hrow2 hk2 HV
    go_wp2
    go_ret
    refine ⟨.slice (some ⟨g, 0, none⟩) l.length cap, rfl, ⟨by simp [ic], Or.inr ?_⟩, HE.out.2⟩
    obtain ⟨cur2, q1, q2, q3, q4⟩ := HE.out.1
    rw [List.length_reverse] at q3 q4
    exact ⟨g, cap, cur2, rfl, HM.out.2, q1, q3, HM.out.1, by simpa using q2, by simpa using q4⟩
end Go.Proofs.Ytnfamebihpnjlaa
