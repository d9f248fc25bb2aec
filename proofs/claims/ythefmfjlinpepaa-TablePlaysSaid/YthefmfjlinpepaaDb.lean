/- Joined: D5 D6 D7 D8 D9 D10. -/
import Derived.Test.YthefmfjlinpepaaDa
import Derived.Test.YthefmfjlinpepaaNn
import Derived.Deep.RegionHeld3
import Derived.OwnWalk
/- The document's Len, among and Sizes. -/
namespace Go.Proofs.Ythefmfjlinpepaa
open Go.RowKit Go.Shelf
set_option linter.unusedSimpArgs false
set_option linter.unusedVariables false
attribute [local go_sem] Oper.semAt_some

set_option maxRecDepth 20000 in
set_option maxHeartbeats 4000000 in
theorem RLen_any {w : World} {Q : Nat} {most : Int} {a n : Nat} {sl : Sl} (h : Rt w Q most a n sl) (m : Nat) (hm : m ≤ 1000000) (h0 : (getR a n sl 2 ((m : Int) + 1)).1 = 0) (h1 : ∀ j : Nat, j < m → (getR a n sl 2 ((j : Int) + 1)).1 ≠ 0) :
    Calls Try.prog 39 #[RP Q, HV] w fun e w' => e = .returned (.int .i64 (m : Int)) ∧ Kept No w w' := by
  have HT : Hid (Rt w Q most a n sl) := h
  have H0 : Hid ((getR a n sl 2 ((m : Int) + 1)).1 = 0) := h0
  have H1 : Hid (∀ j : Nat, j < m → (getR a n sl 2 ((j : Int) + 1)).1 ≠ 0) := h1
  have HK0 : Hid (Kept No w (w.alloc (.cells #[.bool false, .slice none 0 0] 70))) := (Kept.refl _ _).alloc _
  have HB0 : Hid ((w.alloc (.cells #[.bool false, .slice none 0 0] 70)).heap[w.heap.size]? = some (.cells #[.bool false, .slice none 0 0] 70 (0, 0))) := heap_new1 _ _
  have hfd := fd33
  clear h h0 h1
  go_enter Try.func39, Try.ntmps39
  go_wp2_with fail
  generalize w.alloc _ = W0 at HK0 HB0 ⊢
  go_loopw [5] (fun i wr => ∃ j : Nat, j ≤ m ∧ i = .int .i64 j ∧ Hid (Kept No W0 wr)) (fun i _ => m - (intOf i).toNat)
  case atStart => exact ⟨0, Nat.zero_le _, rfl, Kept.refl _ _⟩
  case round =>
    obtain ⟨j, hj, rfl, HK⟩ := hrel
    have HZ : Hid ((getR a n sl 2 ((j : Int) + 1)).1 = 0 ↔ j = m) := by
      constructor
      · intro hz
        rcases Nat.lt_or_ge j m with h | h
        · exact absurd hz (H1.out j h)
        · omega
      · rintro rfl; exact H0.out
    have HG : Hid (∀ W, Kept No W0 W → Calls Try.prog 36 #[RP Q, HV, AV 2 ((j : Int) + 1)] W fun e w' => e = .returned (iV (getR a n sl 2 ((j : Int) + 1))) ∧ Kept No W w') := fun W hW => RGet_any (HT.out.no (HK0.out.trans hW)) 2 ((j : Int) + 1) (by constructor <;> omega)
    generalize getR a n sl 2 ((j : Int) + 1) = g at HG HZ
    obtain ⟨g1, g2⟩ := g
    obtain ⟨V, hV⟩ : ∃ V, V = wr := ⟨_, rfl⟩
    rw [← hV] at HK ⊢
    clear hV
    have HKb : Hid (∀ W, Below V.heap.size V W → Kept No W0 W) := fun W hW => HK.out.trans (Kept.of_below hW)
    cases hg : (g1 == 0)
    case' false => have hg2 : (g1 != 0) = true := by simpa using hg
    case' true => have hg2 : (g1 != 0) = false := by simpa using hg
    all_goals (
      go_wp2_with fail
      refine region_quiet_class (C := fun w' => Below V.heap.size V w') (by kernel_rfl) (by kernel_rfl) (Below.refl _ _).drew ?_
      refine q_op (RP Q) (by kernel_rfl) (fun W hW => by simp [go_sem]) ?_
      try simp only [Act.put, List.setIfInBounds_toArray, List.set_cons_zero, List.set_cons_succ]
      refine q_op HV (by kernel_rfl) (fun W hW => by
        have e := (HKb.out W hW).heap HB0.out id
        have c0 : W.cell? ⟨w.heap.size, 0, none⟩ = some (.bool false) := by rw [cell_of e]; rfl
        have c1 : W.cell? ⟨w.heap.size, 1, none⟩ = some (.slice none 0 0) := by rw [cell_of e]; rfl
        simp [go_sem, c0, c1]) ?_
      try simp only [Act.put, List.setIfInBounds_toArray, List.set_cons_zero, List.set_cons_succ]
      refine q_op (.int .i64 (j : Int)) (by kernel_rfl) (fun W hW => by simp [go_sem]) ?_
      try simp only [Act.put, List.setIfInBounds_toArray, List.set_cons_zero, List.set_cons_succ]
      refine q_op (.int .i64 ((j : Int) + 1)) (by kernel_rfl) (fun W hW => by simp [go_sem]; rw [IntKind.wrap_i64]; omega) ?_
      try simp only [Act.put, List.setIfInBounds_toArray, List.set_cons_zero, List.set_cons_succ]
      refine q_call 68 #[.int .i64 ((j : Int) + 1)] (AV 2 ((j : Int) + 1)) (by kernel_rfl) (fun W hW => by simp [go_sem]) (fun W hW => (RInt_any ((j : Int) + 1) W).mono (fun e w3 ⟨he, hb⟩ => ⟨he, Below.trans hW (hb.mono (Below.size hW))⟩)) ?_
      try simp only [Act.put, List.setIfInBounds_toArray, List.set_cons_zero, List.set_cons_succ]
      refine q_call 36 #[RP Q, HV, AV 2 ((j : Int) + 1)] (AV g1 g2) (by kernel_rfl) (fun W hW => by simp [go_sem]) (fun W hW => (HG.out W (HKb.out W hW)).mono (fun e w3 ⟨he, hb⟩ => ⟨he, Below.trans hW ((hb.below (Nat.le_refl _) (fun _ x => x.elim)).mono (Below.size hW))⟩)) ?_
      try simp only [Act.put, List.setIfInBounds_toArray, List.set_cons_zero, List.set_cons_succ]
      refine q_op (.int .i64 g1) (by kernel_rfl) (fun W hW => by simp [go_sem, hfd]) ?_
      try simp only [Act.put, List.setIfInBounds_toArray, List.set_cons_zero, List.set_cons_succ]
      refine q_op (.bool (g1 != 0)) (by kernel_rfl) (fun W hW => by simp [go_sem]) ?_
      try simp only [Act.put, List.setIfInBounds_toArray, List.set_cons_zero, List.set_cons_succ]
      refine wpQuiet_nil ?_
      intro V2 H2
      have HK2 : Hid (Kept No W0 V2) := HKb.out V2 H2
      clear H2 HKb HG
      rw [hg2])
    · have he : j = m := HZ.out.1 (by simpa using hg)
      subst he
      have HE : Hid (Kept No w V2) := HK0.out.trans HK2.out
      go_wp2
      go_ret
      exact ⟨rfl, HE.out⟩
    · have hne : j ≠ m := by
        intro e
        have := HZ.out.2 e
        rw [this] at hg; cases hg
      go_wp2
      go_roundw
      case rel => exact ⟨j + 1, by omega, by go_num, HK2.out⟩
      case measure => simp [intOf]; omega

/-- How many keys have an array slot below p. -/
def amg (L : List Ent) (p : Nat) : Nat := (L.filter fun e => inArr p e.1).length
theorem amg_snoc (L : List Ent) (e : Ent) (p : Nat) : amg (L ++ [e]) p = amg L p + (if inArr p e.1 = true then 1 else 0) := by
  unfold amg
  rw [List.filter_append, List.length_append]
  congr 1
  cases h : inArr p e.1 <;> simp [h]
theorem amg_le (L : List Ent) (p : Nat) : amg L p ≤ L.length := List.length_filter_le _ _

set_option maxRecDepth 20000 in
set_option maxHeartbeats 4000000 in
theorem among_any (L : List Ent) (hL : L.length ≤ 1000) (v : Value) (w : World) (hv : EntsIs w v L) (p : Nat) (hp : p ≤ 100000) :
    Calls Try.prog 88 #[v, .int .i64 (p : Int)] w fun e w' => e = .returned (.int .i64 (amg L p : Nat)) ∧ w = w' := by
  obtain ⟨ao, cap, rfl⟩ : ∃ ao cap, v = .slice ao L.length cap := by
    rcases hv with ⟨rfl, rfl⟩ | ⟨b, c, rfl, _⟩
    · exact ⟨_, _, rfl⟩
    · exact ⟨_, _, rfl⟩
  have HV' : Hid (EntsIs w (.slice ao L.length cap) L) := hv
  obtain ⟨N, hN⟩ : ∃ N, N = L.length := ⟨_, rfl⟩
  have HN : Hid (N = L.length) := hN
  rw [← hN] at HV' hL ⊢
  clear hv hN
  go_enter Try.func88, Try.ntmps88
  go_wp2_with fail
  go_loop [5, 6] (fun c i => ∃ j : Nat, j ≤ N ∧ i = .int .i64 j ∧ c = .int .i64 (amg (L.take j) p : Nat)) (fun _ i => N - (intOf i).toNat)
  case atStart => exact ⟨0, Nat.zero_le _, rfl, rfl⟩
  case round =>
    obtain ⟨j, hj, rfl, rfl⟩ := hrel
    have hcl := Nat.le_trans (amg_le (L.take j) p) (by rw [List.length_take]; exact Nat.min_le_left _ _ : (L.take j).length ≤ j)
    by_cases hlt : j < N
    · obtain ⟨e, he⟩ : ∃ e, L[j]? = some e := ⟨L[j]'(by rw [← HN.out]; exact hlt), List.getElem?_eq_getElem _⟩
      have HS : Hid (amg (L.take (j + 1)) p = amg (L.take j) p + (if inArr p e.1 = true then 1 else 0)) := by
        show _ = _
        rw [List.take_add_one, he]
        exact amg_snoc _ _ _
      rcases HV'.out with ⟨h1, h2⟩ | ⟨b, c, h1, hc⟩
      · exfalso
        rw [h2] at he
        cases he
      injection h1 with e1 e2 e3
      clear e2 e3
      subst e1
      obtain ⟨g0, g1, g2, g3⟩ := hc j e he
      obtain ⟨⟨k1, k2⟩, v1, v2⟩ := e
      simp only at g0 g1 HS
      have e1 : (0 : Int) ≤ (j : Int) := by omega
      have e2 : (j : Int) < (N : Int) := by omega
      clear hc he g2 g3 HV'
      generalize amg (L.take j) p = cq at HS hcl ⊢
      unfold inArr at HS
      simp only at HS
      cases h1 : (k1 == 2)
      · have HS2 : Hid (amg (L.take (j + 1)) p = cq) := by show _ = _; rw [HS.out, h1]; rfl
        clear HS
        go_wp2
        go_round
        case rel => exact ⟨j + 1, by omega, by go_num, by rw [HS2.out]⟩
        case measure => simp [intOf]; omega
      · by_cases h2 : 1 ≤ k2
        · by_cases h3 : k2 ≤ (p : Int)
          · have HS2 : Hid (amg (L.take (j + 1)) p = cq + 1) := by show _ = _; rw [HS.out, h1, decide_eq_true h2, decide_eq_true h3]; rfl
            clear HS
            go_wp2
            go_round
            case rel => exact ⟨j + 1, by omega, by go_num, by rw [HS2.out]; go_num⟩
            case measure => simp [intOf]; omega
          · have HS2 : Hid (amg (L.take (j + 1)) p = cq) := by show _ = _; rw [HS.out, h1, decide_eq_true h2, decide_eq_false h3]; rfl
            clear HS
            go_wp2
            go_round
            case rel => exact ⟨j + 1, by omega, by go_num, by rw [HS2.out]⟩
            case measure => simp [intOf]; omega
        · have HS2 : Hid (amg (L.take (j + 1)) p = cq) := by show _ = _; rw [HS.out, h1, decide_eq_false h2]; rfl
          clear HS
          go_wp2
          go_round
          case rel => exact ⟨j + 1, by omega, by go_num, by rw [HS2.out]⟩
          case measure => simp [intOf]; omega
    · have he : j = N := by omega
      subst he
      have HT : Hid (L.take j = L) := by show _ = _; rw [HN.out]; exact List.take_length
      rw [HT.out]
      go_wp2
      go_ret
      exact ⟨rfl, rfl⟩
end Go.Proofs.Ythefmfjlinpepaa

/- The document's Sizes. -/
namespace Go.Proofs.Ythefmfjlinpepaa
open Go.RowKit Go.Shelf
set_option linter.unusedSimpArgs false
set_option linter.unusedVariables false
attribute [local go_sem] Oper.semAt_some

theorem amg_pow (L : List Ent) {q : Nat} (hq : q ≤ 12) : amg L (2 ^ q) = upto L (q + 1) := by
  unfold amg upto
  congr 1
  exact List.filter_congr (fun e _ => inArr_pow hq e.1)
theorem szS_step (L : List Ent) {q : Nat} (hq : q ≤ 12) : (szS (cnt L) (q + 1)).1 = if 2 ^ q < 2 * amg L (2 ^ q) then 2 ^ q else (szS (cnt L) q).1 := by
  rw [amg_pow L hq, upto_succ, szS, (szS_is L q).1]
  split <;> rfl
theorem amg_outs (L : List Ent) (a : Nat) : amg L a + outs a L = L.length := filter_not L (fun e => inArr a e.1)
theorem pw2_fin : ∀ R : Fin 257, ∀ q : Fin 10, (0 < R.1 ∧ R.1 ≤ 2 ^ q.1 ∧ (q.1 = 0 ∨ 2 ^ (q.1 - 1) < R.1)) → pw2 R.1 = 2 ^ q.1 := by decide +kernel
theorem pw2_is (R : Nat) (h : R ≤ 256) (h0 : 0 < R) (q : Nat) (hq : q ≤ 9) (h1 : R ≤ 2 ^ q) (h2 : q = 0 ∨ 2 ^ (q - 1) < R) : pw2 R = 2 ^ q := pw2_fin ⟨R, by omega⟩ ⟨q, by omega⟩ ⟨h0, h1, h2⟩

set_option maxRecDepth 20000 in
set_option maxHeartbeats 4000000 in
theorem RSizes_any (L : List Ent) (hL : L.length ≤ 256) (v : Value) (w : World) (hv : EntsIs w v L) :
    Calls Try.prog 79 #[v] w fun e w' => e = .returned (.tuple #[.int .i64 (szA L : Nat), .int .i64 (szN L : Nat)]) ∧ w = w' := by
  have HA : Hid (∀ p : Nat, p ≤ 100000 → Calls Try.prog 88 #[v, .int .i64 (p : Int)] w fun e w' => e = .returned (.int .i64 (amg L p : Nat)) ∧ w = w') := fun p hp => among_any L (by omega) v w hv p hp
  obtain ⟨ao, cap, rfl⟩ : ∃ ao cap, v = .slice ao L.length cap := by
    rcases hv with ⟨rfl, rfl⟩ | ⟨b, c, rfl, _⟩
    · exact ⟨_, _, rfl⟩
    · exact ⟨_, _, rfl⟩
  clear hv
  have HLe : Hid (∀ p, amg L p ≤ L.length) := amg_le L
  have HSt : Hid (∀ q, q ≤ 12 → (szS (cnt L) (q + 1)).1 = if 2 ^ q < 2 * amg L (2 ^ q) then 2 ^ q else (szS (cnt L) q).1) := fun q hq => szS_step L hq
  have HBd : Hid (∀ q, (szS (cnt L) q).1 ≤ 2 ^ q) := fun q => (szS_le _ q).2
  have HZ : Hid (szA L = (szS (cnt L) 13).1) := by show _ = _; rfl
  obtain ⟨R, HR⟩ : ∃ R, Hid (R = L.length - amg L (szA L)) := ⟨_, show _ = _ from rfl⟩
  have HN : Hid (szN L = pw2 R) := by
    show _ = _
    have h1 := amg_outs L (szA L)
    have h2 := sz_outs L
    rw [HR.out]
    unfold szN
    congr 1
    omega
  have hR : R ≤ 256 := by rw [HR.out]; omega
  have HR1 : Hid (R + amg L (szA L) = L.length) := by
    show _ = _
    have h1 := HLe.out (szA L)
    rw [HR.out]; omega
  clear HR
  generalize L.length = N at *
  generalize szN L = rn at HN ⊢
  generalize szA L = ra at HZ HR1 ⊢
  generalize cnt L = c at *
  have hra : ra ≤ 8192 := by rw [HZ.out]; exact HBd.out 13
  go_enter Try.func79, Try.ntmps79
  go_wp2_with fail
  go_loop [4, 5, 6] (fun ta tp tk => ∃ j : Nat, j ≤ 13 ∧ ta = .int .i64 ((szS c j).1 : Nat) ∧ tp = .int .i64 (2 ^ j : Nat) ∧ tk = .int .i64 j) (fun _ _ tk => 13 - (intOf tk).toNat)
  case atStart => exact ⟨0, by omega, rfl, rfl, rfl⟩
  case round =>
    obtain ⟨j, hj, rfl, rfl, rfl⟩ := hrel
    by_cases h13 : j = 13
    · subst h13
      rw [← HZ.out]
      have HAr : Hid (Calls Try.prog 88 #[.slice ao N cap, .int .i64 (ra : Int)] w fun e w' => e = .returned (.int .i64 (amg L ra : Nat)) ∧ w = w') := HA.out ra (by omega)
      generalize amg L ra = mr at HAr HR1
      have e1 : (N : Int) - (mr : Int) = (R : Int) := by have := HR1.out; omega
      go_wp2_with fail
      refine HAr.out.mono ?_
      rintro e w' ⟨rfl, rfl⟩
      clear HAr HSt HBd HA HR1
      by_cases h0 : R = 0
      · have HN0 : Hid (rn = 0) := by show _ = _; rw [HN.out, h0]; rfl
        subst h0
        go_wp2
        go_ret2
        exact ⟨by rw [HN0.out]; rfl, rfl⟩
      · have hg : (0 : Int) < (R : Int) := by omega
        go_wp2_with fail
        go_loop [8] (fun tn => ∃ q : Nat, q ≤ 9 ∧ tn = .int .i64 (2 ^ q : Nat) ∧ (q = 0 ∨ 2 ^ (q - 1) < R)) (fun tn => 512 - (intOf tn).toNat)
        case atStart => exact ⟨0, by omega, rfl, .inl rfl⟩
        case round =>
          obtain ⟨q, hq, rfl, hp⟩ := hrel
          by_cases hlt : 2 ^ q < R
          · have hq8 : q ≤ 7 := by
              rcases Nat.lt_or_ge q 8 with h | h
              · omega
              · have := Nat.pow_le_pow_right (n := 2) (by decide) h
                omega
            have HX : Hid ((2 ^ (q + 1) : Nat) = 2 * 2 ^ q) := by show _ = _; rw [Nat.pow_succ]; omega
            have hP : 0 < 2 ^ q := Nat.pow_pos (by decide)
            have HP2 : Hid (q + 1 = 0 ∨ 2 ^ (q + 1 - 1) < R) := .inr hlt
            generalize 2 ^ q = p at hlt HX hP ⊢
            have k1 : (p : Int) < (R : Int) := by omega
            clear hp
            go_wp2
            go_round
            case rel => exact ⟨q + 1, by omega, by rw [HX.out]; go_num, HP2.out⟩
            case measure => simp [intOf]; omega
          · have HE : Hid (rn = 2 ^ q) := by show _ = _; rw [HN.out]; exact pw2_is R hR (by omega) q hq (by omega) hp
            have k1 : ¬ ((2 ^ q : Nat) : Int) < (R : Int) := by omega
            generalize 2 ^ q = p at HE k1 ⊢
            clear hp hlt
            go_wp2
            go_ret2
            exact ⟨by rw [HE.out]; rfl, rfl⟩
    · have h12 : j ≤ 12 := by omega
      have hpb : 2 ^ j ≤ 4096 := Nat.pow_le_pow_right (n := 2) (by decide) h12
      have HS := HSt.out j h12
      have HS' : Hid ((szS c (j + 1)).1 = if 2 ^ j < 2 * amg L (2 ^ j) then 2 ^ j else (szS c j).1) := HS
      have HX : Hid ((2 ^ (j + 1) : Nat) = 2 * 2 ^ j) := by show _ = _; rw [Nat.pow_succ]; omega
      have HAr : Hid (Calls Try.prog 88 #[.slice ao N cap, .int .i64 ((2 ^ j : Nat) : Int)] w fun e w' => e = .returned (.int .i64 (amg L (2 ^ j) : Nat)) ∧ w = w') := HA.out _ (by omega)
      have hml := HLe.out (2 ^ j)
      have hk : (j : Int) ≤ 12 := by omega
      clear HS
      generalize (szS c j).1 = a0 at HS' ⊢
      generalize amg L (2 ^ j) = m at HS' HAr hml
      generalize 2 ^ j = p at HS' HAr HX hpb ⊢
      by_cases hb : p < 2 * m
      · have HS2 : Hid ((szS c (j + 1)).1 = p) := by show _ = _; rw [HS'.out, if_pos hb]
        have k1 : (p : Int) < 2 * (m : Int) := by omega
        clear HS' hb
        go_wp2_with fail
        refine HAr.out.mono ?_
        rintro e w' ⟨rfl, rfl⟩
        go_wp2
        go_round
        case rel => exact ⟨j + 1, by omega, by rw [HS2.out], by rw [HX.out]; go_num, by go_num⟩
        case measure => simp [intOf]; omega
      · have HS2 : Hid ((szS c (j + 1)).1 = a0) := by show _ = _; rw [HS'.out, if_neg hb]
        have k1 : ¬ (p : Int) < 2 * (m : Int) := by omega
        clear HS' hb
        go_wp2_with fail
        refine HAr.out.mono ?_
        rintro e w' ⟨rfl, rfl⟩
        go_wp2
        go_round
        case rel => exact ⟨j + 1, by omega, by rw [HS2.out], by rw [HX.out]; go_num, by go_num⟩
        case measure => simp [intOf]; omega
end Go.Proofs.Ythefmfjlinpepaa

/- The document's Pairs. -/
namespace Go.Proofs.Ythefmfjlinpepaa
open Go.RowKit Go.Shelf
set_option linter.unusedSimpArgs false
set_option linter.unusedVariables false
attribute [local go_sem] Oper.semAt_some

theorem info78 : (Try.prog.info? 78).map (fun i => (i.zero, i.size, i.bytes)) = some (some (.agg #[.int .i64 0, .int .i64 0, .int .i64 0, .int .i64 0]), 4, 32) := by kernel_rfl
/-- A row of the document's nodes that a call has made. -/
def NRow (w : World) (base : Nat) (v : Value) (L : List Ent) : Prop := w.ownsRow base 78 4 v L.length (ic (flatE L))
theorem NRow.nil (w : World) (base : Nat) : NRow w base (.slice none 0 0) [] := World.ownsRow_nil w base 78 4
theorem NRow.ents {w : World} {base : Nat} {v : Value} {L : List Ent} (h : NRow w base v L) : EntsIs w v L := by
  rcases h.2 with ⟨rfl, h0⟩ | ⟨g, cap, cur, rfl, _⟩
  · exact Or.inl ⟨rfl, List.eq_nil_of_length_eq_zero h0⟩
  · refine Or.inr ⟨g, cap, rfl, fun j e he => ?_⟩
    have hj : j < L.length := (List.getElem?_eq_some_iff.1 he).1
    obtain ⟨g0, g1, g2, g3⟩ := flatE_get L j e he
    exact ⟨(World.ownsRow.cellAt h _ (by omega)).trans g0, (World.ownsRow.cellAt h _ (by omega)).trans g1, (World.ownsRow.cellAt h _ (by omega)).trans g2, (World.ownsRow.cellAt h _ (by omega)).trans g3⟩
theorem NRow.turn {w w' : World} {base : Nat} {v : Value} {L : List Ent} (h : NRow w base v L) (hk : ∀ k, v.ownBlock = some k → w'.heap[k]? = w.heap[k]?) : NRow w' base v L := by
  refine ⟨h.1, h.2.imp id ?_⟩
  rintro ⟨g, cap, cur, e1, e2, e3, r⟩
  refine ⟨g, cap, cur, e1, e2, ?_, r⟩
  rw [hk g (by rw [e1]; rfl)]; exact e3
theorem NRow.no {w w' : World} {base : Nat} {v : Value} {L : List Ent} (h : NRow w base v L) (hk : Kept No w w') : NRow w' base v L := h.turn (fun k hk' => hk.block k (World.ownsRow.lt h k hk').2 id)
theorem NRow.form {w : World} {base : Nat} {v : Value} {L : List Ent} (h : NRow w base v L) : ∃ ao c, v = .slice ao L.length c := by
  rcases h.2 with ⟨rfl, h0⟩ | ⟨g, cap, cur, rfl, _⟩
  · exact ⟨_, _, by rw [h0]⟩
  · exact ⟨_, _, rfl⟩

/-- A node is appended. -/
theorem app_node {ops : Array Oper} {rest : List Oper} {o : Oper} {a : Act} {Q : Exit → Act → World → Prop} {w : World} (hgd : o.guard = none) (s x : Operand)
    (ho : o.op = .call { callee := .builtin .append, args := #[s, x], argTypes := #[27, 27] }) (base : Nat) (v : Value) (L : List Ent) (hs : a.eval s = v) (hrow : NRow w base v L)
    (N : Nat) (e : Ent) (hx : a.eval x = .slice (some ⟨N, 0, none⟩) 1 1) (hN : w.heap[N]? = some (.cells #[.int .i64 e.1.1, .int .i64 e.1.2, .int .i64 e.2.1, .int .i64 e.2.2] 78 (0, 0))) (hlen : L.length + 1 ≤ 1000000) (hbase : base ≤ w.heap.size)
    (h : ∀ v' w', Hid (NRow w' base v' (L ++ [e])) → Hid (w.grownBy w' v.ownBlock) → wpList Try.prog ops Q rest (a.put o.dst v') w') : wpList Try.prog ops Q (o :: rest) a w := by
  obtain ⟨i0, hi, hz0, hz1, hz2⟩ := info_parts info78
  refine wpList_append_own _ hgd s x 27 ho base 78 i0 _ 4 32 Try.underlying27 hi hz0 hz1 hz2 rfl (by decide) v L.length (ic (flatE L)) hs hrow ⟨N, 0, none⟩ 1 1 (ic (flatE [e])) hx rfl ?_ (ic_one _)
      (by unfold maxLen; omega) (by omega) hbase ?_
  · intro j u hu
    have hc := cell_of hN
    rcases j with _ | _ | _ | _ | j
    · simp [ic, flatE] at hu; subst hu; simpa [Addr.add] using hc 0
    · simp [ic, flatE] at hu; subst hu; simpa [Addr.add] using hc 1
    · simp [ic, flatE] at hu; subst hu; simpa [Addr.add] using hc 2
    · simp [ic, flatE] at hu; subst hu; simpa [Addr.add] using hc 3
    · simp [ic, flatE] at hu
  · intro v' w' h1 h2 h3
    refine h v' w' ?_ h2
    show World.ownsRow _ _ _ _ _ _ _
    rw [List.length_append, flatE_append, ic_append]; exact h1

/-- The same at a step of a region that draws its order. -/
theorem step_node {ops : Array Oper} {o : Oper} {a : Act} {w : World} {K : Act → World → Prop} {Q : Exit → Act → World → Prop} {E : Prop} (hgd : o.guard = none) (s x : Operand)
    (ho : o.op = .call { callee := .builtin .append, args := #[s, x], argTypes := #[27, 27] }) (base : Nat) (v : Value) (L : List Ent) (hs : a.eval s = v) (hrow : NRow w base v L)
    (N : Nat) (e : Ent) (hx : a.eval x = .slice (some ⟨N, 0, none⟩) 1 1) (hN : w.heap[N]? = some (.cells #[.int .i64 e.1.1, .int .i64 e.1.2, .int .i64 e.2.1, .int .i64 e.2.2] 78 (0, 0))) (hlen : L.length + 1 ≤ 1000000) (hbase : base ≤ w.heap.size)
    (h : ∀ v' w', Hid (NRow w' base v' (L ++ [e])) → Hid (w.grownBy w' v.ownBlock) → K (a.put o.dst v') w') :
    if Region.wanted o (yielded ops a.tmps) = true then Oper.wp Try.prog o a w K Q else E := by
  have hw : Region.wanted o (yielded ops a.tmps) = true := by simp [Region.wanted, hgd]
  rw [if_pos hw]
  obtain ⟨i0, hi, hz0, hz1, hz2⟩ := info_parts info78
  refine wp_append_own w s x 27 ho base 78 i0 _ 4 32 Try.underlying27 hi hz0 hz1 hz2 rfl (by decide) v L.length (ic (flatE L)) hs hrow ⟨N, 0, none⟩ 1 1 (ic (flatE [e])) hx rfl ?_ (ic_one _)
      (by unfold maxLen; omega) (by omega) hbase ?_
  · intro j u hu
    have hc := cell_of hN
    rcases j with _ | _ | _ | _ | j
    · simp [ic, flatE] at hu; subst hu; simpa [Addr.add] using hc 0
    · simp [ic, flatE] at hu; subst hu; simpa [Addr.add] using hc 1
    · simp [ic, flatE] at hu; subst hu; simpa [Addr.add] using hc 2
    · simp [ic, flatE] at hu; subst hu; simpa [Addr.add] using hc 3
    · simp [ic, flatE] at hu
  · intro v' w' h1 h2 h3
    refine h v' w' ?_ h2
    show World.ownsRow _ _ _ _ _ _ _
    rw [List.length_append, flatE_append, ic_append]; exact h1

/-- While a row is made. -/
structure PI (w : World) (s : Value) (L : List Ent) (wr : World) : Prop where
  kp : Kept No w wr
  row : NRow wr w.heap.size s L
theorem PI.no {w : World} {s : Value} {L : List Ent} {wr W : World} (h : PI w s L wr) (hk : Kept No wr W) : PI w s L W := ⟨h.kp.trans hk, h.row.no hk⟩
theorem PI.next {w : World} {s s' : Value} {L : List Ent} {e : Ent} {V W5 : World} {o : Obj} (h : PI w s L V) (HR : NRow W5 w.heap.size s' (L ++ [e])) (HG : (V.alloc o).grownBy W5 s.ownBlock) : PI w s' (L ++ [e]) W5 :=
  ⟨h.kp.trans' (((Kept.refl _ _).alloc o).grown HG (fun k hk => .inl hk) : Kept (fun k => s.ownBlock = some k) V W5) (fun i hi => .inr (World.ownsRow.lt h.row i hi).1), HR⟩

/-- Each value that is there has a key. -/
def Nv (a n : Nat) (sl : Sl) : Prop := ∀ m : Nat, m < n → (sl ((a + 2 * m + 1 : Nat) : Int)).1 ≠ 0 → keyB (sl ((a + 2 * m : Nat) : Int)).1 (sl ((a + 2 * m : Nat) : Int)).2 = true

theorem entsTo_arr (a : Nat) (sl : Sl) (i : Nat) (hi : i < a) : entsTo a sl 0 (i + 1) = if (sl (i : Int)).1 = 0 then entsTo a sl 0 i else entsTo a sl 0 i ++ [((2, (i : Int) + 1), sl (i : Int))] := by
  have e1 : plA a 0 i = i := by unfold plA; rw [if_pos (by omega)]; omega
  have e2 : keyAt a sl (i : Int) = (2, (i : Int) + 1) := by unfold keyAt; rw [if_pos (by omega)]
  rw [entsTo_succ, e1]
  unfold okE
  rw [e2]
  have e3 : keyB 2 ((i : Int) + 1) = true := by unfold keyB; rfl
  simp only
  rw [e3]
  by_cases h : (sl (i : Int)).1 = 0
  · rw [if_pos h, h]; simp
  · rw [if_neg h]
    have : ((sl (i : Int)).1 == 0) = false := by simpa using h
    rw [this]; simp
theorem entsTo_nod (a n : Nat) (sl : Sl) (hv : Nv a n sl) (i : Nat) (hi : i < n) : entsTo a sl 0 (a + i + 1) = if (sl ((a : Int) + 2 * (i : Int) + 1)).1 = 0 then entsTo a sl 0 (a + i) else entsTo a sl 0 (a + i) ++ [(sl ((a : Int) + 2 * (i : Int)), sl ((a : Int) + 2 * (i : Int) + 1))] := by
  have e1 : plA a 0 (a + i) = a + 2 * i + 1 := by unfold plA; rw [if_neg (by omega)]; omega
  have c1 : ((a + 2 * i + 1 : Nat) : Int) = (a : Int) + 2 * (i : Int) + 1 := by omega
  have c2 : ((a + 2 * i : Nat) : Int) = (a : Int) + 2 * (i : Int) := by omega
  have e2 : keyAt a sl ((a : Int) + 2 * (i : Int) + 1) = sl ((a : Int) + 2 * (i : Int)) := by
    unfold keyAt; rw [if_neg (by omega)]; congr 1; omega
  have hv' := hv i hi
  rw [c1, c2] at hv'
  rw [entsTo_succ, e1, c1]
  unfold okE
  rw [e2]
  by_cases h : (sl ((a : Int) + 2 * (i : Int) + 1)).1 = 0
  · rw [if_pos h, h]; simp
  · rw [if_neg h, hv' h]
    have : ((sl ((a : Int) + 2 * (i : Int) + 1)).1 == 0) = false := by simpa using h
    rw [this]; simp
theorem entsTo_len (a : Nat) (sl : Sl) (f i : Nat) : (entsTo a sl f i).length ≤ i := by
  unfold entsTo
  exact Nat.le_trans (List.length_filterMap_le _ _) (by simp)

set_option maxRecDepth 20000 in
set_option maxHeartbeats 4000000 in
theorem RPairs_any {w : World} {Q : Nat} {most : Int} {a n : Nat} {sl : Sl} (h : Rt w Q most a n sl) (hv : Nv a n sl) :
    Calls Try.prog 80 #[RP Q] w fun e w' => ∃ v, e = .returned v ∧ PI w v (ents a n sl 0) w' := by
  obtain ⟨ao, lo, ca, cl, h1, h2, h3⟩ := h.ex
  obtain ⟨ha, hn⟩ := h.bd
  have HE : Hid (ents a n sl 0 = entsTo a sl 0 (a + n)) := by show _ = _; unfold ents plN; congr 1; omega
  rw [HE.out]
  have H1 : Hid (∀ W, Kept No w W → W.cell? ⟨Q, 0, none⟩ = some (.slice ao a ca) ∧ W.cell? ⟨Q, 1, none⟩ = some (.slice lo n cl)) := by
    intro W hW
    have e := hW.heap h1 id
    exact ⟨by rw [cell_of e]; rfl, by rw [cell_of e]; rfl⟩
  have H2 : Hid (∀ i : Nat, i < a → ∃ bA, ao = some ⟨bA, 0, none⟩ ∧ ∀ W, Kept No w W → W.cell? ⟨bA, i * 2, none⟩ = some (.int .i64 (sl (i : Int)).1) ∧ W.cell? ⟨bA, i * 2 + 1, none⟩ = some (.int .i64 (sl (i : Int)).2)) := by
    intro i hi
    obtain ⟨bA, rfl, cs, hb, hc⟩ := h2 (by omega)
    refine ⟨bA, rfl, fun W hW => ?_⟩
    have e := hW.heap hb id
    exact ⟨by rw [cell_of e]; exact (hc i hi).1, by rw [cell_of e]; exact (hc i hi).2⟩
  have H3 : Hid (∀ i : Nat, i < n → ∃ bL, lo = some ⟨bL, 0, none⟩ ∧ ∀ W, Kept No w W → (W.cell? ⟨bL, i * 4, none⟩ = some (.int .i64 (sl ((a : Int) + 2 * (i : Int))).1) ∧ W.cell? ⟨bL, i * 4 + 1, none⟩ = some (.int .i64 (sl ((a : Int) + 2 * (i : Int))).2)) ∧ W.cell? ⟨bL, i * 4 + 2, none⟩ = some (.int .i64 (sl ((a : Int) + 2 * (i : Int) + 1)).1) ∧ W.cell? ⟨bL, i * 4 + 3, none⟩ = some (.int .i64 (sl ((a : Int) + 2 * (i : Int) + 1)).2)) := by
    intro i hi
    obtain ⟨bL, rfl, cs, hb, hc⟩ := h3 (by omega)
    refine ⟨bL, rfl, fun W hW => ?_⟩
    have e := hW.heap hb id
    obtain ⟨⟨q1, q2⟩, q3, q4⟩ := hc i hi
    exact ⟨⟨by rw [cell_of e]; exact q1, by rw [cell_of e]; exact q2⟩, by rw [cell_of e]; exact q3, by rw [cell_of e]; exact q4⟩
  have HA : Hid (∀ i : Nat, i < a → entsTo a sl 0 (i + 1) = if (sl (i : Int)).1 = 0 then entsTo a sl 0 i else entsTo a sl 0 i ++ [((2, (i : Int) + 1), sl (i : Int))]) := entsTo_arr a sl
  have HN : Hid (∀ i : Nat, i < n → entsTo a sl 0 (a + i + 1) = if (sl ((a : Int) + 2 * (i : Int) + 1)).1 = 0 then entsTo a sl 0 (a + i) else entsTo a sl 0 (a + i) ++ [(sl ((a : Int) + 2 * (i : Int)), sl ((a : Int) + 2 * (i : Int) + 1))]) := entsTo_nod a n sl hv
  have HLn : Hid (∀ i, (entsTo a sl 0 i).length ≤ i) := entsTo_len a sl 0
  clear h h1 h2 h3 hv HE
  go_enter Try.func80, Try.ntmps80
  go_wp2_with fail
  go_loopw [3, 4] (fun s i wr => ∃ j : Nat, j ≤ a ∧ i = .int .i64 j ∧ Hid (PI w s (entsTo a sl 0 j) wr)) (fun _ i _ => a - (intOf i).toNat)
  case atStart => exact ⟨0, Nat.zero_le _, rfl, ⟨Kept.refl _ _, NRow.nil _ _⟩⟩
  case round =>
    obtain ⟨j, hj, rfl, HI⟩ := hrel
    obtain ⟨so, sc, hs⟩ := HI.out.row.form
    have hll := HLn.out j
    obtain ⟨c0, c1⟩ := H1.out _ HI.out.kp
    by_cases hlt : j < a
    · obtain ⟨bA, hb, hc⟩ := H2.out j hlt
      obtain ⟨g0, g1⟩ := hc _ HI.out.kp
      have HC : Hid (∀ W, Kept No w W → W.cell? ⟨bA, j * 2, none⟩ = some (.int .i64 (sl (j : Int)).1) ∧ W.cell? ⟨bA, j * 2 + 1, none⟩ = some (.int .i64 (sl (j : Int)).2)) := hc
      subst hb
      have HS := HA.out j hlt
      have HS' : Hid (entsTo a sl 0 (j + 1) = if (sl (j : Int)).1 = 0 then entsTo a sl 0 j else entsTo a sl 0 j ++ [((2, (j : Int) + 1), sl (j : Int))]) := HS
      clear HS hc
      generalize sl (j : Int) = x at g0 g1 HS' HC
      obtain ⟨x1, x2⟩ := x
      simp only at g0 g1 HS' HC
      have e1 : (j : Int) < (a : Int) := by omega
      have e0 : (0 : Int) ≤ (j : Int) := by omega
      generalize entsTo a sl 0 j = L at HI hll HS' hs
      subst hs
      have HLL : Hid (L.length + 1 ≤ 1000000) := by show _ ≤ _; omega
      generalize hLn : L.length = ll at HI hll ⊢
      clear hLn
      by_cases hx : x1 = 0
      · have HS2 : Hid (entsTo a sl 0 (j + 1) = L) := by show _ = _; rw [HS'.out, if_pos hx]
        subst hx
        clear HS'
        go_wp2
        go_roundw
        case rel => exact ⟨j + 1, by omega, by go_num, by rw [HS2.out]; exact HI⟩
        case measure => simp [intOf]; omega
      · have HS2 : Hid (entsTo a sl 0 (j + 1) = L ++ [((2, (j : Int) + 1), (x1, x2))]) := by show _ = _; rw [HS'.out, if_neg hx]
        have hx1 : (x1 == 0) = false := by simpa using hx
        have HCx : Hid (∀ W, Below wr.heap.size wr W → Kept No w W) := fun W hW => HI.out.kp.trans (Kept.of_below hW)
        clear HS' hx
        obtain ⟨V, hV⟩ : ∃ V, V = wr := ⟨_, rfl⟩
        rw [← hV] at HI HCx g0 g1 c0 c1 ⊢
        clear hV
        go_wp2_with fail
        have HK0 : Hid (Kept No w V.drew) := HI.out.kp.drew
        refine wp_region_held (S := fun w' => Kept No w w') (by kernel_rfl) ?_
        refine wpAnyH_take (i := 0) (v := .slice so ll sc) rfl (by kernel_rfl) (by kernel_rfl) (by kernel_rfl) (fun _ _ _ h => h) (Or.inl ⟨by kernel_rfl, ?_⟩) HK0.out ?_
        · intro w' _; simp [go_sem]
        try simp only [Act.put, List.setIfInBounds_toArray, List.set_cons_zero, List.set_cons_succ, List.getElem_toArray, List.getElem_cons_zero, List.getElem_cons_succ]
        refine wpAnyH_take (i := 1) (v := .int .i64 (j : Int)) rfl (by kernel_rfl) (by kernel_rfl) (by kernel_rfl) (fun _ _ _ h => h) (Or.inl ⟨by kernel_rfl, ?_⟩) HK0.out ?_
        · intro w' _; simp [go_sem]
        try simp only [Act.put, List.setIfInBounds_toArray, List.set_cons_zero, List.set_cons_succ, List.getElem_toArray, List.getElem_cons_zero, List.getElem_cons_succ]
        refine wpAnyH_take (i := 2) (v := .int .i64 ((j : Int) + 1)) rfl (by kernel_rfl) (by kernel_rfl) (by kernel_rfl) (fun _ _ _ h => h) (Or.inl ⟨by kernel_rfl, ?_⟩) HK0.out ?_
        · intro w' _; simp [go_sem]; rw [IntKind.wrap_i64]; omega
        try simp only [Act.put, List.setIfInBounds_toArray, List.set_cons_zero, List.set_cons_succ, List.getElem_toArray, List.getElem_cons_zero, List.getElem_cons_succ]
        refine wpAnyH_take (i := 4) (v := RP Q) rfl (by kernel_rfl) (by kernel_rfl) (by kernel_rfl) (fun _ _ _ h => h) (Or.inl ⟨by kernel_rfl, ?_⟩) HK0.out ?_
        · intro w' _; simp [go_sem]
        try simp only [Act.put, List.setIfInBounds_toArray, List.set_cons_zero, List.set_cons_succ, List.getElem_toArray, List.getElem_cons_zero, List.getElem_cons_succ]
        refine wpAnyH_take (i := 5) (v := RP Q) rfl (by kernel_rfl) (by kernel_rfl) (by kernel_rfl) (fun _ _ _ h => h) (Or.inl ⟨by kernel_rfl, ?_⟩) HK0.out ?_
        · intro w' _; simp [go_sem]
        try simp only [Act.put, List.setIfInBounds_toArray, List.set_cons_zero, List.set_cons_succ, List.getElem_toArray, List.getElem_cons_zero, List.getElem_cons_succ]
        refine wpAnyH_take (i := 6) (v := RP Q) rfl (by kernel_rfl) (by kernel_rfl) (by kernel_rfl) (fun _ _ _ h => h) (Or.inl ⟨by kernel_rfl, ?_⟩) HK0.out ?_
        · intro w' _; simp [go_sem]
        try simp only [Act.put, List.setIfInBounds_toArray, List.set_cons_zero, List.set_cons_succ, List.getElem_toArray, List.getElem_cons_zero, List.getElem_cons_succ]
        refine wpAnyH_take (i := 7) (v := .slice (some ⟨bA, 0, none⟩) a ca) rfl (by kernel_rfl) (by kernel_rfl) (by kernel_rfl) (fun _ _ _ h => h) (Or.inl ⟨by kernel_rfl, ?_⟩) HK0.out ?_
        · intro w' hW; obtain ⟨r0, r1⟩ := H1.out w' hW; simp [go_sem, r0]
        try simp only [Act.put, List.setIfInBounds_toArray, List.set_cons_zero, List.set_cons_succ, List.getElem_toArray, List.getElem_cons_zero, List.getElem_cons_succ]
        refine wpAnyH_take (i := 8) (v := .int .i64 (j : Int)) rfl (by kernel_rfl) (by kernel_rfl) (by kernel_rfl) (fun _ _ _ h => h) (Or.inl ⟨by kernel_rfl, ?_⟩) HK0.out ?_
        · intro w' _; simp [go_sem]
        try simp only [Act.put, List.setIfInBounds_toArray, List.set_cons_zero, List.set_cons_succ, List.getElem_toArray, List.getElem_cons_zero, List.getElem_cons_succ]
        refine wpAnyH_take (i := 9) (v := .pointer (some ⟨bA, j * 2, none⟩)) rfl (by kernel_rfl) (by kernel_rfl) (by kernel_rfl) (fun _ _ _ h => h) (Or.inl ⟨by kernel_rfl, ?_⟩) HK0.out ?_
        · intro w' _; simp [go_sem, e0, e1]
        try simp only [Act.put, List.setIfInBounds_toArray, List.set_cons_zero, List.set_cons_succ, List.getElem_toArray, List.getElem_cons_zero, List.getElem_cons_succ]
        refine wpAnyH_take (i := 10) (v := AV x1 x2) rfl (by kernel_rfl) (by kernel_rfl) (by kernel_rfl) (fun _ _ _ h => h) (Or.inl ⟨by kernel_rfl, ?_⟩) HK0.out ?_
        · intro w' hW; obtain ⟨r0, r1⟩ := HC.out w' hW; simp [go_sem, r0, r1]
        try simp only [Act.put, List.setIfInBounds_toArray, List.set_cons_zero, List.set_cons_succ, List.getElem_toArray, List.getElem_cons_zero, List.getElem_cons_succ]
        refine wpAnyH_ready (rs := [3]) (by kernel_rfl) (by simp) ?_
        refine AllReadyH.cons rfl (fun K hK => ?_) AllReadyH.nil
        go_simp
        refine (RInt_any ((j : Int) + 1) _).mono ?_
        rintro e V2 ⟨rfl, hk2⟩
        have HI2 : Hid (PI w (.slice so ll sc) L V2) := HI.out.no ((Kept.refl No V).drew.trans (Kept.of_below hk2))
        have hz := HI2.out.kp.size
        clear hk2 HCx HI HK0
        refine hK.out _ _ HI2.out.kp (fun _ => ?_)
        clear hK
        try simp only [Act.put, List.setIfInBounds_toArray, List.set_cons_zero, List.set_cons_succ, List.getElem_toArray, List.getElem_cons_zero, List.getElem_cons_succ]
        refine wpAnyH_take (i := 11) (v := .agg #[.int .i64 2, .int .i64 ((j : Int) + 1), .int .i64 x1, .int .i64 x2]) rfl (by kernel_rfl) (by kernel_rfl) (by kernel_rfl) (fun _ _ _ h => h) (Or.inl ⟨by kernel_rfl, ?_⟩) HI2.out.kp ?_
        · intro w' _; simp [go_sem]
        try simp only [Act.put, List.setIfInBounds_toArray, List.set_cons_zero, List.set_cons_succ, List.getElem_toArray, List.getElem_cons_zero, List.getElem_cons_succ]
        refine wpAnyH_ready (rs := [12]) (by kernel_rfl) (by simp) ?_
        refine AllReadyH.cons rfl (fun K hK => ?_) AllReadyH.nil
        go_simp
        refine hK.out _ _ (HI2.out.kp.alloc _) (fun _ => ?_)
        clear hK
        try simp only [Act.put, List.setIfInBounds_toArray, List.set_cons_zero, List.set_cons_succ, List.getElem_toArray, List.getElem_cons_zero, List.getElem_cons_succ]
        refine wpAnyH_ready (rs := [13]) (by kernel_rfl) (by simp) ?_
        refine AllReadyH.cons rfl (fun K hK => ?_) AllReadyH.nil
        refine step_node rfl (.tmp 24) (.tmp 36) rfl w.heap.size (.slice so ll sc) L rfl (World.ownsRow.alloc HI2.out.row _) V2.heap.size ((2, (j : Int) + 1), (x1, x2)) rfl (heap_new1 V2 _) HLL.out (by simp; omega) ?_
        intro v' W5 HR HG
        have HI3 : Hid (PI w v' (entsTo a sl 0 (j + 1)) W5) := by rw [HS2.out]; exact HI2.out.next HR.out HG.out
        refine hK.out _ _ HI3.out.kp (fun _ => ?_)
        clear hK
        obtain ⟨ao', co, rfl⟩ := HR.out.form
        clear HR HG HI2 HS2 c0 c1 g0 g1
        generalize (L ++ [((2, (j : Int) + 1), (x1, x2))]).length = lm at HI3 ⊢
        try simp only [Act.put, List.setIfInBounds_toArray, List.set_cons_zero, List.set_cons_succ, List.getElem_toArray, List.getElem_cons_zero, List.getElem_cons_succ]
        refine wpAnyH_take (i := 14) (v := .slice ao' lm co) rfl (by kernel_rfl) (by kernel_rfl) (by kernel_rfl) (fun _ _ _ h => h) (Or.inl ⟨by kernel_rfl, ?_⟩) HI3.out.kp ?_
        · intro w' _; simp [go_sem]
        try simp only [Act.put, List.setIfInBounds_toArray, List.set_cons_zero, List.set_cons_succ, List.getElem_toArray, List.getElem_cons_zero, List.getElem_cons_succ]
        refine wpAnyH_done (by kernel_rfl) ?_ _
        go_wp2
        go_roundw
        case rel => exact ⟨j + 1, by omega, by go_num, HI3.out⟩
        case measure => simp [intOf]; omega
    · obtain rfl : j = a := by omega
      subst hs
      generalize hLn : (entsTo j sl 0 j).length = ll at HI hll ⊢
      clear hLn hlt
      obtain ⟨w1, hw1⟩ : ∃ w1, w1 = wr := ⟨_, rfl⟩
      rw [← hw1] at HI c0 c1 ⊢
      clear hw1
      go_wp2_with fail
      clear c0 c1
      go_loopw [3, 5] (fun s i wr => ∃ q : Nat, q ≤ n ∧ i = .int .i64 q ∧ Hid (PI w s (entsTo j sl 0 (j + q)) wr)) (fun _ i _ => n - (intOf i).toNat)
      case atStart => exact ⟨0, Nat.zero_le _, rfl, HI⟩
      case round =>
        clear HI hll
        obtain ⟨q, hq, rfl, HI⟩ := hrel
        obtain ⟨so2, sc2, hs⟩ := HI.out.row.form
        have hll := HLn.out (j + q)
        obtain ⟨c0, c1⟩ := H1.out _ HI.out.kp
        by_cases hlt : q < n
        · obtain ⟨bL, hb, hc⟩ := H3.out q hlt
          obtain ⟨⟨g0, g1⟩, g2, g3⟩ := hc _ HI.out.kp
          subst hb
          have HS := HN.out q hlt
          have HS' : Hid (entsTo j sl 0 (j + q + 1) = if (sl ((j : Int) + 2 * (q : Int) + 1)).1 = 0 then entsTo j sl 0 (j + q) else entsTo j sl 0 (j + q) ++ [(sl ((j : Int) + 2 * (q : Int)), sl ((j : Int) + 2 * (q : Int) + 1))]) := HS
          clear HS hc
          generalize sl ((j : Int) + 2 * (q : Int)) = y at g0 g1 HS'
          generalize sl ((j : Int) + 2 * (q : Int) + 1) = x at g2 g3 HS'
          obtain ⟨x1, x2⟩ := x
          obtain ⟨y1, y2⟩ := y
          simp only at g0 g1 g2 g3 HS'
          have e1 : (q : Int) < (n : Int) := by omega
          have e0 : (0 : Int) ≤ (q : Int) := by omega
          generalize entsTo j sl 0 (j + q) = L at HI hll HS' hs
          subst hs
          have HLL : Hid (L.length + 1 ≤ 1000000) := by show _ ≤ _; omega
          generalize hLn : L.length = ll at HI hll ⊢
          clear hLn
          by_cases hx : x1 = 0
          · have HS2 : Hid (entsTo j sl 0 (j + q + 1) = L) := by show _ = _; rw [HS'.out, if_pos hx]
            subst hx
            clear HS'
            go_wp2
            go_roundw
            case rel => exact ⟨q + 1, by omega, by go_num, by rw [← Nat.add_assoc, HS2.out]; exact HI⟩
            case measure => simp [intOf]; omega
          · have HS2 : Hid (entsTo j sl 0 (j + q + 1) = L ++ [((y1, y2), (x1, x2))]) := by show _ = _; rw [HS'.out, if_neg hx]
            have hx1 : (x1 == 0) = false := by simpa using hx
            have hz := HI.out.kp.size
            clear HS' hx
            go_wp2_with (refine app_node rfl (.tmp 57) (.tmp 65) rfl w.heap.size (.slice so2 ll sc2) L rfl (World.ownsRow.alloc HI.out.row _) wr.heap.size ((y1, y2), (x1, x2)) rfl (heap_new1 wr _) HLL.out (by simp; omega) ?_)
            intro v' W5 HR HG
            have HI3 : Hid (PI w v' (entsTo j sl 0 (j + q + 1)) W5) := by rw [HS2.out]; exact HI.out.next HR.out HG.out
            obtain ⟨ao', co, rfl⟩ := HR.out.form
            clear HR HG HI HS2 c0 c1 g0 g1 g2 g3
            generalize (L ++ [((y1, y2), (x1, x2))]).length = lm at HI3 ⊢
            go_wp2
            go_roundw
            case rel => exact ⟨q + 1, by omega, by go_num, HI3.out⟩
            case measure => simp [intOf]; omega
        · obtain rfl : q = n := by omega
          subst hs
          generalize hLn : (entsTo j sl 0 (j + q)).length = ll at HI hll ⊢
          clear hLn hlt
          go_wp2
          go_ret
          exact ⟨_, rfl, HI.out⟩
end Go.Proofs.Ythefmfjlinpepaa

/- The document's Need. -/
namespace Go.Proofs.Ythefmfjlinpepaa
open Go.RowKit Go.Shelf
set_option linter.unusedSimpArgs false
set_option linter.unusedVariables false
attribute [local go_sem] Oper.semAt_some

theorem put_need (a n : Nat) (sl : Sl) (k v : Int × Int) : (putR a n sl k v).1 = (inArr a k || (decide (0 ≤ (fdR a n sl k).1) || (decide (0 ≤ (fdR a n sl k).2) || v.1 == 0))) := by
  unfold putR findR
  cases hi : inArr a k
  · simp only [Bool.false_eq_true, if_false, Bool.false_or]
    rcases fdR_is a n sl k with ⟨m, hm, e1, e2⟩ | ⟨m, hm, e1, e2⟩ | ⟨e1, e2⟩
    · rw [e1, e2]; simp
    · rw [e1, e2]
      have h1 : ¬ ((a : Int) + 2 * (m : Int) + 1 = -1) := by omega
      have h2 : (0 : Int) ≤ (m : Int) := by omega
      simp only [Bool.false_eq_true, if_false]
      rw [if_neg h1, decide_eq_true h2]
      by_cases h3 : v.1 = 0
      · rw [if_pos h3]; simp
      · rw [if_neg h3]; simp
    · rw [e1, e2]
      simp only [Bool.false_eq_true, if_false]
      by_cases h3 : v.1 = 0
      · rw [if_pos h3]; simp [h3]
      · rw [if_neg h3]; simp [h3]
  · simp
theorem cnt_key (L : List Ent) (k u v : Int × Int) : cnt (L ++ [(k, u)]) = cnt (L ++ [(k, v)]) := by
  funext p
  rw [cnt_snoc, cnt_snoc]
theorem sz_key (L : List Ent) (k u v : Int × Int) : szA (L ++ [(k, u)]) = szA (L ++ [(k, v)]) ∧ szN (L ++ [(k, u)]) = szN (L ++ [(k, v)]) := by
  unfold szA szN
  rw [cnt_key L k u v]
  exact ⟨rfl, by simp⟩

set_option maxRecDepth 20000 in
set_option maxHeartbeats 4000000 in
theorem RNeed_any {w : World} {Q : Nat} {most : Int} {a n : Nat} {sl : Sl} (h : Rt w Q most a n sl) (hv : Nv a n sl) (hl : (ents a n sl 0).length ≤ 200) (k1 k2 v1 v2 : Int) :
    Calls Try.prog 62 #[RP Q, HV, AV k1 k2, AV v1 v2] w fun e w' => (((putR a n sl (k1, k2) (v1, v2)).1 = true ∧ e = .returned (.tuple #[.int .i64 0, .int .i64 0, .bool false])) ∨ ((putR a n sl (k1, k2) (v1, v2)).1 = false ∧ e = .returned (.tuple #[.int .i64 (szA (renL a n sl (k1, k2)) : Nat), .int .i64 (szN (renL a n sl (k1, k2)) : Nat), .bool true]))) ∧ Kept No w w' := by
  obtain ⟨W0, HW0⟩ : ∃ W0, Hid (W0 = ((w.alloc (.cells #[.bool false, .slice none 0 0] 70)).alloc (.cells #[.int .i64 k1, .int .i64 k2] 33)).alloc (.cells #[.int .i64 v1, .int .i64 v2] 33)) := ⟨_, show _ = _ from rfl⟩
  have HK0 : Hid (Kept No w W0) := by rw [HW0.out]; exact (((Kept.refl _ _).alloc _).alloc _).alloc _
  have HBs : Hid (∀ W, Kept No W0 W → W.cell? ⟨w.heap.size, 0, none⟩ = some (.bool false) ∧ W.cell? ⟨w.heap.size, 1, none⟩ = some (.slice none 0 0) ∧ W.cell? ⟨w.heap.size + 1, 0, none⟩ = some (.int .i64 k1) ∧ W.cell? ⟨w.heap.size + 1, 1, none⟩ = some (.int .i64 k2) ∧ W.cell? ⟨w.heap.size + 1 + 1, 0, none⟩ = some (.int .i64 v1) ∧ W.cell? ⟨w.heap.size + 1 + 1, 1, none⟩ = some (.int .i64 v2)) := by
    intro W hW
    have b0 : W0.heap[w.heap.size]? = some (.cells #[.bool false, .slice none 0 0] 70 (0, 0)) := by rw [HW0.out]; exact heap_old (heap_old (heap_new1 w _) _) _
    have b1 : W0.heap[w.heap.size + 1]? = some (.cells #[.int .i64 k1, .int .i64 k2] 33 (0, 0)) := by
      rw [HW0.out]; have := heap_new1 (w.alloc (.cells #[.bool false, .slice none 0 0] 70)) (.cells #[.int .i64 k1, .int .i64 k2] 33); simp only [World.size_alloc] at this; exact heap_old this _
    have b2 : W0.heap[w.heap.size + 1 + 1]? = some (.cells #[.int .i64 v1, .int .i64 v2] 33 (0, 0)) := by
      rw [HW0.out]; have := heap_new1 ((w.alloc (.cells #[.bool false, .slice none 0 0] 70)).alloc (.cells #[.int .i64 k1, .int .i64 k2] 33)) (.cells #[.int .i64 v1, .int .i64 v2] 33); simp only [World.size_alloc] at this; exact this
    have d0 := hW.heap b0 id
    have d1 := hW.heap b1 id
    have d2 := hW.heap b2 id
    exact ⟨by rw [cell_of d0]; rfl, by rw [cell_of d0]; rfl, by rw [cell_of d1]; rfl, by rw [cell_of d1]; rfl, by rw [cell_of d2]; rfl, by rw [cell_of d2]; rfl⟩
  have HF : Hid (∀ W, Kept No W0 W → Calls Try.prog 66 #[RP Q, HV, AV k1 k2] W fun e w' => e = .returned (.tuple #[.int .i64 (fdR a n sl (k1, k2)).1, .int .i64 (fdR a n sl (k1, k2)).2]) ∧ Kept No W w') := fun W hW => RFind_any (h.no (HK0.out.trans hW)) k1 k2
  have HIa : Hid (∀ W, Kept No W0 W → Calls Try.prog 65 #[RP Q, AV k1 k2] W fun e w' => e = .returned (.bool (inArr a (k1, k2))) ∧ Kept No W w') := fun W hW => RInArray_any (h.no (HK0.out.trans hW)) k1 k2
  have HPr : Hid (∀ W, Kept No W0 W → Calls Try.prog 80 #[RP Q] W fun e w' => ∃ v, e = .returned v ∧ PI W v (ents a n sl 0) w') := fun W hW => RPairs_any (h.no (HK0.out.trans hW)) hv
  have HSz : Hid (∀ v W, EntsIs W v (ents a n sl 0 ++ [((k1, k2), (v1, v2))]) → Calls Try.prog 79 #[v] W fun e w' => e = .returned (.tuple #[.int .i64 (szA (renL a n sl (k1, k2)) : Nat), .int .i64 (szN (renL a n sl (k1, k2)) : Nat)]) ∧ W = w') := by
    intro v W hE
    have := RSizes_any _ (by simp; omega) v W hE
    rw [(sz_key _ _ (v1, v2) (0, 0)).1, (sz_key _ _ (v1, v2) (0, 0)).2] at this
    exact this
  have HLL : Hid ((ents a n sl 0).length + 1 ≤ 1000000) := by show _ ≤ _; omega
  have HP := put_need a n sl (k1, k2) (v1, v2)
  have HP' : Hid ((putR a n sl (k1, k2) (v1, v2)).1 = (inArr a (k1, k2) || (decide (0 ≤ (fdR a n sl (k1, k2)).1) || (decide (0 ≤ (fdR a n sl (k1, k2)).2) || v1 == 0)))) := HP
  clear HP h hv hl
  generalize szA (renL a n sl (k1, k2)) = za at HSz ⊢
  generalize szN (renL a n sl (k1, k2)) = zn at HSz ⊢
  generalize (putR a n sl (k1, k2) (v1, v2)).1 = pb at HP' ⊢
  generalize fdR a n sl (k1, k2) = f at HF HP'
  generalize inArr a (k1, k2) = ib at HIa HP'
  generalize ents a n sl 0 = L at HPr HSz HLL
  obtain ⟨f1, f2⟩ := f
  simp only at HF HP'
  have HW0z : Hid (W0.heap.size = w.heap.size + 3) := by show _ = _; rw [HW0.out]; simp
  obtain ⟨q0, q1, q2, q3, q4, q5⟩ := HBs.out W0 (Kept.refl _ _)
  go_enter Try.func62, Try.ntmps62
  go_wp2_with (rw [← HW0.out])
  refine (HF.out _ (Kept.refl _ _)).mono ?_
  rintro e W2 ⟨rfl, hk2⟩
  have HW2 : Hid (Kept No W0 W2) := hk2
  clear hk2 HF q0 q1 q2 q3 q4 q5
  obtain ⟨q0, q1, q2, q3, q4, q5⟩ := HBs.out W2 HW2.out
  go_wp2_with fail
  refine (HIa.out _ HW2.out).mono ?_
  rintro e W3 ⟨rfl, hk3⟩
  have HW3 : Hid (Kept No W0 W3) := HW2.out.trans hk3
  have HKE : Hid (Kept No w W3) := HK0.out.trans HW3.out
  clear hk3 HIa q0 q1 q2 q3 q4 q5 HW2
  obtain ⟨q0, q1, q2, q3, q4, q5⟩ := HBs.out W3 HW3.out
  cases ib
  case' true =>
    have HP : Hid (pb = true) := by show _ = _; rw [HP'.out]; rfl
    clear HP'
    go_wp2
    go_ret3
    exact ⟨.inl ⟨HP.out, rfl⟩, HKE.out⟩
  by_cases h1 : 0 ≤ f1
  · have HP : Hid (pb = true) := by show _ = _; rw [HP'.out, decide_eq_true h1]; rfl
    clear HP'
    go_wp2
    go_ret3
    exact ⟨.inl ⟨HP.out, rfl⟩, HKE.out⟩
  by_cases h2 : 0 ≤ f2
  · have HP : Hid (pb = true) := by show _ = _; rw [HP'.out, decide_eq_true h2, decide_eq_false h1]; rfl
    clear HP'
    go_wp2
    go_ret3
    exact ⟨.inl ⟨HP.out, rfl⟩, HKE.out⟩
  by_cases h3 : v1 = 0
  · have HP : Hid (pb = true) := by show _ = _; rw [HP'.out, decide_eq_false h2, decide_eq_false h1, h3]; rfl
    have h3' : (v1 == 0) = true := by simpa using h3
    clear HP'
    go_wp2
    go_ret3
    exact ⟨.inl ⟨HP.out, rfl⟩, HKE.out⟩
  · have h3' : (v1 == 0) = false := by simpa using h3
    have HP : Hid (pb = false) := by show _ = _; rw [HP'.out, decide_eq_false h2, decide_eq_false h1, h3']; rfl
    clear HP'
    go_wp2_with fail
    clear q0 q1 q2 q3 q4 q5
    have HW3d : Hid (Kept No W0 W3.drew) := HW3.out.drew
    refine wp_region_held (S := fun w' => Kept No W0 w') (by kernel_rfl) ?_
    refine wpAnyH_take (i := 0) (v := RP Q) rfl (by kernel_rfl) (by kernel_rfl) (by kernel_rfl) (fun _ _ _ h => h) (Or.inl ⟨by kernel_rfl, ?_⟩) HW3d.out ?_
    · intro w' _; simp [go_sem]
    try simp only [Act.put, List.setIfInBounds_toArray, List.set_cons_zero, List.set_cons_succ, List.getElem_toArray, List.getElem_cons_zero, List.getElem_cons_succ]
    refine wpAnyH_take (i := 2) (v := AV k1 k2) rfl (by kernel_rfl) (by kernel_rfl) (by kernel_rfl) (fun _ _ _ h => h) (Or.inl ⟨by kernel_rfl, ?_⟩) HW3d.out ?_
    · intro w' hW; obtain ⟨q0, q1, q2, q3, q4, q5⟩ := HBs.out w' hW; simp [go_sem, q2, q3]
    try simp only [Act.put, List.setIfInBounds_toArray, List.set_cons_zero, List.set_cons_succ, List.getElem_toArray, List.getElem_cons_zero, List.getElem_cons_succ]
    refine wpAnyH_take (i := 3) (v := AV v1 v2) rfl (by kernel_rfl) (by kernel_rfl) (by kernel_rfl) (fun _ _ _ h => h) (Or.inl ⟨by kernel_rfl, ?_⟩) HW3d.out ?_
    · intro w' hW; obtain ⟨q0, q1, q2, q3, q4, q5⟩ := HBs.out w' hW; simp [go_sem, q4, q5]
    try simp only [Act.put, List.setIfInBounds_toArray, List.set_cons_zero, List.set_cons_succ, List.getElem_toArray, List.getElem_cons_zero, List.getElem_cons_succ]
    refine wpAnyH_take (i := 4) (v := .agg #[.int .i64 k1, .int .i64 k2, .int .i64 v1, .int .i64 v2]) rfl (by kernel_rfl) (by kernel_rfl) (by kernel_rfl) (fun _ _ _ h => h) (Or.inl ⟨by kernel_rfl, ?_⟩) HW3d.out ?_
    · intro w' _; simp [go_sem]
    try simp only [Act.put, List.setIfInBounds_toArray, List.set_cons_zero, List.set_cons_succ, List.getElem_toArray, List.getElem_cons_zero, List.getElem_cons_succ]
    refine wpAnyH_ready (rs := [1, 5]) (by kernel_rfl) (by simp) ?_
    refine AllReadyH.cons rfl (fun K hK => ?_) (AllReadyH.cons rfl (fun K hK => ?_) AllReadyH.nil)
    · go_simp
      refine (HPr.out _ HW3d.out).mono ?_
      rintro e V2 ⟨pv, rfl, hpi⟩
      have HI2 : Hid (PI W3.drew pv L V2) := hpi
      have HK2 : Hid (Kept No W0 V2) := HW3d.out.trans hpi.kp
      obtain ⟨so, sc, rfl⟩ := hpi.row.form
      generalize L.length = ll at HI2 ⊢
      have hz := HI2.out.kp.size
      clear hpi
      refine hK.out _ _ HK2.out (fun _ => ?_)
      clear hK
      try simp only [Act.put, List.setIfInBounds_toArray, List.set_cons_zero, List.set_cons_succ, List.getElem_toArray, List.getElem_cons_zero, List.getElem_cons_succ]
      refine wpAnyH_ready (rs := [5]) (by kernel_rfl) (by simp) ?_
      refine AllReadyH.cons rfl (fun K hK => ?_) AllReadyH.nil
      go_simp
      refine hK.out _ _ (HK2.out.alloc _) (fun _ => ?_)
      clear hK
      try simp only [Act.put, List.setIfInBounds_toArray, List.set_cons_zero, List.set_cons_succ, List.getElem_toArray, List.getElem_cons_zero, List.getElem_cons_succ]
      refine wpAnyH_ready (rs := [6]) (by kernel_rfl) (by simp) ?_
      refine AllReadyH.cons rfl (fun K hK => ?_) AllReadyH.nil
      refine step_node rfl (.tmp 40) (.tmp 44) rfl W3.drew.heap.size (.slice so ll sc) L rfl (World.ownsRow.alloc HI2.out.row _) V2.heap.size ((k1, k2), (v1, v2)) rfl (heap_new1 V2 _) HLL.out (by simp at hz ⊢; omega) ?_
      intro v' W5 HR HG
      have HK5 : Hid (Kept No W0 W5) := HK2.out.trans' (((Kept.refl _ _).alloc _).grown HG.out (fun k hk => .inl hk) : Kept (fun k => (Value.slice so ll sc).ownBlock = some k) V2 W5) (fun i hi => .inr (Nat.le_trans HW3d.out.size (World.ownsRow.lt HI2.out.row i hi).1))
      have HE5 : Hid (EntsIs W5 v' (L ++ [((k1, k2), (v1, v2))])) := HR.out.ents
      refine hK.out _ _ HK5.out (fun _ => ?_)
      clear hK HR HG
      try simp only [Act.put, List.setIfInBounds_toArray, List.set_cons_zero, List.set_cons_succ, List.getElem_toArray, List.getElem_cons_zero, List.getElem_cons_succ]
      refine wpAnyH_ready (rs := [7]) (by kernel_rfl) (by simp) ?_
      refine AllReadyH.cons rfl (fun K hK => ?_) AllReadyH.nil
      go_simp
      refine (HSz.out v' W5 HE5.out).mono ?_
      rintro e W6 ⟨rfl, rfl⟩
      refine hK.out _ _ HK5.out (fun _ => ?_)
      clear hK HE5
      try simp only [Act.put, List.setIfInBounds_toArray, List.set_cons_zero, List.set_cons_succ, List.getElem_toArray, List.getElem_cons_zero, List.getElem_cons_succ]
      refine wpAnyH_take (i := 8) (v := .tuple #[.int .i64 (za : Int), .int .i64 (zn : Int)]) rfl (by kernel_rfl) (by kernel_rfl) (by kernel_rfl) (fun _ _ _ h => h) (Or.inl ⟨by kernel_rfl, ?_⟩) HK5.out ?_
      · intro w' _; simp [go_sem]
      try simp only [Act.put, List.setIfInBounds_toArray, List.set_cons_zero, List.set_cons_succ, List.getElem_toArray, List.getElem_cons_zero, List.getElem_cons_succ]
      refine wpAnyH_take (i := 9) (v := .int .i64 (za : Int)) rfl (by kernel_rfl) (by kernel_rfl) (by kernel_rfl) (fun _ _ _ h => h) (Or.inl ⟨by kernel_rfl, ?_⟩) HK5.out ?_
      · intro w' _; simp [go_sem]
      try simp only [Act.put, List.setIfInBounds_toArray, List.set_cons_zero, List.set_cons_succ, List.getElem_toArray, List.getElem_cons_zero, List.getElem_cons_succ]
      refine wpAnyH_take (i := 10) (v := .int .i64 (zn : Int)) rfl (by kernel_rfl) (by kernel_rfl) (by kernel_rfl) (fun _ _ _ h => h) (Or.inl ⟨by kernel_rfl, ?_⟩) HK5.out ?_
      · intro w' _; simp [go_sem]
      try simp only [Act.put, List.setIfInBounds_toArray, List.set_cons_zero, List.set_cons_succ, List.getElem_toArray, List.getElem_cons_zero, List.getElem_cons_succ]
      refine wpAnyH_take (i := 11) (v := .int .i64 (za : Int)) rfl (by kernel_rfl) (by kernel_rfl) (by kernel_rfl) (fun _ _ _ h => h) (Or.inl ⟨by kernel_rfl, ?_⟩) HK5.out ?_
      · intro w' _; simp [go_sem]
      try simp only [Act.put, List.setIfInBounds_toArray, List.set_cons_zero, List.set_cons_succ, List.getElem_toArray, List.getElem_cons_zero, List.getElem_cons_succ]
      refine wpAnyH_take (i := 12) (v := .int .i64 (zn : Int)) rfl (by kernel_rfl) (by kernel_rfl) (by kernel_rfl) (fun _ _ _ h => h) (Or.inl ⟨by kernel_rfl, ?_⟩) HK5.out ?_
      · intro w' _; simp [go_sem]
      try simp only [Act.put, List.setIfInBounds_toArray, List.set_cons_zero, List.set_cons_succ, List.getElem_toArray, List.getElem_cons_zero, List.getElem_cons_succ]
      refine wpAnyH_done (by kernel_rfl) ?_ _
      go_wp2
      go_ret3
      exact ⟨.inr ⟨HP.out, rfl⟩, HK0.out.trans HK5.out⟩
    · go_simp
      refine hK.out _ _ (HW3d.out.alloc _) (fun _ => ?_)
      clear hK
      try simp only [Act.put, List.setIfInBounds_toArray, List.set_cons_zero, List.set_cons_succ, List.getElem_toArray, List.getElem_cons_zero, List.getElem_cons_succ]
      refine wpAnyH_ready (rs := [1]) (by kernel_rfl) (by simp) ?_
      refine AllReadyH.cons rfl (fun K hK => ?_) AllReadyH.nil
      go_simp
      refine (HPr.out _ (HW3d.out.alloc _)).mono ?_
      rintro e V2 ⟨pv, rfl, hpi⟩
      have HI2 : Hid (PI (W3.drew.alloc (.cells #[.int .i64 k1, .int .i64 k2, .int .i64 v1, .int .i64 v2] 78)) pv L V2) := hpi
      have HNb : Hid (V2.heap[W3.drew.heap.size]? = some (.cells #[.int .i64 k1, .int .i64 k2, .int .i64 v1, .int .i64 v2] 78 (0, 0))) := hpi.kp.heap (heap_new1 W3.drew _) id
      have HK2 : Hid (Kept No W0 V2) := (HW3d.out.alloc _).trans hpi.kp
      obtain ⟨so, sc, rfl⟩ := hpi.row.form
      generalize L.length = ll at HI2 ⊢
      have hz := HI2.out.kp.size
      clear hpi
      refine hK.out _ _ HK2.out (fun _ => ?_)
      clear hK
      try simp only [Act.put, List.setIfInBounds_toArray, List.set_cons_zero, List.set_cons_succ, List.getElem_toArray, List.getElem_cons_zero, List.getElem_cons_succ]
      refine wpAnyH_ready (rs := [6]) (by kernel_rfl) (by simp) ?_
      refine AllReadyH.cons rfl (fun K hK => ?_) AllReadyH.nil
      refine step_node rfl (.tmp 40) (.tmp 44) rfl (W3.drew.alloc (.cells #[.int .i64 k1, .int .i64 k2, .int .i64 v1, .int .i64 v2] 78)).heap.size (.slice so ll sc) L rfl HI2.out.row W3.drew.heap.size ((k1, k2), (v1, v2)) rfl HNb.out HLL.out hz ?_
      intro v' W5 HR HG
      have HK5 : Hid (Kept No W0 W5) := HK2.out.trans' ((Kept.refl _ _).grown HG.out (fun k hk => .inl hk) : Kept (fun k => (Value.slice so ll sc).ownBlock = some k) V2 W5) (fun i hi => .inr (Nat.le_trans (HW3d.out.alloc _).size (World.ownsRow.lt HI2.out.row i hi).1))
      have HE5 : Hid (EntsIs W5 v' (L ++ [((k1, k2), (v1, v2))])) := HR.out.ents
      refine hK.out _ _ HK5.out (fun _ => ?_)
      clear hK HR HG
      try simp only [Act.put, List.setIfInBounds_toArray, List.set_cons_zero, List.set_cons_succ, List.getElem_toArray, List.getElem_cons_zero, List.getElem_cons_succ]
      refine wpAnyH_ready (rs := [7]) (by kernel_rfl) (by simp) ?_
      refine AllReadyH.cons rfl (fun K hK => ?_) AllReadyH.nil
      go_simp
      refine (HSz.out v' W5 HE5.out).mono ?_
      rintro e W6 ⟨rfl, rfl⟩
      refine hK.out _ _ HK5.out (fun _ => ?_)
      clear hK HE5
      try simp only [Act.put, List.setIfInBounds_toArray, List.set_cons_zero, List.set_cons_succ, List.getElem_toArray, List.getElem_cons_zero, List.getElem_cons_succ]
      refine wpAnyH_take (i := 8) (v := .tuple #[.int .i64 (za : Int), .int .i64 (zn : Int)]) rfl (by kernel_rfl) (by kernel_rfl) (by kernel_rfl) (fun _ _ _ h => h) (Or.inl ⟨by kernel_rfl, ?_⟩) HK5.out ?_
      · intro w' _; simp [go_sem]
      try simp only [Act.put, List.setIfInBounds_toArray, List.set_cons_zero, List.set_cons_succ, List.getElem_toArray, List.getElem_cons_zero, List.getElem_cons_succ]
      refine wpAnyH_take (i := 9) (v := .int .i64 (za : Int)) rfl (by kernel_rfl) (by kernel_rfl) (by kernel_rfl) (fun _ _ _ h => h) (Or.inl ⟨by kernel_rfl, ?_⟩) HK5.out ?_
      · intro w' _; simp [go_sem]
      try simp only [Act.put, List.setIfInBounds_toArray, List.set_cons_zero, List.set_cons_succ, List.getElem_toArray, List.getElem_cons_zero, List.getElem_cons_succ]
      refine wpAnyH_take (i := 10) (v := .int .i64 (zn : Int)) rfl (by kernel_rfl) (by kernel_rfl) (by kernel_rfl) (fun _ _ _ h => h) (Or.inl ⟨by kernel_rfl, ?_⟩) HK5.out ?_
      · intro w' _; simp [go_sem]
      try simp only [Act.put, List.setIfInBounds_toArray, List.set_cons_zero, List.set_cons_succ, List.getElem_toArray, List.getElem_cons_zero, List.getElem_cons_succ]
      refine wpAnyH_take (i := 11) (v := .int .i64 (za : Int)) rfl (by kernel_rfl) (by kernel_rfl) (by kernel_rfl) (fun _ _ _ h => h) (Or.inl ⟨by kernel_rfl, ?_⟩) HK5.out ?_
      · intro w' _; simp [go_sem]
      try simp only [Act.put, List.setIfInBounds_toArray, List.set_cons_zero, List.set_cons_succ, List.getElem_toArray, List.getElem_cons_zero, List.getElem_cons_succ]
      refine wpAnyH_take (i := 12) (v := .int .i64 (zn : Int)) rfl (by kernel_rfl) (by kernel_rfl) (by kernel_rfl) (fun _ _ _ h => h) (Or.inl ⟨by kernel_rfl, ?_⟩) HK5.out ?_
      · intro w' _; simp [go_sem]
      try simp only [Act.put, List.setIfInBounds_toArray, List.set_cons_zero, List.set_cons_succ, List.getElem_toArray, List.getElem_cons_zero, List.getElem_cons_succ]
      refine wpAnyH_done (by kernel_rfl) ?_ _
      go_wp2
      go_ret3
      exact ⟨.inr ⟨HP.out, rfl⟩, HK0.out.trans HK5.out⟩
end Go.Proofs.Ythefmfjlinpepaa

/- The document's Renew. -/
namespace Go.Proofs.Ythefmfjlinpepaa
open Go.RowKit Go.Shelf
set_option linter.unusedSimpArgs false
set_option linter.unusedVariables false
attribute [local go_sem] Oper.semAt_some

/-- New slots. -/
def mkA (n : Nat) : Obj := .cells (madeCells #[.int .i64 0, .int .i64 0] (n * 2)) 33
def mkL (n : Nat) : Obj := .cells (madeCells #[.int .i64 0, .int .i64 0, .int .i64 0, .int .i64 0] (n * 4)) 78
theorem made2 (n i : Nat) (h : i < n * 2) : (madeCells #[Value.int .i64 0, .int .i64 0] (n * 2))[i]? = some (.int .i64 0) := by
  have hm : i % 2 < 2 := Nat.mod_lt _ (by decide)
  simp only [madeCells, Array.getElem?_map, Array.getElem?_range, h, if_true, Option.map_some]
  obtain h0 | h0 : i % 2 = 0 ∨ i % 2 = 1 := by omega
  all_goals simp [h0]
theorem made4 (n i : Nat) (h : i < n * 4) : (madeCells #[Value.int .i64 0, .int .i64 0, .int .i64 0, .int .i64 0] (n * 4))[i]? = some (.int .i64 0) := by
  have hm : i % 4 < 4 := Nat.mod_lt _ (by decide)
  simp only [madeCells, Array.getElem?_map, Array.getElem?_range, h, if_true, Option.map_some]
  obtain h0 | h0 | h0 | h0 : i % 4 = 0 ∨ i % 4 = 1 ∨ i % 4 = 2 ∨ i % 4 = 3 := by omega
  all_goals simp [h0]
theorem run_mk26 (n : Nat) (hn : n ≤ 100000) (w : World) : (Instr.makeSlice 26 (.int .i64 (n : Int)) (.int .i64 (n : Int))).run Try.prog w = .ok (.slice (some ⟨w.heap.size, 0, none⟩) n n) (w.alloc (mkA n)) := by
  obtain ⟨i0, hi, hz0, hz1, hz2⟩ := info_parts info33
  rw [run_make w 26 33 i0 _ Try.underlying26 hi hz0 .i64 .i64 (n : Int) (n : Int) (by omega) (Int.le_refl _) (by rw [hz2]; omega) (by omega)]
  rw [hz1, Int.toNat_natCast]; rfl
theorem run_mk27 (n : Nat) (hn : n ≤ 100000) (w : World) : (Instr.makeSlice 27 (.int .i64 (n : Int)) (.int .i64 (n : Int))).run Try.prog w = .ok (.slice (some ⟨w.heap.size, 0, none⟩) n n) (w.alloc (mkL n)) := by
  obtain ⟨i0, hi, hz0, hz1, hz2⟩ := info_parts info78
  rw [run_make w 27 78 i0 _ Try.underlying27 hi hz0 .i64 .i64 (n : Int) (n : Int) (by omega) (Int.le_refl _) (by rw [hz2]; omega) (by omega)]
  rw [hz1, Int.toNat_natCast]; rfl

/-- While the table is renewed. -/
structure NS (w : World) (Q : Nat) (most : Int) (a n : Nat) (sl : Sl) (v : Value) (L : List Ent) (Z : Nat) (W : World) : Prop where
  rt : Rt W Q most a n sl
  row : NRow W (w.heap.size + 1) v L
  rlt : ∀ k, v.ownBlock = some k → k < Z
  own : OwnR w Q W
  fpb : ∀ k, RF W Q k → k = Q ∨ Z ≤ k
  box : W.heap[w.heap.size]? = some (.cells #[.bool false, .slice none 0 0] 70 (0, 0))
  zl : w.heap.size < Z ∧ Z ≤ W.heap.size
theorem RF.no {w w' : World} {Q k : Nat} (hk : Kept No w w') (hQ : Q < w.heap.size) (h : RF w' Q k) : RF w Q k := by
  rcases h with rfl | ⟨vA, vL, m, e, h2⟩
  · exact .inl rfl
  · rw [hk.block Q hQ id] at e; exact .inr ⟨_, _, _, e, h2⟩
theorem NS.no {w : World} {Q : Nat} {most : Int} {a n : Nat} {sl : Sl} {v : Value} {L : List Ent} {Z : Nat} {W W' : World} (h : NS w Q most a n sl v L Z W) (hk : Kept No W W') : NS w Q most a n sl v L Z W' :=
  ⟨h.rt.no hk, h.row.no hk, h.rlt, h.own.trans (OwnR.of_no hk h.rt.lt), fun k hq => h.fpb k (hq.no hk h.rt.lt), hk.heap h.box id, h.zl.1, Nat.le_trans h.zl.2 hk.size⟩
theorem NS.put {w : World} {Q : Nat} {most : Int} {a n : Nat} {sl sl' : Sl} {v : Value} {L : List Ent} {Z : Nat} {W W' : World} (h : NS w Q most a n sl v L Z W) (hQ : Q < w.heap.size) (hr : Rt W' Q most a n sl') (ho : OwnR W Q W') : NS w Q most a n sl' v L Z W' := by
  refine ⟨hr, h.row.turn (fun k hk => ho.kp.block k (World.ownsRow.lt h.row k hk).2 (fun hq => ?_)), h.rlt, h.own.trans ho, fun k hq => ?_, ho.kp.heap h.box (fun hq => ?_), h.zl.1, Nat.le_trans h.zl.2 ho.kp.size⟩
  · have h1 := (World.ownsRow.lt h.row k hk).1
    have h2 := h.rlt k hk
    rcases h.fpb k hq with e | e <;> omega
  · rcases ho.fp k hq with e | e
    · exact h.fpb k e
    · have := h.zl.2; exact .inr (by omega)
  · have := h.zl.1
    rcases h.fpb _ hq with e | e <;> omega

set_option maxRecDepth 20000 in
set_option maxHeartbeats 4000000 in
theorem RRenew_any {w : World} {Q : Nat} {most : Int} {a n : Nat} {sl : Sl} (h : Rt w Q most a n sl) (hv : Nv a n sl) (hs : I64s sl) (hl : (ents a n sl 0).length ≤ 200) (a' n' : Nat) (ha : a' ≤ 100000) (hn : n' ≤ 100000) :
    Calls Try.prog 63 #[RP Q, HV, .int .i64 (a' : Int), .int .i64 (n' : Int)] w fun e w' => e = .returned (.tuple #[]) ∧ Rt w' Q most a' n' (putAll a' n' (fun _ => (0, 0)) (ents a n sl 0)) ∧ OwnR w Q w' := by
  have hQ := h.lt
  have HI6 : Hid (∀ e ∈ ents a n sl 0, I64 e.1.2 ∧ I64 e.2.2) := ents_i64 h.bd.1 h.bd.2 hs 0 (by omega)
  obtain ⟨W0, HW0⟩ : ∃ W0, Hid (W0 = w.alloc (.cells #[.bool false, .slice none 0 0] 70)) := ⟨_, show _ = _ from rfl⟩
  have HK0 : Hid (Kept No w W0) := by rw [HW0.out]; exact (Kept.refl _ _).alloc _
  have HB0 : Hid (W0.heap[w.heap.size]? = some (.cells #[.bool false, .slice none 0 0] 70 (0, 0))) := by rw [HW0.out]; exact heap_new1 w _
  have HZ0 : Hid (W0.heap.size = w.heap.size + 1) := by show _ = _; rw [HW0.out]; simp
  have HPr : Hid (Calls Try.prog 80 #[RP Q] W0 fun e w' => ∃ v, e = .returned v ∧ PI W0 v (ents a n sl 0) w') := RPairs_any (h.no HK0.out) hv
  have HT : Hid (Rt w Q most a n sl) := h
  have hmA : ∀ w : World, (Instr.makeSlice 26 (.int .i64 (a' : Int)) (.int .i64 (a' : Int))).run Try.prog w = .ok (.slice (some ⟨w.heap.size, 0, none⟩) a' a') (w.alloc (mkA a')) := run_mk26 a' ha
  have hmL : ∀ w : World, (Instr.makeSlice 27 (.int .i64 (n' : Int)) (.int .i64 (n' : Int))).run Try.prog w = .ok (.slice (some ⟨w.heap.size, 0, none⟩) n' n') (w.alloc (mkL n')) := run_mk27 n' hn
  clear h hv hs
  generalize ents a n sl 0 = L at *
  go_enter Try.func63, Try.ntmps63
  go_wp2_with (rw [← HW0.out])
  refine HPr.out.mono ?_
  rintro e W1 ⟨v, rfl, hpi⟩
  have HP : Hid (PI W0 v L W1) := hpi
  have HK1 : Hid (Kept No w W1) := HK0.out.trans hpi.kp
  obtain ⟨ao, lo, ca, cl, hd, _⟩ := (HT.out.no HK1.out).ex
  obtain ⟨so, sc, rfl⟩ := hpi.row.form
  have HD : Hid (W1.heap[Q]? = some (.cells #[.slice ao a ca, .slice lo n cl, .int .i64 most] 29 (0, 0))) := hd
  clear hpi hd
  have HA2 : Hid ((W1.alloc (mkA a')).heap[Q]? = some (.cells #[.slice ao a ca, .slice lo n cl, .int .i64 most] 29 (0, 0))) := heap_old HD.out _
  have c0 : (W1.alloc (mkA a')).cell? ⟨Q, 0, none⟩ = some (.slice ao a ca) := by rw [cell_of HA2.out]; rfl
  have f0 : ∀ o, (W1.alloc (mkA a')).frozen? ⟨Q, o, none⟩ = false := frozen_of HA2.out
  obtain ⟨W2, HW2⟩ : ∃ W2, Hid (W2 = (W1.alloc (mkA a')).setCell ⟨Q, 0, none⟩ (.slice (some ⟨W1.heap.size, 0, none⟩) a' a')) := ⟨_, show _ = _ from rfl⟩
  have HD2 : Hid (W2.heap[Q]? = some (.cells #[.slice (some ⟨W1.heap.size, 0, none⟩) a' a', .slice lo n cl, .int .i64 most] 29 (0, 0))) := by rw [HW2.out]; exact hp_set_same HA2.out 0 _
  have HD3 : Hid ((W2.alloc (mkL n')).heap[Q]? = some (.cells #[.slice (some ⟨W1.heap.size, 0, none⟩) a' a', .slice lo n cl, .int .i64 most] 29 (0, 0))) := heap_old HD2.out _
  have c1 : (W2.alloc (mkL n')).cell? ⟨Q, 1, none⟩ = some (.slice lo n cl) := by rw [cell_of HD3.out]; rfl
  have f1 : ∀ o, (W2.alloc (mkL n')).frozen? ⟨Q, o, none⟩ = false := frozen_of HD3.out
  go_wp2_with (rw [← HW2.out])
  have HZ2 : Hid (W2.heap.size = W1.heap.size + 1) := by show _ = _; rw [HW2.out]; simp
  obtain ⟨W3, HW3⟩ : ∃ W3, Hid (W3 = (W2.alloc (mkL n')).setCell ⟨Q, 1, none⟩ (.slice (some ⟨W2.heap.size, 0, none⟩) n' n')) := ⟨_, show _ = _ from rfl⟩
  rw [← HW3.out]
  have HS0 : Hid (NS w Q most a' n' (fun _ => (0, 0)) (.slice so L.length sc) L W1.heap.size W3) := by
    have hk2 : Kept (fun k => k = Q) W1 W2 := by rw [HW2.out]; exact ((Kept.refl _ _).alloc _).set _ _ _ (.inl rfl)
    have hk : Kept (fun k => k = Q) W1 W3 := by rw [HW3.out]; exact (hk2.alloc _).set _ _ _ (.inl rfl)
    have hz1 := HK1.out.size
    have hz2 := HP.out.kp.size
    have hQ1 : Q < W1.heap.size := by omega
    have hdd : W3.heap[Q]? = some (.cells #[.slice (some ⟨W1.heap.size, 0, none⟩) a' a', .slice (some ⟨W2.heap.size, 0, none⟩) n' n', .int .i64 most] 29 (0, 0)) := by rw [HW3.out]; exact hp_set_same HD3.out 1 _
    have hA : W3.heap[W1.heap.size]? = some (mkA a') := by
      have h2 : W2.heap[W1.heap.size]? = some (mkA a') := by rw [HW2.out, Below.heap_setCell _ _ _ _ (by show W1.heap.size ≠ Q; omega)]; exact heap_new1 W1 _
      rw [HW3.out, Below.heap_setCell _ _ _ _ (by show W1.heap.size ≠ Q; omega)]; exact heap_old h2 _
    have hL : W3.heap[W2.heap.size]? = some (mkL n') := by
      rw [HW3.out, Below.heap_setCell _ _ _ _ (by show W2.heap.size ≠ Q; have := HZ2.out; omega)]; exact heap_new1 W2 _
    have hfp : ∀ k, RF W3 Q k → k = Q ∨ W1.heap.size ≤ k := by
      rintro k (e | ⟨vA, vL, m, e, h2⟩)
      · exact .inl e
      · rw [hdd] at e
        simp only [Option.some.injEq, Obj.cells.injEq, Array.mk.injEq, List.cons.injEq] at e
        obtain ⟨⟨rfl, rfl, _⟩, _⟩ := e
        rcases h2 with h2 | h2
        · obtain ⟨_, x, ex, e⟩ := rowB_is h2
          cases ex
          exact .inr (Nat.le_of_eq e)
        · obtain ⟨_, x, ex, e⟩ := rowB_is h2
          cases ex
          have := HZ2.out
          have e' : W2.heap.size = k := e
          exact .inr (by omega)
    refine ⟨⟨⟨_, _, _, _, hdd, fun _ => ⟨_, rfl, _, hA, fun i hi => ⟨made2 _ _ (by omega), made2 _ _ (by omega)⟩⟩, fun _ => ⟨_, rfl, _, hL, fun i hi => ⟨⟨made4 _ _ (by omega), made4 _ _ (by omega)⟩, made4 _ _ (by omega), made4 _ _ (by omega)⟩⟩⟩, ha, hn⟩, ?_, fun k hk' => (World.ownsRow.lt HP.out.row k hk').2, ⟨?_, fun k hq => ?_⟩, hfp, ?_, ?_, hk.size⟩
    · have hrow := HP.out.row
      rw [HZ0.out] at hrow
      exact hrow.turn (fun k hk' => hk.block k (World.ownsRow.lt hrow k hk').2 (fun e => by have := (World.ownsRow.lt hrow k hk').1; omega))
    · exact HK1.out.no.trans' hk (fun i e => .inl (.inl e))
    · rcases hfp k hq with e | e
      · exact .inl (.inl e)
      · exact .inr (by omega)
    · exact hk.heap (HP.out.kp.heap HB0.out id) (by omega)
    · have := HZ0.out; omega
  clear HW3 HW2 HD3 HD2 HA2 HD c0 c1 f0 f1 hmA hmL HPr HT HB0 HW0
  generalize W1.heap.size = Z1 at HS0 HZ2 ⊢
  generalize W2.heap.size = Z2 at HZ2 ⊢
  clear HP HK1
  go_loopw [9] (fun i wr => ∃ j : Nat, j ≤ L.length ∧ i = .int .i64 j ∧ Hid (NS w Q most a' n' (putAll a' n' (fun _ => (0, 0)) (L.take j)) (.slice so L.length sc) L Z1 wr)) (fun i _ => L.length - (intOf i).toNat)
  case atStart => exact ⟨0, Nat.zero_le _, rfl, HS0⟩
  case round =>
    clear HS0
    obtain ⟨j, hj, rfl, HS⟩ := hrel
    by_cases hlt : j < L.length
    · obtain ⟨e, he⟩ : ∃ e, L[j]? = some e := ⟨L[j]'hlt, List.getElem?_eq_getElem _⟩
      have hI := HI6.out e (List.mem_of_getElem? he)
      have HN : Hid (putAll a' n' (fun _ => (0, 0)) (L.take (j + 1)) = (putR a' n' (putAll a' n' (fun _ => (0, 0)) (L.take j)) e.1 e.2).2) := by
        show _ = _
        rw [List.take_add_one, he]; exact putAll_snoc _ _ _ _ _
      rcases HS.out.row.ents with ⟨h1, h2⟩ | ⟨b, c, h1, hc⟩
      · rw [h2] at hlt; exact absurd hlt (by simp)
      injection h1 with e1 e2 e3
      subst e1
      clear e2 e3
      obtain ⟨⟨x1, x2⟩, y1, y2⟩ := e
      simp only at hI
      obtain ⟨V, hV⟩ : ∃ V, V = wr := ⟨_, rfl⟩
      rw [← hV] at HS hc ⊢
      clear hV
      have HCc : Hid (∀ W, Kept No V W → W.cell? ⟨b, j * 4, none⟩ = some (.int .i64 x1) ∧ W.cell? ⟨b, j * 4 + 1, none⟩ = some (.int .i64 x2) ∧ W.cell? ⟨b, j * 4 + 2, none⟩ = some (.int .i64 y1) ∧ W.cell? ⟨b, j * 4 + 3, none⟩ = some (.int .i64 y2)) := by
        obtain ⟨g0, g1, g2, g3⟩ := hc j _ he
        exact fun W hW => ⟨hW.cell g0, hW.cell g1, hW.cell g2, hW.cell g3⟩
      have HBx : Hid (∀ W, Kept No V W → W.cell? ⟨w.heap.size, 0, none⟩ = some (.bool false) ∧ W.cell? ⟨w.heap.size, 1, none⟩ = some (.slice none 0 0)) := by
        intro W hW
        have e := hW.heap HS.out.box id
        exact ⟨by rw [cell_of e]; rfl, by rw [cell_of e]; rfl⟩
      have HPut : Hid (∀ W, Kept No V W → Calls Try.prog 64 #[RP Q, HV, AV x1 x2, AV y1 y2] W fun e w' => (∃ bb, e = .returned (.bool bb)) ∧ NS w Q most a' n' (putAll a' n' (fun _ => (0, 0)) (L.take (j + 1))) (.slice (some ⟨b, 0, none⟩) L.length sc) L Z1 w') := by
        intro W hW
        have hS' := HS.out.no hW
        refine (RPut_any hS'.rt x1 x2 y1 y2 hI.1).mono ?_
        rintro e w' ⟨rfl, hr, ho⟩
        refine ⟨⟨_, rfl⟩, ?_⟩
        rw [HN.out]
        exact hS'.put hQ hr ho
      have e0 : (0 : Int) ≤ (j : Int) := by omega
      have e1 : (j : Int) < (L.length : Int) := by omega
      clear hc he HN hI HI6
      go_wp2_with fail
      refine region_quiet_tailC (C := fun W => Kept No V W) 12 (by kernel_rfl) (by kernel_rfl) ((Kept.refl _ _).drew) ?_
      simp only [List.take_succ_cons, List.take_zero, List.drop_succ_cons, List.drop_zero]
      refine q_op (RP Q) (by kernel_rfl) (fun W hW => by simp [go_sem]) ?_
      try simp only [Act.put, List.setIfInBounds_toArray, List.set_cons_zero, List.set_cons_succ]
      refine q_op (HV) (by kernel_rfl) (fun W hW => by obtain ⟨r0, r1⟩ := HBx.out W hW; simp [go_sem, r0, r1]) ?_
      try simp only [Act.put, List.setIfInBounds_toArray, List.set_cons_zero, List.set_cons_succ]
      refine q_op (.slice (some ⟨b, 0, none⟩) L.length sc) (by kernel_rfl) (fun W hW => by simp [go_sem]) ?_
      try simp only [Act.put, List.setIfInBounds_toArray, List.set_cons_zero, List.set_cons_succ]
      refine q_op (.int .i64 (j : Int)) (by kernel_rfl) (fun W hW => by simp [go_sem]) ?_
      try simp only [Act.put, List.setIfInBounds_toArray, List.set_cons_zero, List.set_cons_succ]
      refine q_op (.pointer (some ⟨b, j * 4, none⟩)) (by kernel_rfl) (fun W hW => by simp [go_sem, e0, e1]) ?_
      try simp only [Act.put, List.setIfInBounds_toArray, List.set_cons_zero, List.set_cons_succ]
      refine q_op (.pointer (some ⟨b, j * 4, none⟩)) (by kernel_rfl) (fun W hW => by simp [go_sem]) ?_
      try simp only [Act.put, List.setIfInBounds_toArray, List.set_cons_zero, List.set_cons_succ]
      refine q_op (AV x1 x2) (by kernel_rfl) (fun W hW => by obtain ⟨r0, r1, r2, r3⟩ := HCc.out W hW; simp [go_sem, r0, r1]) ?_
      try simp only [Act.put, List.setIfInBounds_toArray, List.set_cons_zero, List.set_cons_succ]
      refine q_op (.slice (some ⟨b, 0, none⟩) L.length sc) (by kernel_rfl) (fun W hW => by simp [go_sem]) ?_
      try simp only [Act.put, List.setIfInBounds_toArray, List.set_cons_zero, List.set_cons_succ]
      refine q_op (.int .i64 (j : Int)) (by kernel_rfl) (fun W hW => by simp [go_sem]) ?_
      try simp only [Act.put, List.setIfInBounds_toArray, List.set_cons_zero, List.set_cons_succ]
      refine q_op (.pointer (some ⟨b, j * 4, none⟩)) (by kernel_rfl) (fun W hW => by simp [go_sem, e0, e1]) ?_
      try simp only [Act.put, List.setIfInBounds_toArray, List.set_cons_zero, List.set_cons_succ]
      refine q_op (.pointer (some ⟨b, j * 4 + 2, none⟩)) (by kernel_rfl) (fun W hW => by simp [go_sem]) ?_
      try simp only [Act.put, List.setIfInBounds_toArray, List.set_cons_zero, List.set_cons_succ]
      refine q_op (AV y1 y2) (by kernel_rfl) (fun W hW => by obtain ⟨r0, r1, r2, r3⟩ := HCc.out W hW; simp [go_sem, r2, r3]) ?_
      try simp only [Act.put, List.setIfInBounds_toArray, List.set_cons_zero, List.set_cons_succ]
      refine wpQuiet_nil ?_
      intro W8 hk8
      have HP8 := HPut.out W8 hk8
      clear HCc HBx HPut
      go_wp2_with fail
      refine HP8.mono ?_
      rintro e W9 ⟨⟨bb, rfl⟩, hS9⟩
      have HS9 : Hid (NS w Q most a' n' (putAll a' n' (fun _ => (0, 0)) (L.take (j + 1))) (.slice (some ⟨b, 0, none⟩) L.length sc) L Z1 W9) := hS9
      clear hS9 HP8 hk8
      go_wp2
      go_roundw
      case rel => exact ⟨j + 1, by omega, by go_num, HS9⟩
      case measure => simp [intOf]; omega
    · obtain rfl : j = L.length := by omega
      have HE : Hid (Rt wr Q most a' n' (putAll a' n' (fun _ => (0, 0)) L) ∧ OwnR w Q wr) := by
        have h1 := HS.out.rt
        rw [List.take_length] at h1
        exact ⟨h1, HS.out.own⟩
      clear HS
      go_wp2
      exact bodyPost_end (results_none rfl _ _ _) rfl ⟨rfl, HE.out.1, HE.out.2⟩
end Go.Proofs.Ythefmfjlinpepaa

/- The document's Set. -/
namespace Go.Proofs.Ythefmfjlinpepaa
open Go.RowKit Go.Shelf
set_option linter.unusedSimpArgs false
set_option linter.unusedVariables false
attribute [local go_sem] Oper.semAt_some

theorem szA_le (L : List Ent) : szA L ≤ 8192 := (szS_le _ 13).2
theorem szN_le (L : List Ent) (h : L.length ≤ 256) : szN L ≤ 256 := (pw2_facts _ (by omega)).2.1

set_option maxRecDepth 20000 in
set_option maxHeartbeats 4000000 in
theorem RSet_any {w : World} {Q : Nat} {most : Int} {a n : Nat} {sl : Sl} (h : Rt w Q most a n sl) (hv : Nv a n sl) (hs : I64s sl) (hl : (ents a n sl 0).length ≤ 200) (k1 k2 v1 v2 : Int) (hk : I64 k2) (hv2 : I64 v2) {er : Int} {a' n' : Nat} {sl' : Sl} (hr : setR most a n sl (k1, k2) (v1, v2) = (er, a', n', sl')) :
    Calls Try.prog 35 #[RP Q, HV, AV k1 k2, AV v1 v2] w fun e w' => e = .returned (.int .i64 er) ∧ Rt w' Q most a' n' sl' ∧ OwnR w Q w' := by
  have hQ := h.lt
  have HT : Hid (Rt w Q most a n sl) := h
  obtain ⟨W0, HW0⟩ : ∃ W0, Hid (W0 = ((w.alloc (.cells #[.bool false, .slice none 0 0] 70)).alloc (.cells #[.int .i64 k1, .int .i64 k2] 33)).alloc (.cells #[.int .i64 v1, .int .i64 v2] 33)) := ⟨_, show _ = _ from rfl⟩
  have HK0 : Hid (Kept No w W0) := by rw [HW0.out]; exact (((Kept.refl _ _).alloc _).alloc _).alloc _
  have HZ0 : Hid (W0.heap.size = w.heap.size + 3) := by show _ = _; rw [HW0.out]; simp
  have HBb : Hid (W0.heap[w.heap.size]? = some (.cells #[.bool false, .slice none 0 0] 70 (0, 0)) ∧ W0.heap[w.heap.size + 1]? = some (.cells #[.int .i64 k1, .int .i64 k2] 33 (0, 0)) ∧ W0.heap[w.heap.size + 1 + 1]? = some (.cells #[.int .i64 v1, .int .i64 v2] 33 (0, 0))) := by
    refine ⟨?_, ?_, ?_⟩
    · rw [HW0.out]; exact heap_old (heap_old (heap_new1 w _) _) _
    · rw [HW0.out]; have := heap_new1 (w.alloc (.cells #[.bool false, .slice none 0 0] 70)) (.cells #[.int .i64 k1, .int .i64 k2] 33); simp only [World.size_alloc] at this; exact heap_old this _
    · rw [HW0.out]; have := heap_new1 ((w.alloc (.cells #[.bool false, .slice none 0 0] 70)).alloc (.cells #[.int .i64 k1, .int .i64 k2] 33)) (.cells #[.int .i64 v1, .int .i64 v2] 33); simp only [World.size_alloc] at this; exact this
  have q2 : W0.cell? ⟨w.heap.size + 1, 0, none⟩ = some (.int .i64 k1) := by rw [cell_of HBb.out.2.1]; rfl
  have q3 : W0.cell? ⟨w.heap.size + 1, 1, none⟩ = some (.int .i64 k2) := by rw [cell_of HBb.out.2.1]; rfl
  obtain ⟨r, HRk⟩ : ∃ r, Hid (rkV k1 k2 = r) := ⟨_, show _ = _ from rfl⟩
  have HRK : Hid (Calls Try.prog 17 #[AV k1 k2] W0 fun e w' => e = .returned (.tuple #[iV r, .bool (keyB k1 k2)]) ∧ Below W0.heap.size W0 w') := by rw [← HRk.out]; exact RK_any k1 k2 W0
  obtain ⟨r1, r2⟩ := r
  have HNd : Hid (∀ W, Kept No w W → ∀ p1 p2, Calls Try.prog 62 #[RP Q, HV, AV p1 p2, AV v1 v2] W fun e w' => (((putR a n sl (p1, p2) (v1, v2)).1 = true ∧ e = .returned (.tuple #[.int .i64 0, .int .i64 0, .bool false])) ∨ ((putR a n sl (p1, p2) (v1, v2)).1 = false ∧ e = .returned (.tuple #[.int .i64 (szA (renL a n sl (p1, p2)) : Nat), .int .i64 (szN (renL a n sl (p1, p2)) : Nat), .bool true]))) ∧ Kept No W w') := fun W hW p1 p2 => RNeed_any (h.no hW) hv hl p1 p2 v1 v2
  have HRn : Hid (∀ W, Kept No w W → ∀ (a' n' : Nat), a' ≤ 100000 → n' ≤ 100000 → Calls Try.prog 63 #[RP Q, HV, .int .i64 (a' : Int), .int .i64 (n' : Int)] W fun e w' => e = .returned (.tuple #[]) ∧ Rt w' Q most a' n' (putAll a' n' (fun _ => (0, 0)) (ents a n sl 0)) ∧ OwnR W Q w') := fun W hW a' n' h1 h2 => RRenew_any (h.no hW) hv hs hl a' n' h1 h2
  have HR : Hid (setR most a n sl (k1, k2) (v1, v2) = (er, a', n', sl')) := hr
  have HLl : Hid ((ents a n sl 0).length ≤ 200) := hl
  have HIr : Hid (keyB k1 k2 = true → I64 r2) := by
    intro hb
    have e := HRk.out
    unfold rkV at e
    rw [if_pos hb] at e
    have := ky_i64 k1 k2 hk
    unfold kyP at e
    rw [← (Prod.mk.inj e).2]; exact this
  have HIk : Hid (keyB k1 k2 = true → kyP (k1, k2) = (r1, r2)) := by
    intro hb
    have e := HRk.out
    unfold rkV at e
    rw [if_pos hb] at e; exact e
  clear h hv hs hl hr hk hv2
  go_enter Try.func35, Try.ntmps35
  go_wp2_with (rw [← HW0.out])
  refine HRK.out.mono ?_
  rintro e W1 ⟨rfl, hk1⟩
  have HK01 : Hid (Kept No W0 W1) := Kept.of_below hk1
  clear hk1 HRK q2 q3
  obtain ⟨W2, HW2⟩ : ∃ W2, Hid (W2 = W1.alloc (.cells #[.int .i64 r1, .int .i64 r2] 33)) := ⟨_, show _ = _ from rfl⟩
  have HK2 : Hid (Kept No W1 W2) := by rw [HW2.out]; exact (Kept.refl _ _).alloc _
  have HB2 : Hid (W2.heap[W1.heap.size]? = some (.cells #[.int .i64 r1, .int .i64 r2] 33 (0, 0))) := by rw [HW2.out]; exact heap_new1 W1 _
  have HKw2 : Hid (Kept No w W2) := (HK0.out.trans HK01.out).trans HK2.out
  have HKw02 : Hid (Kept No W0 W2) := HK01.out.trans HK2.out
  have hz1 : w.heap.size + 3 ≤ W1.heap.size := by rw [← HZ0.out]; exact HK01.out.size
  have HQ : Hid (∀ W : World, (∀ (k : Nat) (o : Obj), w.heap.size ≤ k → W2.heap[k]? = some o → W.heap[k]? = some o) → (W.cell? ⟨w.heap.size, 0, none⟩ = some (.bool false) ∧ W.cell? ⟨w.heap.size, 1, none⟩ = some (.slice none 0 0)) ∧ (W.cell? ⟨w.heap.size + 1 + 1, 0, none⟩ = some (.int .i64 v1) ∧ W.cell? ⟨w.heap.size + 1 + 1, 1, none⟩ = some (.int .i64 v2)) ∧ W.cell? ⟨W1.heap.size, 0, none⟩ = some (.int .i64 r1) ∧ W.cell? ⟨W1.heap.size, 1, none⟩ = some (.int .i64 r2)) := by
    intro W hW
    have d0 := hW _ _ (Nat.le_refl _) (HKw02.out.heap HBb.out.1 id)
    have d1 := hW _ _ (by omega) (HKw02.out.heap HBb.out.2.2 id)
    have d2 := hW _ _ (by omega) HB2.out
    exact ⟨⟨by rw [cell_of d0]; rfl, by rw [cell_of d0]; rfl⟩, ⟨by rw [cell_of d1]; rfl, by rw [cell_of d1]; rfl⟩, by rw [cell_of d2]; rfl, by rw [cell_of d2]; rfl⟩
  obtain ⟨⟨q0, q1⟩, ⟨q4, q5⟩, q6, q7⟩ := HQ.out W2 (fun _ _ _ h => h)
  have HE2 : Hid (∀ a', a' = a → ∀ n', n' = n → ∀ sl', sl' = sl → Rt W2 Q most a' n' sl' ∧ OwnR w Q W2) := by
    rintro _ rfl _ rfl _ rfl
    exact ⟨HT.out.no HKw2.out, OwnR.of_no HKw2.out hQ⟩
  cases hb : keyB k1 k2
  · have HX : Hid (er = 13 ∧ a' = a ∧ n' = n ∧ sl' = sl) := by
      have e := HR.out
      unfold setR at e
      rw [hb] at e
      simp at e
      exact ⟨e.1.symm, e.2.1.symm, e.2.2.1.symm, e.2.2.2.symm⟩
    clear HR
    go_wp2_with (rw [← HW2.out])
    go_ret
    exact ⟨by rw [HX.out.1]; rfl, HE2.out _ HX.out.2.1 _ HX.out.2.2.1 _ HX.out.2.2.2⟩
  · by_cases h11 : v1 = 11
    · have HX : Hid (er = 13 ∧ a' = a ∧ n' = n ∧ sl' = sl) := by
        have e := HR.out
        unfold setR at e
        rw [hb] at e
        simp [h11] at e
        exact ⟨e.1.symm, e.2.1.symm, e.2.2.1.symm, e.2.2.2.symm⟩
      have h11' : (v1 == 11) = true := by simpa using h11
      clear HR
      go_wp2_with (rw [← HW2.out])
      go_ret
      exact ⟨by rw [HX.out.1]; rfl, HE2.out _ HX.out.2.1 _ HX.out.2.2.1 _ HX.out.2.2.2⟩
    · have h11' : (v1 == 11) = false := by simpa using h11
      have HP := HIk.out hb
      have HI2 := HIr.out hb
      have HR' : Hid ((if (putR a n sl (r1, r2) (v1, v2)).1 = true then (0, a, n, (putR a n sl (r1, r2) (v1, v2)).2)
          else if most < (szA (renL a n sl (r1, r2)) : Int) + 2 * (szN (renL a n sl (r1, r2)) : Int) then (8, a, n, sl)
          else (0, szA (renL a n sl (r1, r2)), szN (renL a n sl (r1, r2)), (putR (szA (renL a n sl (r1, r2))) (szN (renL a n sl (r1, r2))) (putAll (szA (renL a n sl (r1, r2))) (szN (renL a n sl (r1, r2))) (fun _ => (0, 0)) (ents a n sl 0)) (r1, r2) (v1, v2)).2)) = (er, a', n', sl')) := by
        have e := HR.out
        unfold setR at e
        rw [HP, renew_room a n sl (r1, r2) (v1, v2) HLl.out, hb, h11'] at e
        exact e
      have HZa : Hid (szA (renL a n sl (r1, r2)) ≤ 8192 ∧ szN (renL a n sl (r1, r2)) ≤ 256) := ⟨szA_le _, szN_le _ (by unfold renL; simp; have := HLl.out; omega)⟩
      clear HR HIr HIk HRk HP
      go_wp2_with (rw [← HW2.out])
      refine (HNd.out W2 HKw2.out r1 r2).mono ?_
      rintro e W3 ⟨hD, hk3⟩
      have HK3 : Hid (Kept No W2 W3) := hk3
      have HT3 : Hid (Rt W3 Q most a n sl) := HT.out.no (HKw2.out.trans hk3)
      have HKw3 : Hid (Kept No w W3) := HKw2.out.trans hk3
      clear hk3 q0 q1 q4 q5 q6 q7
      obtain ⟨⟨q0, q1⟩, ⟨q4, q5⟩, q6, q7⟩ := HQ.out W3 (fun k o _ h => HK3.out.heap h id)
      rcases hD with ⟨hp, rfl⟩ | ⟨hp, rfl⟩
      · have HX : Hid (er = 0 ∧ a' = a ∧ n' = n ∧ sl' = (putR a n sl (r1, r2) (v1, v2)).2) := by
          have e := HR'.out
          rw [if_pos hp] at e
          simp at e
          exact ⟨e.1.symm, e.2.1.symm, e.2.2.1.symm, e.2.2.2.symm⟩
        clear HR'
        have HPt := RPut_any HT3.out r1 r2 v1 v2 HI2
        go_wp2_with fail
        refine HPt.mono ?_
        rintro e W4 ⟨rfl, hr4, ho4⟩
        have HE : Hid (Rt W4 Q most a' n' sl' ∧ OwnR w Q W4) := by
          obtain ⟨_, rfl, rfl, rfl⟩ := HX.out
          exact ⟨hr4, (OwnR.of_no HKw3.out hQ).trans ho4⟩
        clear HPt hr4 ho4 q0 q1 q4 q5 q6 q7
        go_wp2
        go_ret
        exact ⟨by rw [HX.out.1]; rfl, HE.out⟩
      · have hpf : ¬ (putR a n sl (r1, r2) (v1, v2)).1 = true := by rw [hp]; simp
        rw [if_neg hpf] at HR'
        clear hpf hp
        obtain ⟨ao, lo, ca, cl, hd, _⟩ := HT3.out.ex
        have c2 : W3.cell? ⟨Q, 2, none⟩ = some (.int .i64 most) := by rw [cell_of hd]; rfl
        clear hd
        obtain ⟨hza, hzn⟩ := HZa.out
        generalize szA (renL a n sl (r1, r2)) = za at HR' hza ⊢
        generalize szN (renL a n sl (r1, r2)) = zn at HR' hzn ⊢
        clear HZa
        by_cases hm : most < (za : Int) + 2 * (zn : Int)
        · have HX : Hid (er = 8 ∧ a' = a ∧ n' = n ∧ sl' = sl) := by
            have e := HR'.out
            rw [if_pos hm] at e
            simp at e
            exact ⟨e.1.symm, e.2.1.symm, e.2.2.1.symm, e.2.2.2.symm⟩
          have HE : Hid (Rt W3 Q most a' n' sl' ∧ OwnR w Q W3) := by
            obtain ⟨_, rfl, rfl, rfl⟩ := HX.out
            exact ⟨HT3.out, OwnR.of_no HKw3.out hQ⟩
          clear HR'
          go_wp2
          go_ret
          exact ⟨by rw [HX.out.1]; rfl, HE.out⟩
        · have HX : Hid (er = 0 ∧ a' = za ∧ n' = zn ∧ sl' = (putR za zn (putAll za zn (fun _ => (0, 0)) (ents a n sl 0)) (r1, r2) (v1, v2)).2) := by
            have e := HR'.out
            rw [if_neg hm] at e
            simp at e
            exact ⟨e.1.symm, e.2.1.symm, e.2.2.1.symm, e.2.2.2.symm⟩
          have HRn3 := HRn.out W3 HKw3.out za zn (by omega) (by omega)
          clear HR' HRn
          go_wp2_with fail
          refine HRn3.mono ?_
          rintro e W4 ⟨rfl, hr4, ho4⟩
          have HT4 : Hid (Rt W4 Q most za zn (putAll za zn (fun _ => (0, 0)) (ents a n sl 0))) := hr4
          have HO4 : Hid (OwnR w Q W4) := (OwnR.of_no HKw3.out hQ).trans ho4
          have HPt := RPut_any hr4 r1 r2 v1 v2 HI2
          clear q0 q1 q4 q5 q6 q7
          obtain ⟨⟨q0, q1⟩, ⟨q4, q5⟩, q6, q7⟩ := HQ.out W4 (fun k o hk h => ho4.kp.heap (HK3.out.heap h id) (fun hq => by
            have := HT.out.fp (hq.no HKw3.out hQ); omega))
          clear hr4 ho4 HRn3 c2
          go_wp2_with fail
          refine HPt.mono ?_
          rintro e W5 ⟨rfl, hr5, ho5⟩
          have HE : Hid (Rt W5 Q most a' n' sl' ∧ OwnR w Q W5) := by
            obtain ⟨_, rfl, rfl, rfl⟩ := HX.out
            exact ⟨hr5, HO4.out.trans ho5⟩
          clear HPt hr5 ho5 q0 q1 q4 q5 q6 q7
          go_wp2
          go_ret
          exact ⟨by rw [HX.out.1]; rfl, HE.out⟩
end Go.Proofs.Ythefmfjlinpepaa
