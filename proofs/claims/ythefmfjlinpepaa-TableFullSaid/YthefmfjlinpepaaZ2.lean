/- TableSizes: the walk. -/
import Derived.Test.YthefmfjlinpepaaZ1
namespace Go.Proofs.Ythefmfjlinpepaa
open Go.RowKit Go.Shelf
set_option linter.unusedSimpArgs false
set_option linter.unusedVariables false
attribute [local go_sem] Oper.semAt_some

theorem Re.slot {w W : World} {P : Nat} {most : Int} {a n : Nat} {sl : Sl} {b : Nat} (h : Re w W P most a n sl b) (i : Int) (hw : wf i) (x : Int × Int) (hx : sl i = x) :
    Calls Try.prog 27 #[MP P, .int .i64 i] W fun e w' => e = .returned (iV x) ∧ Kept No W w' := by
  obtain ⟨nn, hnn, ht⟩ := h.tb
  rw [← hx]
  exact (Slot_any ht i hw).mono (fun e w' hh => ⟨hh.1, Kept.of_below hh.2⟩)

set_option maxRecDepth 100000 in
set_option maxHeartbeats 8000000 in
theorem TableSizes_any (v : Value) (L : List Ac) (w : World) (hL : Acts w v L) :
    Calls Try.prog 8 #[v] w fun e w' => e = .returned (.bool true) ∧ Kept No w w' := by
  obtain ⟨ao, cap, rfl, hwf, hcl⟩ := hL
  have HW : Hid (∀ a ∈ L, I64 a.k.2 ∧ I64 a.v.2 ∧ I64 a.i ∧ I64 a.k.1 ∧ I64 a.v.1) := hwf
  have HC : Hid (0 < L.length → ∃ b off, ao = some ⟨b, off, none⟩ ∧ ∀ i a, L[i]? = some a →
    w.cell? ⟨b, off + i * 6, none⟩ = some (.int .i64 a.kind) ∧ w.cell? ⟨b, off + i * 6 + 1, none⟩ = some (.int .i64 a.k.1) ∧ w.cell? ⟨b, off + i * 6 + 2, none⟩ = some (.int .i64 a.k.2) ∧ w.cell? ⟨b, off + i * 6 + 3, none⟩ = some (.int .i64 a.v.1) ∧ w.cell? ⟨b, off + i * 6 + 4, none⟩ = some (.int .i64 a.v.2) ∧ w.cell? ⟨b, off + i * 6 + 5, none⟩ = some (.int .i64 a.i)) := hcl
  clear hwf hcl
  have hfd := fd33
  go_enter Try.func8, Try.ntmps8
  go_wp2_with fail
  refine (NewMem_re 400 _).mono ?_
  rintro e w1 ⟨rfl, h1⟩
  have H1 : Hid (ReS w w1 w.heap.size 400 (playR 400 (L.take 0)) 0) := h1
  clear h1
  go_wp2_with fail
  refine (alive_any _).mono ?_
  rintro e w2 ⟨rfl, hk2⟩
  have H2 : Hid (ReS w w2 w.heap.size 400 (playR 400 (L.take 0)) 0) := H1.out.no hk2
  clear hk2 H1
  go_wp2_with fail
  go_loopw [4] (fun i wr => ∃ j : Nat, j ≤ L.length ∧ j ≤ 80 ∧ i = .int .i64 j ∧ Hid (ReS w wr w.heap.size 400 (playR 400 (L.take j)) (500 * j))) (fun i _ => L.length - (intOf i).toNat)
  case atStart => exact ⟨0, Nat.zero_le _, by omega, rfl, H2.out⟩
  case round =>
    obtain ⟨j, hj, hj8, rfl, HP⟩ := hrel
    by_cases hlt : j < L.length
    · have k1 : (0 : Int) ≤ (j : Int) := by omega
      have k2 : (j : Int) < (L.length : Int) := by omega
      by_cases h80 : j < 80
      · have k3 : (j : Int) < 80 := by omega
        obtain ⟨b, off, rfl, hcell⟩ := HC.out (by omega)
        obtain ⟨x, hx⟩ : ∃ x, L[j]? = some x := ⟨L[j]'hlt, List.getElem?_eq_getElem _⟩
        obtain ⟨c0, c1, c2, c3, c4, c5⟩ := hcell j x hx
        have hkk := HP.out.kp
        have d0 := hkk.cell c0
        have d1 := hkk.cell c1
        have d2 := hkk.cell c2
        have d3 := hkk.cell c3
        have d4 := hkk.cell c4
        have HX : Hid (playR 400 (L.take (j + 1)) = stepR 400 (playR 400 (L.take j)) x) := by
          show _ = _
          rw [List.take_add_one, hx]; exact playR_snoc _ _ _
        have HWx := HW.out x (List.mem_of_getElem? hx)
        have HLn := playR_len 400 L j
        have hwf := play_wf L j hj8
        have hpw := play_pw L j hj8
        obtain ⟨kd, ⟨x1, x2⟩, ⟨y1, y2⟩, ii⟩ := x
        simp only at c0 c1 c2 c3 c4 c5 d0 d1 d2 d3 d4 HWx
        clear hcell hkk hx
        generalize playR 400 (L.take j) = s at HP HX HLn hwf hpw
        obtain ⟨a, n, sl⟩ := s
        simp only at HLn hwf hpw
        have HP' : Hid (Re w wr w.heap.size 400 a n sl (500 * j)) := HP.out
        clear HP
        by_cases hkd : kd = 1
        · subst hkd
          have hkd' : ((1 : Int) != 1) = false := by decide
          obtain ⟨r, hr⟩ : ∃ r, setR 400 a n sl (x1, x2) (y1, y2) = r := ⟨_, rfl⟩
          obtain ⟨er, a', n', sl'⟩ := r
          have HSz := set_sizes (most := 400) (k := (x1, x2)) (v := (y1, y2)) hwf (by omega) hpw (by rw [hr])
          have HPn : Hid (playR 400 (L.take (j + 1)) = (a', n', sl')) := by
            show _ = _
            rw [HX.out]
            unfold stepR
            rw [if_pos rfl]
            simp only
            rw [hr]
          have HS : Hid (∀ W, Kept No wr W → Calls Try.prog 22 #[MI w.heap.size, AV x1 x2, AV y1 y2] W fun r w' => r = .returned (.int .i64 er) ∧ Re w w' w.heap.size 400 a' n' sl' (500 * (j + 1))) := by
            intro W hW
            exact (HP'.out.no hW).set i64_400 (by omega) (by omega) (x1, x2) (y1, y2) HWx.1 HWx.2.1 hr
          have HA1 := HP'.out.array
          have HN1 := HP'.out.nodes
          have HA1' : Hid _ := HA1
          have HN1' : Hid _ := HN1
          have HK : Hid (∀ W, Kept No wr W → W.cell? ⟨b, off + j * 6 + 1, none⟩ = some (.int .i64 x1) ∧ W.cell? ⟨b, off + j * 6 + 2, none⟩ = some (.int .i64 x2) ∧ W.cell? ⟨b, off + j * 6 + 3, none⟩ = some (.int .i64 y1) ∧ W.cell? ⟨b, off + j * 6 + 4, none⟩ = some (.int .i64 y2)) := fun W hW => ⟨hW.cell d1, hW.cell d2, hW.cell d3, hW.cell d4⟩
          have HK2 : Hid (∀ W, Kept No w W → W.cell? ⟨b, off + j * 6 + 1, none⟩ = some (.int .i64 x1) ∧ W.cell? ⟨b, off + j * 6 + 2, none⟩ = some (.int .i64 x2) ∧ W.cell? ⟨b, off + j * 6 + 3, none⟩ = some (.int .i64 y1) ∧ W.cell? ⟨b, off + j * 6 + 4, none⟩ = some (.int .i64 y2)) := fun W hW => ⟨hW.cell c1, hW.cell c2, hW.cell c3, hW.cell c4⟩
          have HSz' : Hid _ := HSz
          clear HX HLn HWx c0 c1 c2 c3 c4 c5 HSz hr hwf hpw HA1 HN1
          go_wp2_with (first | (go_at_call 25; refine Calls.mono HA1'.out ?_; rintro e w' ⟨rfl, rfl⟩) | (go_at_call 26; refine Calls.mono HN1'.out ?_; rintro e w' ⟨rfl, rfl⟩))
          go_region_held3 (fun w' => w'.cell? ⟨b, off + j * 6 + 1, none⟩ = some (.int .i64 x1) ∧ w'.cell? ⟨b, off + j * 6 + 2, none⟩ = some (.int .i64 x2) ∧ w'.cell? ⟨b, off + j * 6 + 3, none⟩ = some (.int .i64 y1) ∧ w'.cell? ⟨b, off + j * 6 + 4, none⟩ = some (.int .i64 y2)) (go_keep)
            (first | (go_at_call 22; refine (HS.out _ ((Kept.refl _ _).drew)).mono ?_; rintro e w3 ⟨rfl, h3⟩; have H3 : Hid (Re w w3 w.heap.size 400 a' n' sl' (500 * (j + 1))) := h3; have q1 := (HK.out _ ((Kept.refl No wr).drew)); have q2 := HK2.out w3 h3.kp; clear h3))
          clear HS HK HK2 HA1' HN1' HP' d0 d1 d2 d3 d4
          have HA2 := H3.out.array
          have HN2 := H3.out.nodes
          have HA2' : Hid _ := HA2
          have HN2' : Hid _ := HN2
          clear HA2 HN2
          obtain ⟨hpw, hsz⟩ := HSz'.out
          obtain ⟨hb1, hb2⟩ : bits .and .i64 (a' : Int) ((a' : Int) - 1) = 0 ∧ bits .and .i64 (n' : Int) ((n' : Int) - 1) = 0 := hpw
          have ha' : a' ≤ 100000 ∧ n' ≤ 100000 := by obtain ⟨nn, _, ht⟩ := H3.out.tb; exact ht.bd
          clear HSz'
          have HRel : Hid (∀ W, Kept No w3 W → ReS w W w.heap.size 400 (playR 400 (L.take (j + 1))) (500 * (j + 1))) := fun W hW => by
            show Re _ _ _ _ _ _ _ _
            rw [HPn.out]; exact H3.out.no hW
          clear HPn
          by_cases hsame : a' = a ∧ n' = n
          · obtain ⟨rfl, rfl⟩ := hsame
            have HR2 : Hid (ReS w w3 w.heap.size 400 (playR 400 (L.take (j + 1))) (500 * (j + 1))) := HRel.out _ (Kept.refl _ _)
            clear hsz HRel
            go_wp2_with (first | (go_at_call 25; refine Calls.mono HA2'.out ?_; rintro e w' ⟨rfl, rfl⟩) | (go_at_call 26; refine Calls.mono HN2'.out ?_; rintro e w' ⟨rfl, rfl⟩))
            go_roundw
            case rel => exact ⟨j + 1, by omega, by omega, by go_num, HR2.out⟩
            case measure => simp [intOf]; omega
          · have hsz2 := hsz.resolve_left hsame
            have HSz2 : Hid ((a' = 0 ∨ a' < 2 * cA sl' a') ∧ (n' = 0 ∨ n' < 2 * cN a' sl' n')) := hsz2
            clear hsz hsz2
            have hA71 : ∃ bb, ((a : Int) == (a' : Int)) = bb ∧ (bb = true → ((n : Int) == (n' : Int)) = false) := by
              refine ⟨_, rfl, fun h => ?_⟩
              have h1 : (a : Int) = (a' : Int) := by simpa using h
              cases h2 : ((n : Int) == (n' : Int))
              · rfl
              · have h3 : (n : Int) = (n' : Int) := by simpa using h2
                exact absurd ⟨by omega, by omega⟩ hsame
            clear hsame
            obtain ⟨bb, h71, h75⟩ := hA71
            have HTail : Hid (∀ W, Kept No w3 W → ReS w W w.heap.size 400 (playR 400 (L.take (j + 1))) (500 * (j + 1))) := HRel.out
            clear HRel
            cases bb
            case' true => have h75' := h75 rfl
            all_goals (
              clear h75
              go_wp2_with (first | (go_at_call 25; refine Calls.mono HA2'.out ?_; rintro e w' ⟨rfl, rfl⟩) | (go_at_call 26; refine Calls.mono HN2'.out ?_; rintro e w' ⟨rfl, rfl⟩))
              clear HA2' HN2' h71 hb1 hb2
              go_loopw [9, 11] (fun c i wr => ∃ q : Nat, q ≤ a' ∧ i = .int .i64 q ∧ c = .int .i64 (cA sl' q : Nat) ∧ Hid (Kept No w3 wr)) (fun _ i _ => a' - (intOf i).toNat)
              case atStart => exact ⟨0, Nat.zero_le _, rfl, rfl, Kept.refl _ _⟩
              case round =>
                obtain ⟨q, hq, rfl, rfl, HKq⟩ := hrel
                have hcq := cA_le sl' q
                by_cases hlq : q < a'
                · have kq : (q : Int) < (a' : Int) := by omega
                  obtain ⟨g, hg⟩ : ∃ g, sl' (q : Int) = g := ⟨_, rfl⟩
                  have HSu : Hid (cA sl' (q + 1) = cA sl' q + (if g.1 = 0 then 0 else 1)) := by show _ = _; rw [cA_succ, hg]
                  have HSl := (H3.out.no HKq.out).slot (q : Int) (wf_of (by omega) (by omega)) g hg
                  have HSl' : Hid _ := HSl
                  clear HSl hg
                  obtain ⟨g1, g2⟩ := g
                  generalize cA sl' q = cq at hcq HSu ⊢
                  go_wp2_with fail
                  refine Calls.mono HSl'.out ?_
                  rintro e w5 ⟨rfl, hk5⟩
                  have HK5 : Hid (Kept No w3 w5) := HKq.out.trans hk5
                  clear hk5 HSl'
                  cases hz : (g1 == 0)
                  · have HS2 : Hid (cA sl' (q + 1) = cq + 1) := by show _ = _; rw [HSu.out, if_neg (by simpa using hz)]
                    clear HSu
                    go_wp2
                    go_roundw
                    case rel => exact ⟨q + 1, by omega, by go_num, by rw [HS2.out]; go_num, HK5.out⟩
                    case measure => simp [intOf]; omega
                  · have HS2 : Hid (cA sl' (q + 1) = cq) := by show _ = _; rw [HSu.out, if_pos (by simpa using hz)]; rfl
                    clear HSu
                    go_wp2
                    go_roundw
                    case rel => exact ⟨q + 1, by omega, by go_num, by rw [HS2.out], HK5.out⟩
                    case measure => simp [intOf]; omega
                · have kq : ¬ (q : Int) < (a' : Int) := by omega
                  obtain rfl : q = a' := by omega
                  generalize hci : cA sl' q = ci at hcq ⊢
                  have HCi : Hid (cA sl' q = ci) := hci
                  clear hci
                  go_wp2_with fail
                  go_loopw [10, 12] (fun c i wr => ∃ p : Nat, p ≤ n' ∧ i = .int .i64 p ∧ c = .int .i64 (cN q sl' p : Nat) ∧ Hid (Kept No w3 wr)) (fun _ i _ => n' - (intOf i).toNat)
                  case atStart => exact ⟨0, Nat.zero_le _, rfl, rfl, HKq.out⟩
                  case round =>
                    obtain ⟨p, hp, rfl, rfl, HKp⟩ := hrel
                    have hcp := cN_le q sl' p
                    by_cases hlp : p < n'
                    · have kp : (p : Int) < (n' : Int) := by omega
                      obtain ⟨g, hg⟩ : ∃ g, sl' ((q : Int) + 2 * (p : Int) + 1) = g := ⟨_, rfl⟩
                      have HSu : Hid (cN q sl' (p + 1) = cN q sl' p + (if g.1 = 0 then 0 else 1)) := by show _ = _; rw [cN_succ, hg]
                      have HSl := (H3.out.no HKp.out).slot ((q : Int) + 2 * (p : Int) + 1) (wf_of (by omega) (by omega)) g hg
                      have HSl' : Hid _ := HSl
                      clear HSl hg
                      obtain ⟨g1, g2⟩ := g
                      generalize cN q sl' p = cq at hcp HSu ⊢
                      go_wp2_with fail
                      refine Calls.mono HSl'.out ?_
                      rintro e w5 ⟨rfl, hk5⟩
                      have HK5 : Hid (Kept No w3 w5) := HKp.out.trans hk5
                      clear hk5 HSl'
                      cases hz : (g1 == 0)
                      · have HS2 : Hid (cN q sl' (p + 1) = cq + 1) := by show _ = _; rw [HSu.out, if_neg (by simpa using hz)]
                        clear HSu
                        go_wp2
                        go_roundw
                        case rel => exact ⟨p + 1, by omega, by go_num, by rw [HS2.out]; go_num, HK5.out⟩
                        case measure => simp [intOf]; omega
                      · have HS2 : Hid (cN q sl' (p + 1) = cq) := by show _ = _; rw [HSu.out, if_pos (by simpa using hz)]; rfl
                        clear HSu
                        go_wp2
                        go_roundw
                        case rel => exact ⟨p + 1, by omega, by go_num, by rw [HS2.out], HK5.out⟩
                        case measure => simp [intOf]; omega
                    · have kp : ¬ (p : Int) < (n' : Int) := by omega
                      obtain rfl : p = n' := by omega
                      obtain ⟨hz1, hz2⟩ := HSz2.out
                      rw [HCi.out] at hz1
                      generalize cN q sl' p = cn at hcp hz2 ⊢
                      have HR2 : Hid (ReS w wr w.heap.size 400 (playR 400 (L.take (j + 1))) (500 * (j + 1))) := HTail.out _ HKp.out
                      clear HTail HKp HKq
                      rcases hz1 with rfl | hz1 <;> rcases hz2 with rfl | hz2
                      · go_wp2
                        go_roundw
                        case rel => exact ⟨j + 1, by omega, by omega, by go_num, HR2.out⟩
                        case measure => simp [intOf]; omega
                      · have b1 : ¬ (2 * (cn : Int) ≤ (p : Int)) := by omega
                        have b2 : (0 : Int) < (p : Int) := by omega
                        go_wp2
                        go_roundw
                        case rel => exact ⟨j + 1, by omega, by omega, by go_num, HR2.out⟩
                        case measure => simp [intOf]; omega
                      · have b3 : ¬ (2 * (ci : Int) ≤ (q : Int)) := by omega
                        have b4 : (0 : Int) < (q : Int) := by omega
                        go_wp2
                        go_roundw
                        case rel => exact ⟨j + 1, by omega, by omega, by go_num, HR2.out⟩
                        case measure => simp [intOf]; omega
                      · have b1 : ¬ (2 * (cn : Int) ≤ (p : Int)) := by omega
                        have b2 : (0 : Int) < (p : Int) := by omega
                        have b3 : ¬ (2 * (ci : Int) ≤ (q : Int)) := by omega
                        have b4 : (0 : Int) < (q : Int) := by omega
                        go_wp2
                        go_roundw
                        case rel => exact ⟨j + 1, by omega, by omega, by go_num, HR2.out⟩
                        case measure => simp [intOf]; omega)
        · have hkd' : (kd == 1) = false := by simpa using hkd
          have hkd2 : (kd != 1) = true := by simpa using hkd
          have HR2 : Hid (ReS w wr w.heap.size 400 (playR 400 (L.take (j + 1))) (500 * (j + 1))) := by
            have e : playR 400 (L.take (j + 1)) = (a, n, sl) := by rw [HX.out]; unfold stepR; rw [if_neg hkd]
            show Re _ _ _ _ _ _ _ _
            rw [e]
            obtain ⟨nn, hb, ht⟩ := HP'.out.tb
            exact ⟨⟨nn, by omega, ht⟩, HP'.out.fp, HP'.out.kp, HP'.out.is⟩
          clear HX HLn HWx HP' c0 c1 c2 c3 c4 c5 hwf hpw
          go_wp2
          go_roundw
          case rel => exact ⟨j + 1, by omega, by omega, by go_num, HR2.out⟩
          case measure => simp [intOf]; omega
      · have k3 : ¬ (j : Int) < 80 := by omega
        have HF : Hid (Kept No w wr) := HP.out.kp
        clear HP
        go_wp2
        go_ret
        exact ⟨rfl, HF.out⟩
    · have k2 : ¬ (j : Int) < (L.length : Int) := by omega
      have HF : Hid (Kept No w wr) := HP.out.kp
      clear HP
      go_wp2
      go_ret
      exact ⟨rfl, HF.out⟩
end Go.Proofs.Ythefmfjlinpepaa
