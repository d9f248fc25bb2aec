/- TableFull: what is refused changes nothing; the walk. -/
import Derived.Test.YthefmfjlinpepaaZ2
import Derived.Test.YthefmfjlinpepaaVR
namespace Go.Proofs.Ythefmfjlinpepaa
open Go.RowKit Go.Shelf
set_option linter.unusedSimpArgs false
set_option linter.unusedVariables false
attribute [local go_sem] Oper.semAt_some

theorem set_fails {most : Int} {a n : Nat} {sl : Sl} {k v : Int × Int} (hl : (ents a n sl 0).length ≤ 200) (h : (setR most a n sl k v).1 ≠ 0) : (setR most a n sl k v).2 = (a, n, sl) := by
  unfold setR at h ⊢
  by_cases h1 : (!keyB k.1 k.2 || v.1 == 11) = true
  · rw [if_pos h1]
  · rw [if_neg h1] at h ⊢
    by_cases h2 : (putR a n sl (kyP k) v).1 = true
    · rw [if_pos h2] at h; exact absurd rfl h
    · rw [if_neg h2] at h ⊢
      by_cases h3 : most < (szA (renL a n sl (kyP k)) : Int) + 2 * (szN (renL a n sl (kyP k)) : Int)
      · rw [if_pos h3]
      · rw [if_neg h3, renew_room a n sl (kyP k) v hl, if_pos rfl] at h
        exact absurd rfl h
/-- A table has no more slots than it may. -/
theorem play_fits (most : Int) (L : List Ac) : ∀ j, ((playR most (L.take j)).1 : Int) + 2 * ((playR most (L.take j)).2.1 : Int) ≤ (if most < 0 then 0 else most)
  | 0 => by
    rw [List.take_zero]
    show ((0 : Nat) : Int) + 2 * ((0 : Nat) : Int) ≤ _
    split <;> omega
  | j + 1 => by
    have ih := play_fits most L j
    rw [List.take_add_one]
    rcases h : L[j]? with _ | x
    · simp only [Option.toList_none, List.append_nil]; exact ih
    · simp only [Option.toList_some]
      rw [playR_snoc]
      unfold stepR
      split
      · rcases setR_cases most (playR most (L.take j)).1 (playR most (L.take j)).2.1 (playR most (L.take j)).2.2 x.k x.v with h | ⟨hkb, h⟩ | ⟨hkb, h2, h3, h⟩
        · rw [h]; exact ih
        · rw [h]; exact ih
        · rw [h]; simp only; split <;> omega
      · exact ih

/-- The first slots. -/
def slotsTo (sl : Sl) (q : Nat) : List (Int × Int) := (List.range q).map fun j : Nat => sl (j : Int)
theorem slotsTo_succ (sl : Sl) (q : Nat) : slotsTo sl (q + 1) = slotsTo sl q ++ [sl (q : Int)] := by
  unfold slotsTo; rw [List.range_succ, List.map_append]; rfl
theorem slotsTo_len (sl : Sl) (q : Nat) : (slotsTo sl q).length = q := by unfold slotsTo; simp
theorem slotsTo_at (sl : Sl) {q j : Nat} (h : j < q) : (slotsTo sl q)[j]? = some (sl (j : Int)) := by unfold slotsTo; simp [h]

set_option maxRecDepth 100000 in
set_option maxHeartbeats 1000000 in
theorem TableFull_any (most : Int) (v : Value) (L : List Ac) (w : World) (hm : I64 most) (hL : Acts w v L) :
    Calls Try.prog 9 #[.int .i64 most, v] w fun e w' => e = .returned (.bool true) ∧ Kept No w w' := by
  obtain ⟨ao, cap, rfl, hwf, hcl⟩ := hL
  have HW : Hid (∀ a ∈ L, I64 a.k.2 ∧ I64 a.v.2 ∧ I64 a.i ∧ I64 a.k.1 ∧ I64 a.v.1) := hwf
  have HC : Hid (0 < L.length → ∃ b off, ao = some ⟨b, off, none⟩ ∧ ∀ i a, L[i]? = some a →
    w.cell? ⟨b, off + i * 6, none⟩ = some (.int .i64 a.kind) ∧ w.cell? ⟨b, off + i * 6 + 1, none⟩ = some (.int .i64 a.k.1) ∧ w.cell? ⟨b, off + i * 6 + 2, none⟩ = some (.int .i64 a.k.2) ∧ w.cell? ⟨b, off + i * 6 + 3, none⟩ = some (.int .i64 a.v.1) ∧ w.cell? ⟨b, off + i * 6 + 4, none⟩ = some (.int .i64 a.v.2) ∧ w.cell? ⟨b, off + i * 6 + 5, none⟩ = some (.int .i64 a.i)) := hcl
  have HMo : Hid (I64 most) := hm
  clear hwf hcl hm
  go_enter Try.func9, Try.ntmps9
  go_wp2_with fail
  refine (NewMem_re most _).mono ?_
  rintro e w1 ⟨rfl, h1⟩
  have H1 : Hid (ReS w w1 w.heap.size most (playR most (L.take 0)) 0) := h1
  clear h1
  go_wp2_with fail
  refine (alive_any _).mono ?_
  rintro e w2 ⟨rfl, hk2⟩
  have H2 : Hid (ReS w w2 w.heap.size most (playR most (L.take 0)) 0) := H1.out.no hk2
  clear hk2 H1
  go_wp2_with fail
  go_loopw [6] (fun i wr => ∃ j : Nat, j ≤ L.length ∧ j ≤ 80 ∧ i = .int .i64 j ∧ Hid (ReS w wr w.heap.size most (playR most (L.take j)) (500 * j))) (fun i _ => L.length - (intOf i).toNat)
  case atStart => exact ⟨0, Nat.zero_le _, by omega, rfl, H2.out⟩
  case round =>
    obtain ⟨j, hj, hj8, rfl, HP⟩ := hrel
    by_cases hlt : j < L.length
    · have k1 : (0 : Int) ≤ (j : Int) := by omega
      have k2 : (j : Int) < (L.length : Int) := by omega
      by_cases h80 : j < 80
      · have k3 : (j : Int) < 80 := by omega
        obtain ⟨b, off, rfl, hcell⟩ := HC.out (by omega)
        obtain ⟨x, hx⟩ : ∃ x, L[j]? = some x := ⟨L[j]'hlt, List.getElem?_eq_getElem _⟩
        have HX : Hid (playR most (L.take (j + 1)) = stepR most (playR most (L.take j)) x) := by
          show _ = _
          rw [List.take_add_one, hx]; exact playR_snoc _ _ _
        have HWx := HW.out x (List.mem_of_getElem? hx)
        have HLn := playR_len most L j
        have HD0 := hcell j x hx
        obtain ⟨kd, ⟨x1, x2⟩, ⟨y1, y2⟩, ii⟩ := x
        simp only at HWx HD0
        have HD : Hid (∀ W, Kept No w W → W.cell? ⟨b, off + j * 6, none⟩ = some (.int .i64 kd) ∧ W.cell? ⟨b, off + j * 6 + 1, none⟩ = some (.int .i64 x1) ∧ W.cell? ⟨b, off + j * 6 + 2, none⟩ = some (.int .i64 x2) ∧ W.cell? ⟨b, off + j * 6 + 3, none⟩ = some (.int .i64 y1) ∧ W.cell? ⟨b, off + j * 6 + 4, none⟩ = some (.int .i64 y2)) := fun W hW => ⟨hW.cell HD0.1, hW.cell HD0.2.1, hW.cell HD0.2.2.1, hW.cell HD0.2.2.2.1, hW.cell HD0.2.2.2.2.1⟩
        clear hcell hx HD0
        generalize playR most (L.take j) = s at HP HX HLn
        obtain ⟨a, n, sl⟩ := s
        simp only at HLn
        have HP' : Hid (Re w wr w.heap.size most a n sl (500 * j)) := HP.out
        obtain ⟨hbd1, hbd2⟩ : a ≤ 100000 ∧ n ≤ 100000 := by obtain ⟨nn, _, ht⟩ := HP'.out.tb; exact ht.bd
        clear HP
        have HA1 := HP'.out.array
        have HN1 := HP'.out.nodes
        have HA1' : Hid _ := HA1
        have HN1' : Hid _ := HN1
        have HWx' : Hid _ := HWx
        have HLn' : Hid ((ents a n sl 0).length ≤ 200) := by show _ ≤ _; omega
        clear HA1 HN1 HWx HLn
        go_wp2_with (first | (go_at_call 25; refine Calls.mono HA1'.out ?_; rintro e w' ⟨rfl, rfl⟩) | (go_at_call 26; refine Calls.mono HN1'.out ?_; rintro e w' ⟨rfl, rfl⟩))
        clear HA1' HN1'
        obtain ⟨T, HTT⟩ : ∃ T : Nat, Hid (T = a + 2 * n) := ⟨_, show _ = _ from rfl⟩
        go_loopw [9, 10] (fun vs i wr => ∃ (q : Nat) (u : Value), q ≤ T ∧ i = .int .i64 q ∧ u = vs ∧ Hid (VRow wr w.heap.size u (slotsTo sl q) ∧ Re w wr w.heap.size most a n sl (500 * j))) (fun _ i _ => T - (intOf i).toNat)
        case atStart => exact ⟨0, _, Nat.zero_le _, rfl, rfl, VRow.nil _ _, HP'.out⟩
        case round =>
          obtain ⟨q, u, hq, rfl, rfl, HV⟩ := hrel
          by_cases hlq : q < T
          · have kq : (q : Int) < (a : Int) + 2 * (n : Int) := by have := HTT.out; omega
            have hqb : q ≤ 300000 := by omega
            obtain ⟨g, hg⟩ : ∃ g, sl (q : Int) = g := ⟨_, rfl⟩
            have HSu : Hid (slotsTo sl (q + 1) = slotsTo sl q ++ [g]) := by show _ = _; rw [slotsTo_succ, hg]
            have HSl := HV.out.2.slot (q : Int) (wf_of (by omega) (by omega)) g hg
            have HSl' : Hid _ := HSl
            clear HSl hg
            obtain ⟨g1, g2⟩ := g
            go_wp2_with fail
            refine Calls.mono HSl'.out ?_
            rintro e w5 ⟨rfl, hk5⟩
            have HV5 : Hid (VRow w5 w.heap.size u (slotsTo sl q) ∧ Re w w5 w.heap.size most a n sl (500 * j)) := ⟨HV.out.1.no hk5, HV.out.2.no hk5⟩
            have hz5 : w.heap.size ≤ w5.heap.size := HV5.out.2.kp.size
            have hsl := slotsTo_len sl q
            clear hk5 HSl' HV
            go_wp2_with (refine app_val rfl (.tmp 42) (.tmp 46) rfl w.heap.size u (slotsTo sl q) rfl (World.ownsRow.alloc HV5.out.1 _) w5.heap.size (g1, g2) rfl (heap_new1 w5 _) (by omega) (by simp; omega) ?_)
            intro v' W6 HR HG
            have HV6 : Hid (VRow W6 w.heap.size v' (slotsTo sl (q + 1)) ∧ Re w W6 w.heap.size most a n sl (500 * j)) := by
              refine ⟨?_, (HV5.out.2.grown HV5.out.1 (Nat.le_refl _) HG.out).1⟩
              rw [HSu.out]; exact HR.out
            clear HR HG HV5 HSu
            go_wp2
            go_roundw
            case rel => exact ⟨q + 1, v', by omega, by go_num, rfl, HV6.out⟩
            case measure => simp [intOf]; omega
          · have kq : ¬ (q : Int) < (a : Int) + 2 * (n : Int) := by have := HTT.out; omega
            obtain rfl : q = T := by omega
            obtain ⟨W7, hW7⟩ : ∃ W7, W7 = wr := ⟨_, rfl⟩
            rw [← hW7] at HV ⊢
            clear hW7 HP'
            obtain ⟨ao2, c2, hu⟩ := HV.out.1.form
            rw [slotsTo_len] at hu
            subst hu
            by_cases hkd : kd = 1
            · subst hkd
              have hkd' : ((1 : Int) != 1) = false := by decide
              obtain ⟨r, hr⟩ : ∃ r, setR most a n sl (x1, x2) (y1, y2) = r := ⟨_, rfl⟩
              obtain ⟨er, a', n', sl'⟩ := r
              have HPn : Hid (playR most (L.take (j + 1)) = (a', n', sl')) := by
                show _ = _
                rw [HX.out]
                unfold stepR
                rw [if_pos rfl]
                simp only
                rw [hr]
              have HS : Hid (∀ W, Kept No W7 W → Calls Try.prog 22 #[MI w.heap.size, AV x1 x2, AV y1 y2] W fun r w' => r = .returned (.int .i64 er) ∧ Re w w' w.heap.size most a' n' sl' (500 * (j + 1)) ∧ VRow w' w.heap.size (.slice ao2 q c2) (slotsTo sl q)) := by
                intro W hW
                refine ((HV.out.2.no hW).set' HMo.out (by omega) HLn'.out (x1, x2) (y1, y2) HWx'.out.1 HWx'.out.2.1 hr).mono ?_
                rintro e w' ⟨rfl, h1, h2⟩
                have hV' := HV.out.1.no hW
                refine ⟨rfl, h1, hV'.turn (fun k hk => ?_)⟩
                obtain ⟨_, c, hc⟩ := hV'.block hk
                rw [h2 k c 33 hc (by decide), hc]
              have HFs : Hid (er ≠ 0 → (a', n', sl') = (a, n, sl)) := by
                intro h0
                have := set_fails (most := most) (k := (x1, x2)) (v := (y1, y2)) HLn'.out (by rw [hr]; exact h0)
                rw [hr] at this; exact this
              obtain ⟨d0, d1, d2, d3, d4⟩ := HD.out _ HV.out.2.kp
              have HKd := HD
              clear HX hr
              have HDr : Hid (∀ W, Kept No W7 W → W.cell? ⟨b, off + j * 6, none⟩ = some (.int .i64 1) ∧ W.cell? ⟨b, off + j * 6 + 1, none⟩ = some (.int .i64 x1) ∧ W.cell? ⟨b, off + j * 6 + 2, none⟩ = some (.int .i64 x2) ∧ W.cell? ⟨b, off + j * 6 + 3, none⟩ = some (.int .i64 y1) ∧ W.cell? ⟨b, off + j * 6 + 4, none⟩ = some (.int .i64 y2)) := fun W hW => HD.out W (HV.out.2.kp.trans hW)
              clear HV
              by_cases hE : er = 0
              · subst hE
                clear HFs
                go_wp2_with fail
                refine region_quiet_tailC (C := fun W => Kept No W7 W) 19 (by kernel_rfl) (by kernel_rfl) ((Kept.refl _ _).drew) ?_
                simp only [List.take_succ_cons, List.take_zero, List.drop_succ_cons, List.drop_zero]
                refine q_op (.slice (some ⟨b, off, none⟩) L.length cap) (by kernel_rfl) (fun W hW => by simp [go_sem]) ?_
                try simp only [Act.put, List.setIfInBounds_toArray, List.set_cons_zero, List.set_cons_succ]
                refine q_op (.int .i64 (j : Int)) (by kernel_rfl) (fun W hW => by simp [go_sem]) ?_
                try simp only [Act.put, List.setIfInBounds_toArray, List.set_cons_zero, List.set_cons_succ]
                refine q_op (.pointer (some ⟨b, off + j * 6, none⟩)) (by kernel_rfl) (fun W hW => by simp [go_sem, k1, k2]) ?_
                try simp only [Act.put, List.setIfInBounds_toArray, List.set_cons_zero, List.set_cons_succ]
                refine q_op (.pointer (some ⟨b, off + j * 6, none⟩)) (by kernel_rfl) (fun W hW => by simp [go_sem]) ?_
                try simp only [Act.put, List.setIfInBounds_toArray, List.set_cons_zero, List.set_cons_succ]
                refine q_op (.int .i64 1) (by kernel_rfl) (fun W hW => by obtain ⟨r0, r1, r2, r3, r4⟩ := HDr.out W hW; simp [go_sem, r0]) ?_
                try simp only [Act.put, List.setIfInBounds_toArray, List.set_cons_zero, List.set_cons_succ]
                refine q_op (.bool false) (by kernel_rfl) (fun W hW => by simp [go_sem, hkd']) ?_
                try simp only [Act.put, List.setIfInBounds_toArray, List.set_cons_zero, List.set_cons_succ]
                refine q_op (.bool false) (by kernel_rfl) (fun W hW => by simp [go_sem]) ?_
                try simp only [Act.put, List.setIfInBounds_toArray, List.set_cons_zero, List.set_cons_succ]
                refine q_op (MP w.heap.size) (by kernel_rfl) (fun W hW => by simp [go_sem]) ?_
                try simp only [Act.put, List.setIfInBounds_toArray, List.set_cons_zero, List.set_cons_succ]
                refine q_op (MI w.heap.size) (by kernel_rfl) (fun W hW => by simp [go_sem]) ?_
                try simp only [Act.put, List.setIfInBounds_toArray, List.set_cons_zero, List.set_cons_succ]
                refine q_op (.slice (some ⟨b, off, none⟩) L.length cap) (by kernel_rfl) (fun W hW => by simp [go_sem]) ?_
                try simp only [Act.put, List.setIfInBounds_toArray, List.set_cons_zero, List.set_cons_succ]
                refine q_op (.int .i64 (j : Int)) (by kernel_rfl) (fun W hW => by simp [go_sem]) ?_
                try simp only [Act.put, List.setIfInBounds_toArray, List.set_cons_zero, List.set_cons_succ]
                refine q_op (.pointer (some ⟨b, off + j * 6, none⟩)) (by kernel_rfl) (fun W hW => by simp [go_sem, k1, k2]) ?_
                try simp only [Act.put, List.setIfInBounds_toArray, List.set_cons_zero, List.set_cons_succ]
                refine q_op (.pointer (some ⟨b, off + j * 6 + 1, none⟩)) (by kernel_rfl) (fun W hW => by simp [go_sem]) ?_
                try simp only [Act.put, List.setIfInBounds_toArray, List.set_cons_zero, List.set_cons_succ]
                refine q_op (AV x1 x2) (by kernel_rfl) (fun W hW => by obtain ⟨r0, r1, r2, r3, r4⟩ := HDr.out W hW; simp [go_sem, r1, r2]) ?_
                try simp only [Act.put, List.setIfInBounds_toArray, List.set_cons_zero, List.set_cons_succ]
                refine q_op (.slice (some ⟨b, off, none⟩) L.length cap) (by kernel_rfl) (fun W hW => by simp [go_sem]) ?_
                try simp only [Act.put, List.setIfInBounds_toArray, List.set_cons_zero, List.set_cons_succ]
                refine q_op (.int .i64 (j : Int)) (by kernel_rfl) (fun W hW => by simp [go_sem]) ?_
                try simp only [Act.put, List.setIfInBounds_toArray, List.set_cons_zero, List.set_cons_succ]
                refine q_op (.pointer (some ⟨b, off + j * 6, none⟩)) (by kernel_rfl) (fun W hW => by simp [go_sem, k1, k2]) ?_
                try simp only [Act.put, List.setIfInBounds_toArray, List.set_cons_zero, List.set_cons_succ]
                refine q_op (.pointer (some ⟨b, off + j * 6 + 3, none⟩)) (by kernel_rfl) (fun W hW => by simp [go_sem]) ?_
                try simp only [Act.put, List.setIfInBounds_toArray, List.set_cons_zero, List.set_cons_succ]
                refine q_op (AV y1 y2) (by kernel_rfl) (fun W hW => by obtain ⟨r0, r1, r2, r3, r4⟩ := HDr.out W hW; simp [go_sem, r3, r4]) ?_
                try simp only [Act.put, List.setIfInBounds_toArray, List.set_cons_zero, List.set_cons_succ]
                refine wpQuiet_nil ?_
                intro W8 hk8
                go_wp2_with fail
                refine (HS.out _ hk8).mono ?_
                rintro e w3x ⟨rfl, h3⟩
                have H3 : Hid (Re w w3x w.heap.size most a' n' sl' (500 * (j + 1))) := h3.1
                clear h3 hk8
                go_wp2_with fail
                refine (no_any 0 _).mono ?_
                rintro e w3 ⟨rfl, rfl⟩
                have HR2 : Hid (ReS w w3 w.heap.size most (playR most (L.take (j + 1))) (500 * (j + 1))) := by show Re _ _ _ _ _ _ _ _; rw [HPn.out]; exact H3.out
                clear H3 HPn HS HD HDr d0 d1 d2 d3 d4
                go_wp2
                go_roundw
                case rel => exact ⟨j + 1, by omega, by omega, by go_num, HR2.out⟩
                case measure => simp [intOf]; omega
              · have hE1 : (er == 0) = false := by simpa using hE
                have hFs := HFs.out hE
                clear HFs hE
                cases hFs
                go_wp2_with fail
                refine region_quiet_tailC (C := fun W => Kept No W7 W) 19 (by kernel_rfl) (by kernel_rfl) ((Kept.refl _ _).drew) ?_
                simp only [List.take_succ_cons, List.take_zero, List.drop_succ_cons, List.drop_zero]
                refine q_op (.slice (some ⟨b, off, none⟩) L.length cap) (by kernel_rfl) (fun W hW => by simp [go_sem]) ?_
                try simp only [Act.put, List.setIfInBounds_toArray, List.set_cons_zero, List.set_cons_succ]
                refine q_op (.int .i64 (j : Int)) (by kernel_rfl) (fun W hW => by simp [go_sem]) ?_
                try simp only [Act.put, List.setIfInBounds_toArray, List.set_cons_zero, List.set_cons_succ]
                refine q_op (.pointer (some ⟨b, off + j * 6, none⟩)) (by kernel_rfl) (fun W hW => by simp [go_sem, k1, k2]) ?_
                try simp only [Act.put, List.setIfInBounds_toArray, List.set_cons_zero, List.set_cons_succ]
                refine q_op (.pointer (some ⟨b, off + j * 6, none⟩)) (by kernel_rfl) (fun W hW => by simp [go_sem]) ?_
                try simp only [Act.put, List.setIfInBounds_toArray, List.set_cons_zero, List.set_cons_succ]
                refine q_op (.int .i64 1) (by kernel_rfl) (fun W hW => by obtain ⟨r0, r1, r2, r3, r4⟩ := HDr.out W hW; simp [go_sem, r0]) ?_
                try simp only [Act.put, List.setIfInBounds_toArray, List.set_cons_zero, List.set_cons_succ]
                refine q_op (.bool false) (by kernel_rfl) (fun W hW => by simp [go_sem, hkd']) ?_
                try simp only [Act.put, List.setIfInBounds_toArray, List.set_cons_zero, List.set_cons_succ]
                refine q_op (.bool false) (by kernel_rfl) (fun W hW => by simp [go_sem]) ?_
                try simp only [Act.put, List.setIfInBounds_toArray, List.set_cons_zero, List.set_cons_succ]
                refine q_op (MP w.heap.size) (by kernel_rfl) (fun W hW => by simp [go_sem]) ?_
                try simp only [Act.put, List.setIfInBounds_toArray, List.set_cons_zero, List.set_cons_succ]
                refine q_op (MI w.heap.size) (by kernel_rfl) (fun W hW => by simp [go_sem]) ?_
                try simp only [Act.put, List.setIfInBounds_toArray, List.set_cons_zero, List.set_cons_succ]
                refine q_op (.slice (some ⟨b, off, none⟩) L.length cap) (by kernel_rfl) (fun W hW => by simp [go_sem]) ?_
                try simp only [Act.put, List.setIfInBounds_toArray, List.set_cons_zero, List.set_cons_succ]
                refine q_op (.int .i64 (j : Int)) (by kernel_rfl) (fun W hW => by simp [go_sem]) ?_
                try simp only [Act.put, List.setIfInBounds_toArray, List.set_cons_zero, List.set_cons_succ]
                refine q_op (.pointer (some ⟨b, off + j * 6, none⟩)) (by kernel_rfl) (fun W hW => by simp [go_sem, k1, k2]) ?_
                try simp only [Act.put, List.setIfInBounds_toArray, List.set_cons_zero, List.set_cons_succ]
                refine q_op (.pointer (some ⟨b, off + j * 6 + 1, none⟩)) (by kernel_rfl) (fun W hW => by simp [go_sem]) ?_
                try simp only [Act.put, List.setIfInBounds_toArray, List.set_cons_zero, List.set_cons_succ]
                refine q_op (AV x1 x2) (by kernel_rfl) (fun W hW => by obtain ⟨r0, r1, r2, r3, r4⟩ := HDr.out W hW; simp [go_sem, r1, r2]) ?_
                try simp only [Act.put, List.setIfInBounds_toArray, List.set_cons_zero, List.set_cons_succ]
                refine q_op (.slice (some ⟨b, off, none⟩) L.length cap) (by kernel_rfl) (fun W hW => by simp [go_sem]) ?_
                try simp only [Act.put, List.setIfInBounds_toArray, List.set_cons_zero, List.set_cons_succ]
                refine q_op (.int .i64 (j : Int)) (by kernel_rfl) (fun W hW => by simp [go_sem]) ?_
                try simp only [Act.put, List.setIfInBounds_toArray, List.set_cons_zero, List.set_cons_succ]
                refine q_op (.pointer (some ⟨b, off + j * 6, none⟩)) (by kernel_rfl) (fun W hW => by simp [go_sem, k1, k2]) ?_
                try simp only [Act.put, List.setIfInBounds_toArray, List.set_cons_zero, List.set_cons_succ]
                refine q_op (.pointer (some ⟨b, off + j * 6 + 3, none⟩)) (by kernel_rfl) (fun W hW => by simp [go_sem]) ?_
                try simp only [Act.put, List.setIfInBounds_toArray, List.set_cons_zero, List.set_cons_succ]
                refine q_op (AV y1 y2) (by kernel_rfl) (fun W hW => by obtain ⟨r0, r1, r2, r3, r4⟩ := HDr.out W hW; simp [go_sem, r3, r4]) ?_
                try simp only [Act.put, List.setIfInBounds_toArray, List.set_cons_zero, List.set_cons_succ]
                refine wpQuiet_nil ?_
                intro W8 hk8
                go_wp2_with fail
                refine (HS.out _ hk8).mono ?_
                rintro e w3x ⟨rfl, h3⟩
                have H3 : Hid (Re w w3x w.heap.size most a n sl (500 * (j + 1)) ∧ VRow w3x w.heap.size (.slice ao2 q c2) (slotsTo sl q)) := h3
                clear h3 hk8
                go_wp2_with fail
                refine (no_any er _).mono ?_
                rintro e w3 ⟨rfl, rfl⟩
                clear HS HD HDr d0 d1 d2 d3 d4
                have HTail : Hid (∀ W, Kept No w3 W → ReS w W w.heap.size most (playR most (L.take (j + 1))) (500 * (j + 1))) := fun W hW => by
                  show Re _ _ _ _ _ _ _ _
                  rw [HPn.out]; exact H3.out.1.no hW
                clear HPn
                have HA2 : Hid (Calls Try.prog 25 #[MP w.heap.size] w3 fun e w' => e = .returned (.int .i64 a) ∧ w3 = w') := H3.out.1.array
                have HN2 : Hid (Calls Try.prog 26 #[MP w.heap.size] w3 fun e w' => e = .returned (.int .i64 n) ∧ w3 = w') := H3.out.1.nodes
                have hna : ((a : Int) != (a : Int)) = false := by simp
                have hnn : ((n : Int) != (n : Int)) = false := by simp
                go_wp2_with (first | (go_at_call 25; refine Calls.mono HA2.out ?_; rintro e w' ⟨rfl, rfl⟩) | (go_at_call 26; refine Calls.mono HN2.out ?_; rintro e w' ⟨rfl, rfl⟩))
                clear HA2 HN2 hna hnn hE1 kq
                go_loopw [11] (fun i wr => ∃ p : Nat, p ≤ q ∧ i = .int .i64 p ∧ Hid (Kept No w3 wr)) (fun i _ => q - (intOf i).toNat)
                case atStart => exact ⟨0, Nat.zero_le _, rfl, Kept.refl _ _⟩
                case round =>
                  obtain ⟨p, hp, rfl, HKp⟩ := hrel
                  by_cases hlp : p < q
                  · have kp0 : (0 : Int) ≤ (p : Int) := by omega
                    have kp : (p : Int) < (q : Int) := by omega
                    have hqq : q ≤ 300000 := by have := HTT.out; omega
                    obtain ⟨g, hg⟩ : ∃ g, sl (p : Int) = g := ⟨_, rfl⟩
                    have hat := (H3.out.2.no HKp.out).at (slotsTo_at sl hlp)
                    rw [hg] at hat
                    obtain ⟨b2, c3, h1, g0, g1'⟩ := hat
                    injection h1 with e1 e2 e3
                    have HSl : Hid (∀ W, Kept No wr W → Calls Try.prog 27 #[MP w.heap.size, .int .i64 (p : Int)] W fun e w' => e = .returned (iV g) ∧ Kept No wr w') := fun W hW => (((H3.out.1.no HKp.out).no hW).slot (p : Int) (wf_of (by omega) (by omega)) g hg).mono (fun e w' hh => ⟨hh.1, hW.trans hh.2⟩)
                    clear hg e2 e3
                    subst e1
                    obtain ⟨g1, g2⟩ := g
                    simp only at g0 g1'
                    have HCc : Hid (∀ W, Kept No wr W → W.cell? ⟨b2, p * 2, none⟩ = some (.int .i64 g1) ∧ W.cell? ⟨b2, p * 2 + 1, none⟩ = some (.int .i64 g2)) := fun W hW => ⟨hW.cell g0, hW.cell g1'⟩
                    have heq : ∀ w, (Op.equalIn 10000 33 (.agg #[.int .i64 g1, .int .i64 g2]) (.agg #[.int .i64 g1, .int .i64 g2])).run Try.prog w = .ok true w := fun w => (eq33 g1 g2 g1 g2 w).trans (by simp)
                    go_wp2_with fail
                    go_region_held3 (fun w' => w'.cell? ⟨b2, p * 2, none⟩ = some (.int .i64 g1) ∧ w'.cell? ⟨b2, p * 2 + 1, none⟩ = some (.int .i64 g2)) (go_keep)
                      (first | (go_at_call 27; refine (HSl.out _ ((Kept.refl _ _).drew)).mono ?_; rintro e w5 ⟨rfl, h5⟩; have H5 : Hid (Kept No w3 w5) := HKp.out.trans h5; have q1 := (HCc.out _ ((Kept.refl No wr).drew)); have q2 := HCc.out w5 h5; clear h5))
                    clear HSl HCc g0 g1'
                    go_wp2
                    go_roundw
                    case rel => exact ⟨p + 1, by omega, by go_num, H5.out⟩
                    case measure => simp [intOf]; omega
                  · have kp : ¬ (p : Int) < (q : Int) := by omega
                    have HR2 : Hid (ReS w wr w.heap.size most (playR most (L.take (j + 1))) (500 * (j + 1))) := HTail.out _ HKp.out
                    clear HTail HKp H3
                    go_wp2
                    go_roundw
                    case rel => exact ⟨j + 1, by omega, by omega, by go_num, HR2.out⟩
                    case measure => simp [intOf]; omega
            · have hkd' : (kd == 1) = false := by simpa using hkd
              have hkd2 : (kd != 1) = true := by simpa using hkd
              have HR2 : Hid (∀ W, Kept No W7 W → ReS w W w.heap.size most (playR most (L.take (j + 1))) (500 * (j + 1))) := fun W hW => by
                have e : playR most (L.take (j + 1)) = (a, n, sl) := by rw [HX.out]; unfold stepR; rw [if_neg hkd]
                show Re _ _ _ _ _ _ _ _
                rw [e]
                obtain ⟨nn, hb, ht⟩ := (HV.out.2.no hW).tb
                exact ⟨⟨nn, by omega, ht⟩, (HV.out.2.no hW).fp, (HV.out.2.no hW).kp, (HV.out.2.no hW).is⟩
              obtain ⟨d0, d1, d2, d3, d4⟩ := HD.out _ HV.out.2.kp
              have HDr : Hid (∀ W, Kept No W7 W → W.cell? ⟨b, off + j * 6, none⟩ = some (.int .i64 kd) ∧ W.cell? ⟨b, off + j * 6 + 1, none⟩ = some (.int .i64 x1) ∧ W.cell? ⟨b, off + j * 6 + 2, none⟩ = some (.int .i64 x2) ∧ W.cell? ⟨b, off + j * 6 + 3, none⟩ = some (.int .i64 y1) ∧ W.cell? ⟨b, off + j * 6 + 4, none⟩ = some (.int .i64 y2)) := fun W hW => HD.out W (HV.out.2.kp.trans hW)
              clear HX HV d1 d2 d3 d4 hkd HDr
              go_wp2_with fail
              go_quiet (fail)
              have HR3 : Hid (ReS w (W7.drewN nq) w.heap.size most (playR most (L.take (j + 1))) (500 * (j + 1))) := HR2.out _ ((Kept.refl _ _).drewN nq)
              clear HR2
              go_wp2
              go_roundw
              case rel => exact ⟨j + 1, by omega, by omega, by go_num, HR3.out⟩
              case measure => simp [intOf]; omega
      · have k3 : ¬ (j : Int) < 80 := by omega
        have HF : Hid (Kept No w wr) := HP.out.kp
        have hfit := play_fits most L j
        generalize playR most (L.take j) = s at HP hfit
        obtain ⟨a, n, sl⟩ := s
        simp only at hfit
        obtain ⟨hbd1, hbd2⟩ : a ≤ 100000 ∧ n ≤ 100000 := by obtain ⟨nn, _, ht⟩ := HP.out.tb; exact ht.bd
        have HA1 : Hid (Calls Try.prog 25 #[MP w.heap.size] wr fun e w' => e = .returned (.int .i64 a) ∧ wr = w') := HP.out.array
        have HN1 : Hid (Calls Try.prog 26 #[MP w.heap.size] wr fun e w' => e = .returned (.int .i64 n) ∧ wr = w') := HP.out.nodes
        clear HP
        have hmx : (a : Int) + 2 * (n : Int) ≤ max most 0 := by split at hfit <;> omega
        clear hfit
        go_wp2_with (first | (go_at_call 25; refine Calls.mono HA1.out ?_; rintro e w' ⟨rfl, rfl⟩) | (go_at_call 26; refine Calls.mono HN1.out ?_; rintro e w' ⟨rfl, rfl⟩))
        go_ret
        exact ⟨rfl, HF.out⟩
    · have k2 : ¬ (j : Int) < (L.length : Int) := by omega
      have HF : Hid (Kept No w wr) := HP.out.kp
      have hfit := play_fits most L j
      generalize playR most (L.take j) = s at HP hfit
      obtain ⟨a, n, sl⟩ := s
      simp only at hfit
      obtain ⟨hbd1, hbd2⟩ : a ≤ 100000 ∧ n ≤ 100000 := by obtain ⟨nn, _, ht⟩ := HP.out.tb; exact ht.bd
      have HA1 : Hid (Calls Try.prog 25 #[MP w.heap.size] wr fun e w' => e = .returned (.int .i64 a) ∧ wr = w') := HP.out.array
      have HN1 : Hid (Calls Try.prog 26 #[MP w.heap.size] wr fun e w' => e = .returned (.int .i64 n) ∧ wr = w') := HP.out.nodes
      clear HP
      have hmx : (a : Int) + 2 * (n : Int) ≤ max most 0 := by split at hfit <;> omega
      clear hfit
      go_wp2_with (first | (go_at_call 25; refine Calls.mono HA1.out ?_; rintro e w' ⟨rfl, rfl⟩) | (go_at_call 26; refine Calls.mono HN1.out ?_; rintro e w' ⟨rfl, rfl⟩))
      go_ret
      exact ⟨rfl, HF.out⟩
end Go.Proofs.Ythefmfjlinpepaa
