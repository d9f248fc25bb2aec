/- AgesFresh. -/
import Derived.Test.YtnihfakhijjjkaaD3
namespace Go.Proofs.Ytnihfakhijjjkaa
open Go.RowKit
set_option linter.unusedSimpArgs false
set_option linter.unusedVariables false

set_option maxRecDepth 20000 in
set_option maxHeartbeats 8000000 in
theorem AgesFresh_inc {w : World} {md ph wh : Int} {so go ao po : Option Addr} {sc gn gc an ac pn pc : Nat} {S : List Sn} (hS : RdS w (.slice so S.length sc) S) (hn : S.length ≤ 140737488355328) (han : an ≤ 140737488355328) (hs : ∀ s ∈ S, s.sl.length ≤ 140737488355328) (hw : ∀ s ∈ S, wf s.kind ∧ ∀ q ∈ s.sl, wf q.1 ∧ wf q.2) :
    Calls Try.prog 5 #[AW md ph wh so S.length sc go gn gc ao an ac po pn pc, .bool false] w fun e w' => e = .returned (.bool true) ∧ Kept No w w' := by
  have HA : Hid (∀ W, Calls Try.prog 15 #[] W fun e w' => e = .returned (.bool true) ∧ Kept No W w') := fun W => alive_any W
  have HS : Hid (RdS w (.slice so S.length sc) S) := hS
  have HWf : Hid (∀ s ∈ S, wf s.kind ∧ ∀ q ∈ s.sl, wf q.1 ∧ wf q.2) := hw
  obtain ⟨W, HWd⟩ : ∃ W, Hid (W = w.alloc (BV md ph wh (.slice so S.length sc) (.slice go gn gc) (.slice ao an ac) (.slice po pn pc))) := ⟨_, rfl⟩
  have hkW : Kept No w W := by rw [HWd.out]; exact (Kept.refl _ _).alloc _
  have hv : W.heap[w.heap.size]? = some (BV md ph wh (.slice so S.length sc) (.slice go gn gc) (.slice ao an ac) (.slice po pn pc)) := by rw [HWd.out]; exact World.alloc_heap_new w _
  have HKW : Hid (Kept No w W) := hkW
  have HV : Hid _ := hv
  have f0 : W.cell? ⟨w.heap.size, 0, none⟩ = some (.int .i64 md) := by rw [cell_of hv]; rfl
  have f1 : W.cell? ⟨w.heap.size, 1, none⟩ = some (.int .i64 ph) := by rw [cell_of hv]; rfl
  have f2 : W.cell? ⟨w.heap.size, 2, none⟩ = some (.int .i64 wh) := by rw [cell_of hv]; rfl
  have f3 : W.cell? ⟨w.heap.size, 3, none⟩ = some (.slice so S.length sc) := by rw [cell_of hv]; rfl
  have f4 : W.cell? ⟨w.heap.size, 4, none⟩ = some (.slice go gn gc) := by rw [cell_of hv]; rfl
  have f5 : W.cell? ⟨w.heap.size, 5, none⟩ = some (.slice ao an ac) := by rw [cell_of hv]; rfl
  have f6 : W.cell? ⟨w.heap.size, 6, none⟩ = some (.slice po pn pc) := by rw [cell_of hv]; rfl
  have HSm : Hid _ := small_any (md := md) (ph := ph) (wh := wh) (go := go) (gn := gn) (gc := gc) (ao := ao) (ac := ac) (po := po) (pn := pn) (pc := pc) (HS.out.no HKW.out) hn han hs
  have HBd : Hid (smallB S an = true → S.length ≤ 60 ∧ ∀ s ∈ S, s.sl.length ≤ 600) := small_bd
  have HR : Hid (∀ j (hj : j < S.length), ∃ b off sa sc', so = some ⟨b, off, none⟩ ∧ ∀ W', Kept No w W' → W'.cell? ⟨b, off + j * 8, none⟩ = some (.int .i64 S[j].h) ∧ W'.cell? ⟨b, off + j * 8 + 1, none⟩ = some (.int .i64 S[j].kind) ∧ W'.cell? ⟨b, off + j * 8 + 4, none⟩ = some (.slice sa S[j].sl.length sc') ∧ RdV W' (.slice sa S[j].sl.length sc') S[j].sl) := fun j hj => by
    obtain ⟨ao', cap', e, h⟩ := HS.out
    injection e with e1 e2 e3
    subst e1
    obtain ⟨b, off, sv, e1, h0, h1, h2, h3, h4, h5, h6, h7, h8⟩ := h j hj
    obtain ⟨sa, sc', rfl, h9⟩ := h8
    refine ⟨b, off, sa, sc', e1, fun W' hk => ?_⟩
    have e3 : ∀ o, W'.cell? ⟨b, o, none⟩ = w.cell? ⟨b, o, none⟩ := fun o => World.cell?_of_block (hk.block b (cell_blk h0).1 id)
    exact ⟨by rw [e3]; exact h0, by rw [e3]; exact h1, by rw [e3]; exact h4, RdV.no ⟨sa, sc', rfl, h9⟩ hk⟩
  obtain ⟨sm, HSe⟩ : ∃ sm, Hid (smallB S an = sm) := ⟨_, rfl⟩
  rw [HSe.out] at HSm HBd
  clear hkW hv hS hs hw hn han HSe
  go_enter Try.func5, Try.ntmps5
  go_wp2_with (first | rw [← HWd.out])
  go_at_call 16
  refine Calls.mono HSm.out ?_
  rintro e w1 ⟨rfl, hk1⟩
  have HK1 : Hid (Kept No w w1) := HKW.out.trans hk1
  have HV1 : Hid (w1.heap[w.heap.size]? = some (BV md ph wh (.slice so S.length sc) (.slice go gn gc) (.slice ao an ac) (.slice po pn pc))) := hk1.heap HV.out id
  clear hk1 HSm f0 f1 f2 f3 f4 f5 f6 HV HKW HWd
  cases sm
  case false =>
    go_wp2_with fail
    go_at_call 15
    refine Calls.mono (HA.out _) ?_
    rintro e w2 ⟨rfl, hk2⟩
    have HK2 : Hid (Kept No w w2) := HK1.out.trans hk2
    clear hk2
    go_wp2
    go_ret
    exact ⟨rfl, HK2.out⟩
  case true =>
  have hn60 := (HBd.out rfl).1
  have HLe : Hid (∀ s ∈ S, s.sl.length ≤ 600) := (HBd.out rfl).2
  clear HBd
  obtain ⟨W2, HW2⟩ : ∃ W2, Hid (W2 = w1.alloc (BV 0 0 1 (.slice none 0 0) (.slice none 0 0) (.slice none 0 0) (.slice none 0 0))) := ⟨_, rfl⟩
  have hk2 : Kept No w1 W2 := by rw [HW2.out]; exact (Kept.refl _ _).alloc _
  have hb2 : W2.heap[w1.heap.size]? = some (BV 0 0 1 (.slice none 0 0) (.slice none 0 0) (.slice none 0 0) (.slice none 0 0)) := by rw [HW2.out]; exact World.alloc_heap_new w1 _
  have m0 : W2.cell? ⟨w1.heap.size, 0, none⟩ = some (.int .i64 0) := by rw [cell_of hb2]; rfl
  have z0 : W2.frozen? ⟨w1.heap.size, 0, none⟩ = false := frozen_of hb2 _
  have hlt0 : w.heap.size < w1.heap.size := hp_lt HV1.out
  have HB2 : Hid (W2.heap[w1.heap.size]? = some (BV 0 0 1 (.slice none 0 0) (.slice none 0 0) (.slice none 0 0) (.slice none 0 0)) ∧ W2.heap[w.heap.size]? = some (BV md ph wh (.slice so S.length sc) (.slice go gn gc) (.slice ao an ac) (.slice po pn pc)) ∧ Kept No w W2 ∧ w.heap.size < w1.heap.size) := ⟨hb2, hk2.heap HV1.out id, HK1.out.trans hk2, hlt0⟩
  clear hk2 hb2 HK1 HV1 hlt0
  · obtain ⟨X0, mdv, vb, HX0, HMd, e0, e1⟩ : ∃ (X0 : World) (mdv : Int) (vb : Nat), Hid (Kept No w X0 ∧ X0.heap[w.heap.size]? = some (BV md ph wh (.slice so S.length sc) (.slice go gn gc) (.slice ao an ac) (.slice po pn pc)) ∧ X0.heap[vb]? = some (BV mdv 0 1 (.slice none 0 0) (.slice none 0 0) (.slice none 0 0) (.slice none 0 0)) ∧ w.heap.size < vb) ∧ Hid (mdv = 0 ∨ mdv = 1) ∧ X0 = W2 ∧ vb = w1.heap.size := ⟨W2, 0, w1.heap.size, ⟨HB2.out.2.2.1, HB2.out.2.1, HB2.out.1, HB2.out.2.2.2⟩, .inl rfl, rfl, rfl⟩
    go_wp2_with (first | rw [← HW2.out])
    rw [← e0, ← e1]
    clear e0 e1 m0 z0 HB2 HW2
    go_loopw [6, 7, 18, 19, 20, 21, 22, 23, 24, 25, 26, 27, 28, 29, 30, 31, 32, 33, 34, 35, 36, 37, 38, 39, 40, 41] (fun i _ _ _ _ _ _ _ _ _ _ _ _ _ _ _ _ _ _ _ _ _ _ _ _ _ wr => ∃ (j : Nat) (sv : Value), j ≤ S.length ∧ i = .int .i64 j ∧ Hid (Kept No w wr ∧ wr.heap[w.heap.size]? = some (BV md ph wh (.slice so S.length sc) (.slice go gn gc) (.slice ao an ac) (.slice po pn pc)) ∧ wr.heap[vb]? = some (BV mdv 0 1 sv (.slice none 0 0) (.slice none 0 0) (.slice none 0 0)) ∧ SRow wr X0.heap.size sv (firsts S j) ∧ X0.heap.size ≤ wr.heap.size)) (fun i _ _ _ _ _ _ _ _ _ _ _ _ _ _ _ _ _ _ _ _ _ _ _ _ _ _ => S.length - (intOf i).toNat)
    case atStart => exact ⟨0, _, by omega, rfl, HX0.out.1, HX0.out.2.1, HX0.out.2.2.1, SRow.nil _ _, Nat.le_refl _⟩
    case round =>
      obtain ⟨j, sv, hj, rfl, HJ⟩ := hrel
      obtain ⟨sao, scap, rfl⟩ := HJ.out.2.2.2.1.form
      have hfl : (firsts S j).length = j := by simp [firsts]
      rw [hfl] at HJ
      clear hfl
      have i3 : wr.cell? ⟨w.heap.size, 3, none⟩ = some (.slice so S.length sc) := by rw [cell_of HJ.out.2.1]; rfl
      have v3 : wr.cell? ⟨vb, 3, none⟩ = some (.slice sao j scap) := by rw [cell_of HJ.out.2.2.1]; rfl
      by_cases hlt : j < S.length
      · have k1 : (j : Int) < (S.length : Int) := by omega
        obtain ⟨b, off, sa, sc', hso, hall⟩ := HR.out j hlt
        rw [hso] at i3
        clear hso
        have r1 := (hall wr HJ.out.1).2.1
        have HFs : Hid (firsts S (j + 1) = firsts S j ++ [((j : Int) + 1, S[j].kind)]) := firsts_succ hlt
        clear hall
        generalize S[j].kind = kk at r1 HFs
        have HSR : Hid (SRow wr X0.heap.size (.slice sao j scap) (firsts S j)) := HJ.out.2.2.2.1
        have hjn : j + 1 ≤ 1000000 := by omega
        go_wp2_with (refine app_sn rfl (.tmp 33) (.tmp 39) rfl X0.heap.size (.slice sao j scap) (firsts S j) rfl (World.ownsRow.alloc HSR.out _) wr.heap.size ((j : Int) + 1, kk) rfl (World.alloc_heap_new wr _) (by simp [firsts]; omega) (by rw [World.size_alloc]; have := HJ.out.2.2.2.2; omega) ?_)
        intro v' w' HR' HG'
        have hvb : w'.heap[vb]? = some (BV mdv 0 1 (.slice sao j scap) (.slice none 0 0) (.slice none 0 0) (.slice none 0 0)) := by
          rw [HG'.out.block vb (by rw [World.size_alloc]; have := hp_lt HJ.out.2.2.1; omega) (fun e => ?_)]
          · exact (Below.heap_alloc wr _ _ (hp_lt HJ.out.2.2.1)).trans HJ.out.2.2.1
          · obtain ⟨_, c, hc⟩ := HSR.out.block e.symm
            rw [HJ.out.2.2.1] at hc; cases hc
        have hib : w'.heap[w.heap.size]? = some (BV md ph wh (.slice so S.length sc) (.slice go gn gc) (.slice ao an ac) (.slice po pn pc)) := by
          rw [HG'.out.block w.heap.size (by rw [World.size_alloc]; have := hp_lt HJ.out.2.1; omega) (fun e => ?_)]
          · exact (Below.heap_alloc wr _ _ (hp_lt HJ.out.2.1)).trans HJ.out.2.1
          · obtain ⟨_, c, hc⟩ := HSR.out.block e.symm
            rw [HJ.out.2.1] at hc; cases hc
        have hkw : Kept No w w' := (HJ.out.1.alloc _).grown HG'.out (fun k e => .inr (by have := (HSR.out.block e).1; have := HX0.out.1.size; omega))
        have hsz : X0.heap.size ≤ w'.heap.size := by have := HG'.out.size; rw [World.size_alloc] at this; have := HJ.out.2.2.2.2; omega
        obtain ⟨vo, vc, rfl⟩ := HR'.out.form
        have v3' : w'.cell? ⟨vb, 3, none⟩ = some (.slice sao j scap) := by rw [cell_of hvb]; rfl
        have z3' : w'.frozen? ⟨vb, 3, none⟩ = false := frozen_of hvb _
        rw [← HFs.out] at HR'
        have hll : (firsts S j ++ [((j : Int) + 1, kk)]).length = j + 1 := by simp [firsts]
        have hl2 : (firsts S (j + 1)).length = j + 1 := by simp [firsts]
        rw [hl2] at HR'
        rw [hll]
        have HE : Hid (Kept No w (w'.setCell ⟨vb, 3, none⟩ (.slice vo (j + 1) vc)) ∧ (w'.setCell ⟨vb, 3, none⟩ (.slice vo (j + 1) vc)).heap[w.heap.size]? = some (BV md ph wh (.slice so S.length sc) (.slice go gn gc) (.slice ao an ac) (.slice po pn pc)) ∧ (w'.setCell ⟨vb, 3, none⟩ (.slice vo (j + 1) vc)).heap[vb]? = some (BV mdv 0 1 (.slice vo (j + 1) vc) (.slice none 0 0) (.slice none 0 0) (.slice none 0 0)) ∧ SRow (w'.setCell ⟨vb, 3, none⟩ (.slice vo (j + 1) vc)) X0.heap.size (.slice vo (j + 1) vc) (firsts S (j + 1)) ∧ X0.heap.size ≤ (w'.setCell ⟨vb, 3, none⟩ (.slice vo (j + 1) vc)).heap.size) := by
          have hne := HX0.out.2.2.2
          refine ⟨hkw.set _ _ _ (.inr (by omega)), hp_set_other hib _ _ (by omega), hp_set_same hvb _ _, HR'.out.turn (fun k e => ?_), by simpa [World.setCell] using hsz⟩
          obtain ⟨_, c, hc⟩ := HR'.out.block e
          refine Below.heap_setCell _ _ _ _ ?_
          rintro rfl
          rw [hvb] at hc; cases hc
        clear hvb hib hkw hsz hll hl2 HR' HG' HSR HFs i3 v3 r1
        go_wp2_with fail
        go_roundw
        case rel => exact ⟨j + 1, _, by omega, by go_num, HE.out⟩
        case measure => simp [intOf]; omega
      · have k1 : ¬ (j : Int) < (S.length : Int) := by omega
        obtain rfl : j = S.length := by omega
        obtain ⟨X1, hX1⟩ : ∃ X1, X1 = wr := ⟨_, rfl⟩
        subst hX1
        by_cases hz : S.length = 0
        · have HVx : Hid (X1.heap[vb]? = some (BV mdv 0 1 (.slice sao S.length scap) (.slice none 0 0) (.slice none 0 0) (.slice none 0 0))) := HJ.out.2.2.1
          have HKe : Hid (Kept No w X1) := HJ.out.1
          have HRe : Hid (RdS X1 (.slice sao S.length scap) (freshS S)) := ⟨sao, scap, by rw [fresh_len], fun j hj => by rw [fresh_len] at hj; omega⟩
          have k0 : ¬ (0 : Int) < (S.length : Int) := by omega
          have k2 : (S.length : Int) = 0 := by omega
          clear HJ hj hlt hz
          go_wp2_with fail
          go_loopw [8, 9, 10, 42, 43, 44, 45, 46, 47, 48, 49, 50, 51, 52, 53, 54, 55, 56, 57, 58, 59, 60, 61, 62, 63, 64, 65, 66, 67, 68, 69, 70, 71, 72, 73, 74, 75, 76, 77, 78, 79, 80, 81, 82, 83, 84, 85, 86, 87, 88, 89, 90, 91, 92, 93, 94, 95, 96, 97, 98, 99, 100, 101, 102, 103, 104, 105, 106, 107, 108, 109, 110, 111, 112, 113, 114, 115, 116, 117, 118, 119, 120, 121, 122] (fun i _ _ _ _ _ _ _ _ _ _ _ _ _ _ _ _ _ _ _ _ _ _ _ _ _ _ _ _ _ _ _ _ _ _ _ _ _ _ _ _ _ _ _ _ _ _ _ _ _ _ _ _ _ _ _ _ _ _ _ _ _ _ _ _ _ _ _ _ _ _ _ _ _ _ _ _ _ _ _ _ _ _ _ wr => i = .int .i64 0 ∧ wr = X1) (fun i _ _ _ _ _ _ _ _ _ _ _ _ _ _ _ _ _ _ _ _ _ _ _ _ _ _ _ _ _ _ _ _ _ _ _ _ _ _ _ _ _ _ _ _ _ _ _ _ _ _ _ _ _ _ _ _ _ _ _ _ _ _ _ _ _ _ _ _ _ _ _ _ _ _ _ _ _ _ _ _ _ _ _ _ => 0)
          case atStart => exact ⟨rfl, rfl⟩
          case round =>
            obtain ⟨rfl, rfl⟩ := hrel
            obtain ⟨Xe, fo, hXe, hfo⟩ : ∃ Xe fo, Xe = wr ∧ fo = sao := ⟨_, _, rfl, rfl⟩
            subst hXe hfo
            clear k1
            have f0 : Xe.cell? ⟨vb, 0, none⟩ = some (.int .i64 mdv) := by rw [cell_of HVx.out]; rfl
            have f1 : Xe.cell? ⟨vb, 1, none⟩ = some (.int .i64 0) := by rw [cell_of HVx.out]; rfl
            have f2 : Xe.cell? ⟨vb, 2, none⟩ = some (.int .i64 1) := by rw [cell_of HVx.out]; rfl
            have f3 : Xe.cell? ⟨vb, 3, none⟩ = some (.slice fo S.length scap) := by rw [cell_of HVx.out]; rfl
            have f4 : Xe.cell? ⟨vb, 4, none⟩ = some (.slice none 0 0) := by rw [cell_of HVx.out]; rfl
            have f5 : Xe.cell? ⟨vb, 5, none⟩ = some (.slice none 0 0) := by rw [cell_of HVx.out]; rfl
            have f6 : Xe.cell? ⟨vb, 6, none⟩ = some (.slice none 0 0) := by rw [cell_of HVx.out]; rfl
            have HAu : Hid _ := Audit_fresh HMd.out HRe.out hn60 HLe.out HWf.out
            clear HVx HRe
            go_wp2_with fail
            go_at_call 17
            refine Calls.mono HAu.out ?_
            rintro e w9 ⟨vo9, vc9, rfl, hk9⟩
            have HK9 : Hid (Kept No w w9) := HKe.out.trans hk9
            clear hk9 HAu HKe f0 f1 f2 f3 f4 f5 f6
            go_wp2_with fail
            go_at_call 15
            refine Calls.mono (HA.out _) ?_
            rintro e wA ⟨rfl, hkA⟩
            have HKA : Hid (Kept No w wA) := HK9.out.trans hkA
            clear hkA HK9
            go_wp2
            go_ret
            exact ⟨rfl, HKA.out⟩
        · obtain ⟨rb, hrb⟩ : ∃ rb, sao = some ⟨rb, 0, none⟩ := by
            rcases HJ.out.2.2.2.1.2 with ⟨e, h0⟩ | ⟨g, cap, cur, e, _⟩
            · have hfl : (firsts S S.length).length = S.length := by simp [firsts]
              rw [hfl] at h0; omega
            · injection e with e1; exact ⟨g, e1⟩
          subst hrb
          have HSt0 : Hid (St w (BV md ph wh (.slice so S.length sc) (.slice go gn gc) (.slice ao an ac) (.slice po pn pc)) vb rb scap mdv S 0 X1.heap.size X1 (fun _ => .slice none 0 0) []) := by
            have hP : (firsts S S.length).length = S.length := by simp [firsts]
            have hsr : SRow X1 X0.heap.size (.slice (some ⟨rb, 0, none⟩) (firsts S S.length).length scap) (firsts S S.length) := by rw [hP]; exact HJ.out.2.2.2.1
            have hfs := SRow.fs (kd := fun j => (snAt S j).kind) hsr (fun j hj => by simp [firsts]) (by omega)
            rw [hP] at hfs
            have hlo := (hsr.block (k := rb) rfl).1
            have h1 := hp_lt HX0.out.2.2.1
            have h2 := HX0.out.2.2.2
            have h3 := hp_lt HJ.out.2.1
            exact ⟨HJ.out.1, HJ.out.2.1, HJ.out.2.2.1, hfs, fun j hj => absurd hj (by omega), URow.nil _ _, fun _ _ => rfl, Nat.le_refl _, by omega, h3⟩
          clear HJ hj hlt v3
          go_wp2_with fail
          clear i3
          go_loopw [8, 9, 10, 42, 43, 44, 45, 46, 47, 48, 49, 50, 51, 52, 53, 54, 55, 56, 57, 58, 59, 60, 61, 62, 63, 64, 65, 66, 67, 68, 69, 70, 71, 72, 73, 74, 75, 76, 77, 78, 79, 80, 81, 82, 83, 84, 85, 86, 87, 88, 89, 90, 91, 92, 93, 94, 95, 96, 97, 98, 99, 100, 101, 102, 103, 104, 105, 106, 107, 108, 109, 110, 111, 112, 113, 114, 115, 116, 117, 118, 119, 120, 121, 122] (fun i _ _ _ _ _ _ _ _ _ _ _ _ _ _ _ _ _ _ _ _ _ _ _ _ _ _ _ _ _ _ _ _ _ _ _ _ _ _ _ _ _ _ _ _ _ _ _ _ _ _ _ _ _ _ _ _ _ _ _ _ _ _ _ _ _ _ _ _ _ _ _ _ _ _ _ _ _ _ _ _ _ _ _ wr => ∃ ii : Nat, ii ≤ S.length ∧ i = .int .i64 ii ∧ Hid (∃ vs Bi, St w (BV md ph wh (.slice so S.length sc) (.slice go gn gc) (.slice ao an ac) (.slice po pn pc)) vb rb scap mdv S ii Bi wr vs [])) (fun i _ _ _ _ _ _ _ _ _ _ _ _ _ _ _ _ _ _ _ _ _ _ _ _ _ _ _ _ _ _ _ _ _ _ _ _ _ _ _ _ _ _ _ _ _ _ _ _ _ _ _ _ _ _ _ _ _ _ _ _ _ _ _ _ _ _ _ _ _ _ _ _ _ _ _ _ _ _ _ _ _ _ _ _ => S.length - (intOf i).toNat)
          case atStart => exact ⟨0, by omega, rfl, _, _, HSt0.out⟩
          case round =>
            clear HSt0
            obtain ⟨i, hi, rfl, HI⟩ := hrel
            obtain ⟨vs0, Bi, hst⟩ := HI.out
            have HSt : Hid (St w (BV md ph wh (.slice so S.length sc) (.slice go gn gc) (.slice ao an ac) (.slice po pn pc)) vb rb scap mdv S i Bi wr vs0 []) := hst
            clear hst HI
            have i3 : wr.cell? ⟨w.heap.size, 3, none⟩ = some (.slice so S.length sc) := by rw [cell_of HSt.out.ib]; rfl
            by_cases hlt : i < S.length
            · have ki : (i : Int) < (S.length : Int) := by omega
              obtain ⟨b, off, sa, sc', hso, hall⟩ := HR.out i hlt
              have HSo : Hid (so = some ⟨b, off, none⟩) := hso
              rw [hso] at i3
              clear hso
              have hle := HLe.out S[i] (List.getElem_mem hlt)
              have HSl : Hid (∀ W', Kept No w W' → W'.cell? ⟨b, off + i * 8 + 4, none⟩ = some (.slice sa S[i].sl.length sc') ∧ ∀ k, k < S[i].sl.length → ∃ b2 off2, sa = some ⟨b2, off2, none⟩ ∧ W'.cell? ⟨b2, off2 + k * 2, none⟩ = some (.int .i64 (S[i].sl.getD k (0, 0)).1) ∧ W'.cell? ⟨b2, off2 + k * 2 + 1, none⟩ = some (.int .i64 (S[i].sl.getD k (0, 0)).2)) := fun W' hk' => by
                obtain ⟨_, _, h4, ao9, cap9, e9, h9⟩ := hall W' hk'
                injection e9 with e9
                subst e9
                refine ⟨h4, fun k hk => ?_⟩
                have : S[i].sl.getD k (0, 0) = S[i].sl[k] := by simp [List.getD, hk]
                rw [this]; exact h9 k hk
              have HA0 : Hid ((snAt S i).sl.map (fixV S) = S[i].sl.map (fixV S)) := by show _ = _; rw [snAt_eq hlt]
              clear hall
              generalize S[i].sl = sl at HSl HA0 hle
              obtain ⟨ln, hln⟩ : ∃ ln, sl.length = ln := ⟨_, rfl⟩
              have HTake : Hid (∀ k, k < ln → (sl.map (fixV S)).take (k + 1) = (sl.map (fixV S)).take k ++ [fixV S (sl.getD k (0, 0))]) := fun k hk => by
                rw [List.take_succ_eq_append_getElem (by simp; omega), List.getElem_map]
                have : sl.getD k (0, 0) = sl[k] := by simp [List.getD, show k < sl.length by omega]
                rw [this]
              have HFull : Hid (∀ (_ : Unit), (sl.map (fixV S)).take ln = (snAt S i).sl.map (fixV S)) := fun _ => by
                rw [HA0.out, List.take_of_length_le (by simp; omega)]
              have hA : (sl.map (fixV S)).length = ln := by simp [hln]
              rw [hln] at HSl hle
              generalize sl.map (fixV S) = A0 at HTake HFull hA
              clear hln HA0
              have r4 := (HSl.out wr HSt.out.kp).1
              go_wp2_with fail
              clear r4 i3
              obtain ⟨wz, hwz⟩ : ∃ wz, wz = wr := ⟨_, rfl⟩
              subst hwz
              go_loopw [9, 10, 49, 50, 51, 52, 53, 54, 55, 56, 57, 58, 59, 60, 61, 62, 63, 64, 65, 66, 67, 68, 69, 70, 71, 72, 73, 74, 75, 76, 77, 78, 79, 80, 81, 82, 83, 84, 85, 86, 87, 88, 89, 90, 91, 92, 93, 94, 95, 96, 97, 98, 99, 100, 101, 102, 103, 104, 105, 106, 107, 108, 109, 110, 111, 112, 113, 114, 115, 116, 117, 118, 119, 120, 121, 122] (fun i_ _ _ _ _ _ _ _ _ _ _ _ _ _ _ _ _ _ _ _ _ _ _ _ _ _ _ _ _ _ _ _ _ _ _ _ _ _ _ _ _ _ _ _ _ _ _ _ _ _ _ _ _ _ _ _ _ _ _ _ _ _ _ _ _ _ _ _ _ _ _ _ _ _ _ _ wr => ∃ k : Nat, k ≤ ln ∧ i_ = .int .i64 k ∧ Hid (∃ vs, St w (BV md ph wh (.slice so S.length sc) (.slice go gn gc) (.slice ao an ac) (.slice po pn pc)) vb rb scap mdv S i Bi wr vs (A0.take k))) (fun i_ _ _ _ _ _ _ _ _ _ _ _ _ _ _ _ _ _ _ _ _ _ _ _ _ _ _ _ _ _ _ _ _ _ _ _ _ _ _ _ _ _ _ _ _ _ _ _ _ _ _ _ _ _ _ _ _ _ _ _ _ _ _ _ _ _ _ _ _ _ _ _ _ _ _ _ _ => ln - (intOf i_).toNat)
              case atStart => exact ⟨0, by omega, rfl, _, by rw [List.take_zero]; exact HSt.out⟩
              case round =>
                clear HSt
                obtain ⟨k, hk, rfl, HKk⟩ := hrel
                obtain ⟨vs, hsk⟩ := HKk.out
                have HSk : Hid (St w (BV md ph wh (.slice so S.length sc) (.slice go gn gc) (.slice ao an ac) (.slice po pn pc)) vb rb scap mdv S i Bi wr vs (A0.take k)) := hsk
                clear hsk HKk
                have i3 : wr.cell? ⟨w.heap.size, 3, none⟩ = some (.slice (some ⟨b, off, none⟩) S.length sc) := by rw [cell_of HSk.out.ib, ← HSo.out]; rfl
                have r4 := (HSl.out wr HSk.out.kp).1
                by_cases hlk : k < ln
                · have k1 : (k : Int) < (ln : Int) := by omega
                  obtain ⟨b2, off2, hsa, x0, x1⟩ := (HSl.out wr HSk.out.kp).2 k hlk
                  rw [hsa] at r4
                  clear hsa
                  have HTk0 : Hid (A0.take (k + 1) = A0.take k ++ [fixV S (sl.getD k (0, 0))]) := HTake.out k hlk
                  generalize sl.getD k (0, 0) = t at x0 x1 HTk0
                  obtain ⟨t1, t2⟩ := t
                  dsimp only at x0 x1
                  obtain ⟨W6, HW6⟩ : ∃ W6, Hid (W6 = wr.alloc (.cells #[.int .i64 t1, .int .i64 t2] 38)) := ⟨_, rfl⟩
                  have hk6 : Kept No wr W6 := by rw [HW6.out]; exact (Kept.refl _ _).alloc _
                  have hb6 : W6.heap[wr.heap.size]? = some (.cells #[.int .i64 t1, .int .i64 t2] 38 (0, 0)) := by rw [HW6.out]; exact World.alloc_heap_new wr _
                  have HK6s : Hid (St w (BV md ph wh (.slice so S.length sc) (.slice go gn gc) (.slice ao an ac) (.slice po pn pc)) vb rb scap mdv S i Bi W6 vs (A0.take k)) := HSk.out.no hk6
                  have v3 : W6.cell? ⟨vb, 3, none⟩ = some (.slice (some ⟨rb, 0, none⟩) S.length scap) := by rw [cell_of HK6s.out.vx]; rfl
                  have HXr : Hid (∀ g, (vs i).ownBlock = some g → g ≠ wr.heap.size) := fun g hg => by
                    obtain ⟨_, c, hc⟩ := HSk.out.row.block hg
                    exact Nat.ne_of_lt (hp_lt hc)
                  have HXb : Hid (wr.heap.size ≠ rb ∧ vb ≠ rb) := by
                    obtain ⟨c, hc⟩ := HSk.out.fs.typ
                    refine ⟨Nat.ne_of_gt (hp_lt hc), ?_⟩
                    intro e
                    have hvx := HSk.out.vx
                    rw [e, hc] at hvx
                    cases hvx
                  have HXw : Hid (wr.heap.size ≤ wr.heap.size) := Nat.le_refl _
                  have u0 : W6.cell? ⟨wr.heap.size, 0, none⟩ = some (.int .i64 t1) := by rw [cell_of hb6]; rfl
                  have u1 : W6.cell? ⟨wr.heap.size, 1, none⟩ = some (.int .i64 t2) := by rw [cell_of hb6]; rfl
                  have HK6 : Hid (Kept No wr W6 ∧ W6.heap[wr.heap.size]? = some (.cells #[.int .i64 t1, .int .i64 t2] 38 (0, 0))) := ⟨hk6, hb6⟩
                  clear hk6 hb6
                  by_cases h4 : (4 : Int) ≤ t1
                  · by_cases h9 : t1 ≤ 9
                    · have ho : oT t1 = true := by simp [oT, h4, h9]
                      by_cases h1 : t2 < 1
                      · have HFix : Hid (fixV S (t1, t2) = (0, 0)) := by
                          show _ = _
                          unfold fixV
                          rw [if_pos (by simp [ho, h1])]
                        have d1 : decide ((4 : Int) ≤ t1) = true := by simpa using h4
                        have d2 : decide (t1 ≤ 9) = true := by simpa using h9
                        have d3 : decide (t2 < 1) = true := by simpa using h1
                        clear ho
                        go_wp2_with (first | rw [← HW6.out])
                        go_quiet (fail)
                        have HX7 : Hid (Kept No wr (W6.drewN nq) ∧ (W6.drewN nq).heap[wr.heap.size]? = some (.cells #[.int .i64 t1, .int .i64 t2] 38 (0, 0))) := ⟨HK6.out.1.drewN nq, HK6.out.2⟩
                        clear u0 u1 v3 HW6
                        generalize W6.drewN nq = X7 at HX7 ⊢
                        have u0 : X7.cell? ⟨wr.heap.size, 0, none⟩ = some (.int .i64 t1) := by rw [cell_of HX7.out.2]; rfl
                        have u1 : X7.cell? ⟨wr.heap.size, 1, none⟩ = some (.int .i64 t2) := by rw [cell_of HX7.out.2]; rfl
                        have z0 : X7.frozen? ⟨wr.heap.size, 0, none⟩ = false := frozen_of HX7.out.2 _
                        have z1 : X7.frozen? ⟨wr.heap.size, 1, none⟩ = false := frozen_of HX7.out.2 _
                        obtain ⟨X8, HX8⟩ : ∃ X8, Hid (X8 = (X7.setCell ⟨wr.heap.size, 0, none⟩ (.int .i64 0)).setCell ⟨wr.heap.size, 1, none⟩ (.int .i64 0)) := ⟨_, rfl⟩
                        have HX8b : Hid (X8.heap[wr.heap.size]? = some (.cells #[.int .i64 0, .int .i64 0] 38 (0, 0))) := by show _ = _; rw [HX8.out]; exact hp_set_same (hp_set_same HX7.out.2 0 _) 1 _
                        have HK8 : Hid (Kept No wr X8) := by show Kept _ _ _; rw [HX8.out]; exact (HX7.out.1.set _ _ _ (.inr HXw.out)).set _ _ _ (.inr HXw.out)
                        have HFx : Hid (fixV S (t1, t2) = (0, 0)) := HFix.out
                        clear HX7 HFix
                        go_wp2_with (first | rw [← HX8.out])
                        clear u0 u1 z0 z1 HX8
                        obtain ⟨y1, y2, hy1, hy2⟩ : ∃ y1 y2 : Int, y1 = 0 ∧ y2 = 0 := ⟨_, _, rfl, rfl⟩
                        rw [← hy1] at HX8b HFx
                        rw [show (#[Value.int .i64 y1, Value.int .i64 y1] : Array Value) = #[Value.int .i64 y1, Value.int .i64 y2] by rw [hy1, hy2], ] at HX8b
                        rw [show ((y1, y1) : V) = (y1, y2) by rw [hy1, hy2]] at HFx
                        clear hy1 hy2
                        have HY8 : Hid (St w (BV md ph wh (.slice so S.length sc) (.slice go gn gc) (.slice ao an ac) (.slice po pn pc)) vb rb scap mdv S i Bi X8 vs (A0.take k) ∧ X8.heap[wr.heap.size]? = some (.cells #[.int .i64 y1, .int .i64 y2] 38 (0, 0))) := ⟨HSk.out.no HK8.out, HX8b.out⟩
                        have HSy : Hid (X8.drew.cell? ⟨vb, 3, none⟩ = some (.slice (some ⟨rb, 0, none⟩) S.length scap) ∧ X8.drew.cell? ⟨wr.heap.size, 0, none⟩ = some (.int .i64 y1) ∧ X8.drew.cell? ⟨wr.heap.size, 1, none⟩ = some (.int .i64 y2)) := ⟨by show X8.cell? _ = _; rw [cell_of HY8.out.1.vx]; rfl, by show X8.cell? _ = _; rw [cell_of HX8b.out]; rfl, by show X8.cell? _ = _; rw [cell_of HX8b.out]; rfl⟩
                        have HTk : Hid (A0.take (k + 1) = A0.take k ++ [(y1, y2)]) := by show _ = _; rw [HTk0.out, HFx.out]
                        have HTl : Hid ((A0.take k).length + 1 ≤ 1000000) := by show _ ≤ _; rw [List.length_take]; omega
                        clear HX8b HK8 HFx
                        refine wp_region_held_drew (S := fun X => X.cell? ⟨vb, 3, none⟩ = some (.slice (some ⟨rb, 0, none⟩) S.length scap) ∧ X.cell? ⟨wr.heap.size, 0, none⟩ = some (.int .i64 y1) ∧ X.cell? ⟨wr.heap.size, 1, none⟩ = some (.int .i64 y2)) mixed HSy.out (fun hSS => ?_)
                        obtain ⟨Y0, hY0⟩ : ∃ Y0, Y0 = X8.drew := ⟨_, rfl⟩
                        have HY0 : Hid (St w (BV md ph wh (.slice so S.length sc) (.slice go gn gc) (.slice ao an ac) (.slice po pn pc)) vb rb scap mdv S i Bi Y0 vs (A0.take k) ∧ Y0.heap[wr.heap.size]? = some (.cells #[.int .i64 y1, .int .i64 y2] 38 (0, 0))) := by rw [hY0]; exact ⟨HY8.out.1.no ((Kept.refl No _).drew), HY8.out.2⟩
                        rw [← hY0] at hSS ⊢
                        clear hY0 HY8 HSy
                        obtain ⟨uo, uc, hvi⟩ := HY0.out.1.row.form
                        have HVi : Hid (vs i = .slice uo (A0.take k).length uc) := hvi
                        clear hvi
                        generalize (A0.take k).length = ul at HVi
                        refine wpAnyH_take (i := 0) (v := .pointer (some ⟨vb, 3, none⟩)) rfl (by kernel_rfl) (by kernel_rfl) (by kernel_rfl) (fun _ _ _ h => h) (Or.inl ⟨by rfl, by intro w' hw; go_simp⟩) hSS ?_
                        try simp only [Act.put, List.setIfInBounds_toArray, List.set_cons_zero, List.set_cons_succ, List.getElem_toArray, List.getElem_cons_zero, List.getElem_cons_succ]
                        refine wpAnyH_take (i := 1) (v := .slice (some ⟨rb, 0, none⟩) S.length scap) rfl (by kernel_rfl) (by kernel_rfl) (by kernel_rfl) (fun _ _ _ h => h) (Or.inl ⟨by rfl, by intro w' hw; obtain ⟨q0, q1, q2⟩ := hw; go_simp⟩) hSS ?_
                        try simp only [Act.put, List.setIfInBounds_toArray, List.set_cons_zero, List.set_cons_succ, List.getElem_toArray, List.getElem_cons_zero, List.getElem_cons_succ]
                        refine wpAnyH_take (i := 2) (v := .int .i64 i) rfl (by kernel_rfl) (by kernel_rfl) (by kernel_rfl) (fun _ _ _ h => h) (Or.inl ⟨by rfl, by intro w' hw; go_simp⟩) hSS ?_
                        try simp only [Act.put, List.setIfInBounds_toArray, List.set_cons_zero, List.set_cons_succ, List.getElem_toArray, List.getElem_cons_zero, List.getElem_cons_succ]
                        refine wpAnyH_take (i := 3) (v := .pointer (some ⟨vb, 3, none⟩)) rfl (by kernel_rfl) (by kernel_rfl) (by kernel_rfl) (fun _ _ _ h => h) (Or.inl ⟨by rfl, by intro w' hw; go_simp⟩) hSS ?_
                        try simp only [Act.put, List.setIfInBounds_toArray, List.set_cons_zero, List.set_cons_succ, List.getElem_toArray, List.getElem_cons_zero, List.getElem_cons_succ]
                        refine wpAnyH_take (i := 4) (v := .slice (some ⟨rb, 0, none⟩) S.length scap) rfl (by kernel_rfl) (by kernel_rfl) (by kernel_rfl) (fun _ _ _ h => h) (Or.inl ⟨by rfl, by intro w' hw; obtain ⟨q0, q1, q2⟩ := hw; go_simp⟩) hSS ?_
                        try simp only [Act.put, List.setIfInBounds_toArray, List.set_cons_zero, List.set_cons_succ, List.getElem_toArray, List.getElem_cons_zero, List.getElem_cons_succ]
                        refine wpAnyH_take (i := 5) (v := .int .i64 i) rfl (by kernel_rfl) (by kernel_rfl) (by kernel_rfl) (fun _ _ _ h => h) (Or.inl ⟨by rfl, by intro w' hw; go_simp⟩) hSS ?_
                        try simp only [Act.put, List.setIfInBounds_toArray, List.set_cons_zero, List.set_cons_succ, List.getElem_toArray, List.getElem_cons_zero, List.getElem_cons_succ]
                        refine wpAnyH_take (i := 6) (v := .pointer (some ⟨rb, i * 8, none⟩)) rfl (by kernel_rfl) (by kernel_rfl) (by kernel_rfl) (fun _ _ _ h => h) (Or.inl ⟨by rfl, by intro w' hw; go_simp⟩) hSS ?_
                        try simp only [Act.put, List.setIfInBounds_toArray, List.set_cons_zero, List.set_cons_succ, List.getElem_toArray, List.getElem_cons_zero, List.getElem_cons_succ]
                        refine wpAnyH_take (i := 7) (v := .pointer (some ⟨rb, i * 8 + 1, none⟩)) rfl (by kernel_rfl) (by kernel_rfl) (by kernel_rfl) (fun _ _ _ h => h) (Or.inl ⟨by rfl, by intro w' hw; go_simp⟩) hSS ?_
                        try simp only [Act.put, List.setIfInBounds_toArray, List.set_cons_zero, List.set_cons_succ, List.getElem_toArray, List.getElem_cons_zero, List.getElem_cons_succ]
                        refine wpAnyH_take (i := 8) (v := .pointer (some ⟨rb, i * 8 + 4, none⟩)) rfl (by kernel_rfl) (by kernel_rfl) (by kernel_rfl) (fun _ _ _ h => h) (Or.inl ⟨by rfl, by intro w' hw; go_simp⟩) hSS ?_
                        try simp only [Act.put, List.setIfInBounds_toArray, List.set_cons_zero, List.set_cons_succ, List.getElem_toArray, List.getElem_cons_zero, List.getElem_cons_succ]
                        refine wpAnyH_take (i := 10) (v := .agg #[.int .i64 y1, .int .i64 y2]) rfl (by kernel_rfl) (by kernel_rfl) (by kernel_rfl) (fun _ _ _ h => h) (Or.inl ⟨by rfl, by intro w' hw; obtain ⟨q0, q1, q2⟩ := hw; go_simp⟩) hSS ?_
                        try simp only [Act.put, List.setIfInBounds_toArray, List.set_cons_zero, List.set_cons_succ, List.getElem_toArray, List.getElem_cons_zero, List.getElem_cons_succ]
                        refine (fun (key : ∀ (nb : Nat) (Y1 : World), Hid (St w (BV md ph wh (.slice so S.length sc) (.slice go gn gc) (.slice ao an ac) (.slice po pn pc)) vb rb scap mdv S i Bi Y1 vs (A0.take k) ∧ Y1.heap[wr.heap.size]? = some (.cells #[.int .i64 y1, .int .i64 y2] 38 (0, 0)) ∧ Y1.heap[nb]? = some (.cells #[.int .i64 y1, .int .i64 y2] 38 (0, 0)) ∧ Bi ≤ Y1.heap.size) → (?PK1 : Nat → World → Prop) nb Y1) => ?body1) ?tail1
                        case body1 =>
                          have HNew : Hid (St w (BV md ph wh (.slice so S.length sc) (.slice go gn gc) (.slice ao an ac) (.slice po pn pc)) vb rb scap mdv S i Bi (Y0.alloc (.cells #[.int .i64 y1, .int .i64 y2] 38)) vs (A0.take k) ∧ (Y0.alloc (.cells #[.int .i64 y1, .int .i64 y2] 38)).heap[wr.heap.size]? = some (.cells #[.int .i64 y1, .int .i64 y2] 38 (0, 0)) ∧ (Y0.alloc (.cells #[.int .i64 y1, .int .i64 y2] 38)).heap[Y0.heap.size]? = some (.cells #[.int .i64 y1, .int .i64 y2] 38 (0, 0)) ∧ Bi ≤ (Y0.alloc (.cells #[.int .i64 y1, .int .i64 y2] 38)).heap.size) := ⟨HY0.out.1.no ((Kept.refl No _).alloc _), (Below.heap_alloc _ _ _ (hp_lt HY0.out.2)).trans HY0.out.2, World.alloc_heap_new _ _, by rw [World.size_alloc]; have := HY0.out.1.sz; omega⟩
                          have HSn : Hid ((Y0.alloc (.cells #[.int .i64 y1, .int .i64 y2] 38)).cell? ⟨vb, 3, none⟩ = some (.slice (some ⟨rb, 0, none⟩) S.length scap) ∧ (Y0.alloc (.cells #[.int .i64 y1, .int .i64 y2] 38)).cell? ⟨wr.heap.size, 0, none⟩ = some (.int .i64 y1) ∧ (Y0.alloc (.cells #[.int .i64 y1, .int .i64 y2] 38)).cell? ⟨wr.heap.size, 1, none⟩ = some (.int .i64 y2)) := ⟨cell_al1 hSS.1 _, cell_al1 hSS.2.1 _, cell_al1 hSS.2.2 _⟩
                          have c0 : Y0.cell? ⟨rb, i * 8 + 4, none⟩ = some (.slice uo ul uc) := by rw [← HVi.out]; exact (HY0.out.1.cell hlt).2.1
                          have c1 : (Y0.alloc (.cells #[.int .i64 y1, .int .i64 y2] 38)).cell? ⟨rb, i * 8 + 4, none⟩ = some (.slice uo ul uc) := cell_al1 c0 _
                          refine wpAnyH_ready (rs := [9, 11]) (by kernel_rfl) (by simp) ?_
                          refine AllReadyH.cons rfl (fun K hK => ?_) (AllReadyH.cons rfl (fun K hK => ?_) AllReadyH.nil)
                          · go_simp
                            refine hK.out _ _ hSS (fun hSS => ?_)
                            clear hK K
                            try simp only [Act.put, List.setIfInBounds_toArray, List.set_cons_zero, List.set_cons_succ, List.getElem_toArray, List.getElem_cons_zero, List.getElem_cons_succ]
                            refine wpAnyH_ready (rs := [11]) (by kernel_rfl) (by simp) ?_
                            refine AllReadyH.cons rfl (fun K hK => ?_) AllReadyH.nil
                            go_simp
                            refine hK.out _ _ HSn.out (fun hSS => ?_)
                            clear hK K
                            try simp only [Act.put, List.setIfInBounds_toArray, List.set_cons_zero, List.set_cons_succ, List.getElem_toArray, List.getElem_cons_zero, List.getElem_cons_succ]
                            clear c0 c1 HSn hSS
                            generalize Y0.heap.size = nb at HNew ⊢
                            generalize Y0.alloc (.cells #[.int .i64 y1, .int .i64 y2] 38) = Y1 at HNew ⊢
                            exact key nb Y1 HNew
                          · go_simp
                            refine hK.out _ _ HSn.out (fun hSS => ?_)
                            clear hK K
                            try simp only [Act.put, List.setIfInBounds_toArray, List.set_cons_zero, List.set_cons_succ, List.getElem_toArray, List.getElem_cons_zero, List.getElem_cons_succ]
                            refine wpAnyH_ready (rs := [9]) (by kernel_rfl) (by simp) ?_
                            refine AllReadyH.cons rfl (fun K hK => ?_) AllReadyH.nil
                            go_simp
                            refine hK.out _ _ HSn.out (fun hSS => ?_)
                            clear hK K
                            try simp only [Act.put, List.setIfInBounds_toArray, List.set_cons_zero, List.set_cons_succ, List.getElem_toArray, List.getElem_cons_zero, List.getElem_cons_succ]
                            clear c0 c1 HSn hSS
                            generalize Y0.heap.size = nb at HNew ⊢
                            generalize Y0.alloc (.cells #[.int .i64 y1, .int .i64 y2] 38) = Y1 at HNew ⊢
                            exact key nb Y1 HNew
                        case tail1 =>
                        intro nb Y1 HY1
                        clear hSS HY0
                        refine wpAnyH_ready (rs := [12]) (by kernel_rfl) (by simp) ?_
                        refine AllReadyH.cons rfl (fun K hK => ?_) AllReadyH.nil
                        rw [if_pos (by kernel_rfl)]
                        refine app_uO (.tmp 116) (.tmp 118) rfl (v := vs i) (by rw [HVi.out]; rfl) HY1.out.1.row nb (y1, y2) rfl HY1.out.2.2.1 HTl.out HY1.out.2.2.2 (fun v' Y2 hr2 hg2 => ?_)
                        obtain ⟨hs2, ⟨hc2, hz2⟩, hv2, hkp2⟩ := HY1.out.1.step ⟨_, _, rfl⟩ hlt hg2 hr2
                        have hx2 : Y2.heap[wr.heap.size]? = some (.cells #[.int .i64 y1, .int .i64 y2] 38 (0, 0)) := hkp2 _ _ HY1.out.2.1 (fun g hg => HXr.out g hg)
                        obtain ⟨vo2, vc2, rfl⟩ := hr2.form
                        generalize (A0.take k ++ [(y1, y2)]).length = vl2 at hs2 hr2 hg2 ⊢
                        have HS2 : Hid (Y2.cell? ⟨vb, 3, none⟩ = some (.slice (some ⟨rb, 0, none⟩) S.length scap) ∧ Y2.cell? ⟨wr.heap.size, 0, none⟩ = some (.int .i64 y1) ∧ Y2.cell? ⟨wr.heap.size, 1, none⟩ = some (.int .i64 y2)) := ⟨by rw [cell_of hv2]; rfl, by rw [cell_of hx2]; rfl, by rw [cell_of hx2]; rfl⟩
                        have HE2 : Hid _ := hs2
                        have hx3 : ∀ v, (Y2.setCell ⟨rb, i * 8 + 4, none⟩ v).heap[wr.heap.size]? = some (.cells #[.int .i64 y1, .int .i64 y2] 38 (0, 0)) := fun v => hp_set_other hx2 _ _ HXb.out.1
                        have HS3 : Hid (∀ v, (Y2.setCell ⟨rb, i * 8 + 4, none⟩ v).cell? ⟨vb, 3, none⟩ = some (.slice (some ⟨rb, 0, none⟩) S.length scap) ∧ (Y2.setCell ⟨rb, i * 8 + 4, none⟩ v).cell? ⟨wr.heap.size, 0, none⟩ = some (.int .i64 y1) ∧ (Y2.setCell ⟨rb, i * 8 + 4, none⟩ v).cell? ⟨wr.heap.size, 1, none⟩ = some (.int .i64 y2)) := fun v => ⟨by rw [cell_of (hp_set_other hv2 _ _ HXb.out.2)]; rfl, by rw [cell_of (hx3 v)]; rfl, by rw [cell_of (hx3 v)]; rfl⟩
                        refine hK.out _ _ HS2.out (fun hSS => ?_)
                        rw [HVi.out] at hc2
                        clear hK K hs2 hv2 hkp2 hx2 hx3 HY1 hr2 hg2
                        try simp only [Act.put, List.setIfInBounds_toArray, List.set_cons_zero, List.set_cons_succ, List.getElem_toArray, List.getElem_cons_zero, List.getElem_cons_succ]
                        refine wpAnyH_take (i := 13) (v := .pointer (some ⟨rb, i * 8, none⟩)) rfl (by kernel_rfl) (by kernel_rfl) (by kernel_rfl) (fun _ _ _ h => h) (Or.inl ⟨by rfl, by intro w' hw; go_simp⟩) hSS ?_
                        try simp only [Act.put, List.setIfInBounds_toArray, List.set_cons_zero, List.set_cons_succ, List.getElem_toArray, List.getElem_cons_zero, List.getElem_cons_succ]
                        refine wpAnyH_take (i := 14) (v := .pointer (some ⟨rb, i * 8 + 1, none⟩)) rfl (by kernel_rfl) (by kernel_rfl) (by kernel_rfl) (fun _ _ _ h => h) (Or.inl ⟨by rfl, by intro w' hw; go_simp⟩) hSS ?_
                        try simp only [Act.put, List.setIfInBounds_toArray, List.set_cons_zero, List.set_cons_succ, List.getElem_toArray, List.getElem_cons_zero, List.getElem_cons_succ]
                        refine wpAnyH_take (i := 15) (v := .pointer (some ⟨rb, i * 8 + 4, none⟩)) rfl (by kernel_rfl) (by kernel_rfl) (by kernel_rfl) (fun _ _ _ h => h) (Or.inl ⟨by rfl, by intro w' hw; go_simp⟩) hSS ?_
                        try simp only [Act.put, List.setIfInBounds_toArray, List.set_cons_zero, List.set_cons_succ, List.getElem_toArray, List.getElem_cons_zero, List.getElem_cons_succ]
                        refine wpAnyH_ready (rs := [16]) (by kernel_rfl) (by simp) ?_
                        refine AllReadyH.cons rfl (fun K hK => ?_) AllReadyH.nil
                        go_simp
                        refine hK.out _ _ (HS3.out _) (fun hSS => ?_)
                        clear hK K hSS HS3 HS2 hc2 hz2
                        try simp only [Act.put, List.setIfInBounds_toArray, List.set_cons_zero, List.set_cons_succ, List.getElem_toArray, List.getElem_cons_zero, List.getElem_cons_succ]
                        refine wpAnyH_done (by kernel_rfl) ?_ _
                        generalize Y2.setCell ⟨rb, i * 8 + 4, none⟩ (.slice vo2 vl2 vc2) = Y3 at HE2 ⊢
                        go_wp2_with fail
                        go_roundw
                        case rel => exact ⟨k + 1, by omega, by go_num, _, by rw [HTk.out]; exact HE2.out⟩
                        case measure => simp [intOf]; omega
                      · by_cases h2 : (S.length : Int) < t2
                        · have HFix : Hid (fixV S (t1, t2) = (0, 0)) := by
                            show _ = _
                            unfold fixV
                            rw [if_pos (by simp [ho, h2])]
                          have d1 : decide ((4 : Int) ≤ t1) = true := by simpa using h4
                          have d2 : decide (t1 ≤ 9) = true := by simpa using h9
                          have d3 : decide (t2 < 1) = false := by simpa using h1
                          have d4 : decide ((S.length : Int) < t2) = true := by simpa using h2
                          clear ho
                          go_wp2_with (first | rw [← HW6.out])
                          go_quiet (fail)
                          have HX7 : Hid (Kept No wr (W6.drewN nq) ∧ (W6.drewN nq).heap[wr.heap.size]? = some (.cells #[.int .i64 t1, .int .i64 t2] 38 (0, 0))) := ⟨HK6.out.1.drewN nq, HK6.out.2⟩
                          clear u0 u1 v3 HW6
                          generalize W6.drewN nq = X7 at HX7 ⊢
                          have u0 : X7.cell? ⟨wr.heap.size, 0, none⟩ = some (.int .i64 t1) := by rw [cell_of HX7.out.2]; rfl
                          have u1 : X7.cell? ⟨wr.heap.size, 1, none⟩ = some (.int .i64 t2) := by rw [cell_of HX7.out.2]; rfl
                          have z0 : X7.frozen? ⟨wr.heap.size, 0, none⟩ = false := frozen_of HX7.out.2 _
                          have z1 : X7.frozen? ⟨wr.heap.size, 1, none⟩ = false := frozen_of HX7.out.2 _
                          obtain ⟨X8, HX8⟩ : ∃ X8, Hid (X8 = (X7.setCell ⟨wr.heap.size, 0, none⟩ (.int .i64 0)).setCell ⟨wr.heap.size, 1, none⟩ (.int .i64 0)) := ⟨_, rfl⟩
                          have HX8b : Hid (X8.heap[wr.heap.size]? = some (.cells #[.int .i64 0, .int .i64 0] 38 (0, 0))) := by show _ = _; rw [HX8.out]; exact hp_set_same (hp_set_same HX7.out.2 0 _) 1 _
                          have HK8 : Hid (Kept No wr X8) := by show Kept _ _ _; rw [HX8.out]; exact (HX7.out.1.set _ _ _ (.inr HXw.out)).set _ _ _ (.inr HXw.out)
                          have HFx : Hid (fixV S (t1, t2) = (0, 0)) := HFix.out
                          clear HX7 HFix
                          go_wp2_with (first | rw [← HX8.out])
                          clear u0 u1 z0 z1 HX8
                          obtain ⟨y1, y2, hy1, hy2⟩ : ∃ y1 y2 : Int, y1 = 0 ∧ y2 = 0 := ⟨_, _, rfl, rfl⟩
                          rw [← hy1] at HX8b HFx
                          rw [show (#[Value.int .i64 y1, Value.int .i64 y1] : Array Value) = #[Value.int .i64 y1, Value.int .i64 y2] by rw [hy1, hy2], ] at HX8b
                          rw [show ((y1, y1) : V) = (y1, y2) by rw [hy1, hy2]] at HFx
                          clear hy1 hy2
                          have HY8 : Hid (St w (BV md ph wh (.slice so S.length sc) (.slice go gn gc) (.slice ao an ac) (.slice po pn pc)) vb rb scap mdv S i Bi X8 vs (A0.take k) ∧ X8.heap[wr.heap.size]? = some (.cells #[.int .i64 y1, .int .i64 y2] 38 (0, 0))) := ⟨HSk.out.no HK8.out, HX8b.out⟩
                          have HSy : Hid (X8.drew.cell? ⟨vb, 3, none⟩ = some (.slice (some ⟨rb, 0, none⟩) S.length scap) ∧ X8.drew.cell? ⟨wr.heap.size, 0, none⟩ = some (.int .i64 y1) ∧ X8.drew.cell? ⟨wr.heap.size, 1, none⟩ = some (.int .i64 y2)) := ⟨by show X8.cell? _ = _; rw [cell_of HY8.out.1.vx]; rfl, by show X8.cell? _ = _; rw [cell_of HX8b.out]; rfl, by show X8.cell? _ = _; rw [cell_of HX8b.out]; rfl⟩
                          have HTk : Hid (A0.take (k + 1) = A0.take k ++ [(y1, y2)]) := by show _ = _; rw [HTk0.out, HFx.out]
                          have HTl : Hid ((A0.take k).length + 1 ≤ 1000000) := by show _ ≤ _; rw [List.length_take]; omega
                          clear HX8b HK8 HFx
                          refine wp_region_held_drew (S := fun X => X.cell? ⟨vb, 3, none⟩ = some (.slice (some ⟨rb, 0, none⟩) S.length scap) ∧ X.cell? ⟨wr.heap.size, 0, none⟩ = some (.int .i64 y1) ∧ X.cell? ⟨wr.heap.size, 1, none⟩ = some (.int .i64 y2)) mixed HSy.out (fun hSS => ?_)
                          obtain ⟨Y0, hY0⟩ : ∃ Y0, Y0 = X8.drew := ⟨_, rfl⟩
                          have HY0 : Hid (St w (BV md ph wh (.slice so S.length sc) (.slice go gn gc) (.slice ao an ac) (.slice po pn pc)) vb rb scap mdv S i Bi Y0 vs (A0.take k) ∧ Y0.heap[wr.heap.size]? = some (.cells #[.int .i64 y1, .int .i64 y2] 38 (0, 0))) := by rw [hY0]; exact ⟨HY8.out.1.no ((Kept.refl No _).drew), HY8.out.2⟩
                          rw [← hY0] at hSS ⊢
                          clear hY0 HY8 HSy
                          obtain ⟨uo, uc, hvi⟩ := HY0.out.1.row.form
                          have HVi : Hid (vs i = .slice uo (A0.take k).length uc) := hvi
                          clear hvi
                          generalize (A0.take k).length = ul at HVi
                          refine wpAnyH_take (i := 0) (v := .pointer (some ⟨vb, 3, none⟩)) rfl (by kernel_rfl) (by kernel_rfl) (by kernel_rfl) (fun _ _ _ h => h) (Or.inl ⟨by rfl, by intro w' hw; go_simp⟩) hSS ?_
                          try simp only [Act.put, List.setIfInBounds_toArray, List.set_cons_zero, List.set_cons_succ, List.getElem_toArray, List.getElem_cons_zero, List.getElem_cons_succ]
                          refine wpAnyH_take (i := 1) (v := .slice (some ⟨rb, 0, none⟩) S.length scap) rfl (by kernel_rfl) (by kernel_rfl) (by kernel_rfl) (fun _ _ _ h => h) (Or.inl ⟨by rfl, by intro w' hw; obtain ⟨q0, q1, q2⟩ := hw; go_simp⟩) hSS ?_
                          try simp only [Act.put, List.setIfInBounds_toArray, List.set_cons_zero, List.set_cons_succ, List.getElem_toArray, List.getElem_cons_zero, List.getElem_cons_succ]
                          refine wpAnyH_take (i := 2) (v := .int .i64 i) rfl (by kernel_rfl) (by kernel_rfl) (by kernel_rfl) (fun _ _ _ h => h) (Or.inl ⟨by rfl, by intro w' hw; go_simp⟩) hSS ?_
                          try simp only [Act.put, List.setIfInBounds_toArray, List.set_cons_zero, List.set_cons_succ, List.getElem_toArray, List.getElem_cons_zero, List.getElem_cons_succ]
                          refine wpAnyH_take (i := 3) (v := .pointer (some ⟨vb, 3, none⟩)) rfl (by kernel_rfl) (by kernel_rfl) (by kernel_rfl) (fun _ _ _ h => h) (Or.inl ⟨by rfl, by intro w' hw; go_simp⟩) hSS ?_
                          try simp only [Act.put, List.setIfInBounds_toArray, List.set_cons_zero, List.set_cons_succ, List.getElem_toArray, List.getElem_cons_zero, List.getElem_cons_succ]
                          refine wpAnyH_take (i := 4) (v := .slice (some ⟨rb, 0, none⟩) S.length scap) rfl (by kernel_rfl) (by kernel_rfl) (by kernel_rfl) (fun _ _ _ h => h) (Or.inl ⟨by rfl, by intro w' hw; obtain ⟨q0, q1, q2⟩ := hw; go_simp⟩) hSS ?_
                          try simp only [Act.put, List.setIfInBounds_toArray, List.set_cons_zero, List.set_cons_succ, List.getElem_toArray, List.getElem_cons_zero, List.getElem_cons_succ]
                          refine wpAnyH_take (i := 5) (v := .int .i64 i) rfl (by kernel_rfl) (by kernel_rfl) (by kernel_rfl) (fun _ _ _ h => h) (Or.inl ⟨by rfl, by intro w' hw; go_simp⟩) hSS ?_
                          try simp only [Act.put, List.setIfInBounds_toArray, List.set_cons_zero, List.set_cons_succ, List.getElem_toArray, List.getElem_cons_zero, List.getElem_cons_succ]
                          refine wpAnyH_take (i := 6) (v := .pointer (some ⟨rb, i * 8, none⟩)) rfl (by kernel_rfl) (by kernel_rfl) (by kernel_rfl) (fun _ _ _ h => h) (Or.inl ⟨by rfl, by intro w' hw; go_simp⟩) hSS ?_
                          try simp only [Act.put, List.setIfInBounds_toArray, List.set_cons_zero, List.set_cons_succ, List.getElem_toArray, List.getElem_cons_zero, List.getElem_cons_succ]
                          refine wpAnyH_take (i := 7) (v := .pointer (some ⟨rb, i * 8 + 1, none⟩)) rfl (by kernel_rfl) (by kernel_rfl) (by kernel_rfl) (fun _ _ _ h => h) (Or.inl ⟨by rfl, by intro w' hw; go_simp⟩) hSS ?_
                          try simp only [Act.put, List.setIfInBounds_toArray, List.set_cons_zero, List.set_cons_succ, List.getElem_toArray, List.getElem_cons_zero, List.getElem_cons_succ]
                          refine wpAnyH_take (i := 8) (v := .pointer (some ⟨rb, i * 8 + 4, none⟩)) rfl (by kernel_rfl) (by kernel_rfl) (by kernel_rfl) (fun _ _ _ h => h) (Or.inl ⟨by rfl, by intro w' hw; go_simp⟩) hSS ?_
                          try simp only [Act.put, List.setIfInBounds_toArray, List.set_cons_zero, List.set_cons_succ, List.getElem_toArray, List.getElem_cons_zero, List.getElem_cons_succ]
                          refine wpAnyH_take (i := 10) (v := .agg #[.int .i64 y1, .int .i64 y2]) rfl (by kernel_rfl) (by kernel_rfl) (by kernel_rfl) (fun _ _ _ h => h) (Or.inl ⟨by rfl, by intro w' hw; obtain ⟨q0, q1, q2⟩ := hw; go_simp⟩) hSS ?_
                          try simp only [Act.put, List.setIfInBounds_toArray, List.set_cons_zero, List.set_cons_succ, List.getElem_toArray, List.getElem_cons_zero, List.getElem_cons_succ]
                          refine (fun (key : ∀ (nb : Nat) (Y1 : World), Hid (St w (BV md ph wh (.slice so S.length sc) (.slice go gn gc) (.slice ao an ac) (.slice po pn pc)) vb rb scap mdv S i Bi Y1 vs (A0.take k) ∧ Y1.heap[wr.heap.size]? = some (.cells #[.int .i64 y1, .int .i64 y2] 38 (0, 0)) ∧ Y1.heap[nb]? = some (.cells #[.int .i64 y1, .int .i64 y2] 38 (0, 0)) ∧ Bi ≤ Y1.heap.size) → (?PK2 : Nat → World → Prop) nb Y1) => ?body2) ?tail2
                          case body2 =>
                            have HNew : Hid (St w (BV md ph wh (.slice so S.length sc) (.slice go gn gc) (.slice ao an ac) (.slice po pn pc)) vb rb scap mdv S i Bi (Y0.alloc (.cells #[.int .i64 y1, .int .i64 y2] 38)) vs (A0.take k) ∧ (Y0.alloc (.cells #[.int .i64 y1, .int .i64 y2] 38)).heap[wr.heap.size]? = some (.cells #[.int .i64 y1, .int .i64 y2] 38 (0, 0)) ∧ (Y0.alloc (.cells #[.int .i64 y1, .int .i64 y2] 38)).heap[Y0.heap.size]? = some (.cells #[.int .i64 y1, .int .i64 y2] 38 (0, 0)) ∧ Bi ≤ (Y0.alloc (.cells #[.int .i64 y1, .int .i64 y2] 38)).heap.size) := ⟨HY0.out.1.no ((Kept.refl No _).alloc _), (Below.heap_alloc _ _ _ (hp_lt HY0.out.2)).trans HY0.out.2, World.alloc_heap_new _ _, by rw [World.size_alloc]; have := HY0.out.1.sz; omega⟩
                            have HSn : Hid ((Y0.alloc (.cells #[.int .i64 y1, .int .i64 y2] 38)).cell? ⟨vb, 3, none⟩ = some (.slice (some ⟨rb, 0, none⟩) S.length scap) ∧ (Y0.alloc (.cells #[.int .i64 y1, .int .i64 y2] 38)).cell? ⟨wr.heap.size, 0, none⟩ = some (.int .i64 y1) ∧ (Y0.alloc (.cells #[.int .i64 y1, .int .i64 y2] 38)).cell? ⟨wr.heap.size, 1, none⟩ = some (.int .i64 y2)) := ⟨cell_al1 hSS.1 _, cell_al1 hSS.2.1 _, cell_al1 hSS.2.2 _⟩
                            have c0 : Y0.cell? ⟨rb, i * 8 + 4, none⟩ = some (.slice uo ul uc) := by rw [← HVi.out]; exact (HY0.out.1.cell hlt).2.1
                            have c1 : (Y0.alloc (.cells #[.int .i64 y1, .int .i64 y2] 38)).cell? ⟨rb, i * 8 + 4, none⟩ = some (.slice uo ul uc) := cell_al1 c0 _
                            refine wpAnyH_ready (rs := [9, 11]) (by kernel_rfl) (by simp) ?_
                            refine AllReadyH.cons rfl (fun K hK => ?_) (AllReadyH.cons rfl (fun K hK => ?_) AllReadyH.nil)
                            · go_simp
                              refine hK.out _ _ hSS (fun hSS => ?_)
                              clear hK K
                              try simp only [Act.put, List.setIfInBounds_toArray, List.set_cons_zero, List.set_cons_succ, List.getElem_toArray, List.getElem_cons_zero, List.getElem_cons_succ]
                              refine wpAnyH_ready (rs := [11]) (by kernel_rfl) (by simp) ?_
                              refine AllReadyH.cons rfl (fun K hK => ?_) AllReadyH.nil
                              go_simp
                              refine hK.out _ _ HSn.out (fun hSS => ?_)
                              clear hK K
                              try simp only [Act.put, List.setIfInBounds_toArray, List.set_cons_zero, List.set_cons_succ, List.getElem_toArray, List.getElem_cons_zero, List.getElem_cons_succ]
                              clear c0 c1 HSn hSS
                              generalize Y0.heap.size = nb at HNew ⊢
                              generalize Y0.alloc (.cells #[.int .i64 y1, .int .i64 y2] 38) = Y1 at HNew ⊢
                              exact key nb Y1 HNew
                            · go_simp
                              refine hK.out _ _ HSn.out (fun hSS => ?_)
                              clear hK K
                              try simp only [Act.put, List.setIfInBounds_toArray, List.set_cons_zero, List.set_cons_succ, List.getElem_toArray, List.getElem_cons_zero, List.getElem_cons_succ]
                              refine wpAnyH_ready (rs := [9]) (by kernel_rfl) (by simp) ?_
                              refine AllReadyH.cons rfl (fun K hK => ?_) AllReadyH.nil
                              go_simp
                              refine hK.out _ _ HSn.out (fun hSS => ?_)
                              clear hK K
                              try simp only [Act.put, List.setIfInBounds_toArray, List.set_cons_zero, List.set_cons_succ, List.getElem_toArray, List.getElem_cons_zero, List.getElem_cons_succ]
                              clear c0 c1 HSn hSS
                              generalize Y0.heap.size = nb at HNew ⊢
                              generalize Y0.alloc (.cells #[.int .i64 y1, .int .i64 y2] 38) = Y1 at HNew ⊢
                              exact key nb Y1 HNew
                          case tail2 =>
                          intro nb Y1 HY1
                          clear hSS HY0
                          refine wpAnyH_ready (rs := [12]) (by kernel_rfl) (by simp) ?_
                          refine AllReadyH.cons rfl (fun K hK => ?_) AllReadyH.nil
                          rw [if_pos (by kernel_rfl)]
                          refine app_uO (.tmp 116) (.tmp 118) rfl (v := vs i) (by rw [HVi.out]; rfl) HY1.out.1.row nb (y1, y2) rfl HY1.out.2.2.1 HTl.out HY1.out.2.2.2 (fun v' Y2 hr2 hg2 => ?_)
                          obtain ⟨hs2, ⟨hc2, hz2⟩, hv2, hkp2⟩ := HY1.out.1.step ⟨_, _, rfl⟩ hlt hg2 hr2
                          have hx2 : Y2.heap[wr.heap.size]? = some (.cells #[.int .i64 y1, .int .i64 y2] 38 (0, 0)) := hkp2 _ _ HY1.out.2.1 (fun g hg => HXr.out g hg)
                          obtain ⟨vo2, vc2, rfl⟩ := hr2.form
                          generalize (A0.take k ++ [(y1, y2)]).length = vl2 at hs2 hr2 hg2 ⊢
                          have HS2 : Hid (Y2.cell? ⟨vb, 3, none⟩ = some (.slice (some ⟨rb, 0, none⟩) S.length scap) ∧ Y2.cell? ⟨wr.heap.size, 0, none⟩ = some (.int .i64 y1) ∧ Y2.cell? ⟨wr.heap.size, 1, none⟩ = some (.int .i64 y2)) := ⟨by rw [cell_of hv2]; rfl, by rw [cell_of hx2]; rfl, by rw [cell_of hx2]; rfl⟩
                          have HE2 : Hid _ := hs2
                          have hx3 : ∀ v, (Y2.setCell ⟨rb, i * 8 + 4, none⟩ v).heap[wr.heap.size]? = some (.cells #[.int .i64 y1, .int .i64 y2] 38 (0, 0)) := fun v => hp_set_other hx2 _ _ HXb.out.1
                          have HS3 : Hid (∀ v, (Y2.setCell ⟨rb, i * 8 + 4, none⟩ v).cell? ⟨vb, 3, none⟩ = some (.slice (some ⟨rb, 0, none⟩) S.length scap) ∧ (Y2.setCell ⟨rb, i * 8 + 4, none⟩ v).cell? ⟨wr.heap.size, 0, none⟩ = some (.int .i64 y1) ∧ (Y2.setCell ⟨rb, i * 8 + 4, none⟩ v).cell? ⟨wr.heap.size, 1, none⟩ = some (.int .i64 y2)) := fun v => ⟨by rw [cell_of (hp_set_other hv2 _ _ HXb.out.2)]; rfl, by rw [cell_of (hx3 v)]; rfl, by rw [cell_of (hx3 v)]; rfl⟩
                          refine hK.out _ _ HS2.out (fun hSS => ?_)
                          rw [HVi.out] at hc2
                          clear hK K hs2 hv2 hkp2 hx2 hx3 HY1 hr2 hg2
                          try simp only [Act.put, List.setIfInBounds_toArray, List.set_cons_zero, List.set_cons_succ, List.getElem_toArray, List.getElem_cons_zero, List.getElem_cons_succ]
                          refine wpAnyH_take (i := 13) (v := .pointer (some ⟨rb, i * 8, none⟩)) rfl (by kernel_rfl) (by kernel_rfl) (by kernel_rfl) (fun _ _ _ h => h) (Or.inl ⟨by rfl, by intro w' hw; go_simp⟩) hSS ?_
                          try simp only [Act.put, List.setIfInBounds_toArray, List.set_cons_zero, List.set_cons_succ, List.getElem_toArray, List.getElem_cons_zero, List.getElem_cons_succ]
                          refine wpAnyH_take (i := 14) (v := .pointer (some ⟨rb, i * 8 + 1, none⟩)) rfl (by kernel_rfl) (by kernel_rfl) (by kernel_rfl) (fun _ _ _ h => h) (Or.inl ⟨by rfl, by intro w' hw; go_simp⟩) hSS ?_
                          try simp only [Act.put, List.setIfInBounds_toArray, List.set_cons_zero, List.set_cons_succ, List.getElem_toArray, List.getElem_cons_zero, List.getElem_cons_succ]
                          refine wpAnyH_take (i := 15) (v := .pointer (some ⟨rb, i * 8 + 4, none⟩)) rfl (by kernel_rfl) (by kernel_rfl) (by kernel_rfl) (fun _ _ _ h => h) (Or.inl ⟨by rfl, by intro w' hw; go_simp⟩) hSS ?_
                          try simp only [Act.put, List.setIfInBounds_toArray, List.set_cons_zero, List.set_cons_succ, List.getElem_toArray, List.getElem_cons_zero, List.getElem_cons_succ]
                          refine wpAnyH_ready (rs := [16]) (by kernel_rfl) (by simp) ?_
                          refine AllReadyH.cons rfl (fun K hK => ?_) AllReadyH.nil
                          go_simp
                          refine hK.out _ _ (HS3.out _) (fun hSS => ?_)
                          clear hK K hSS HS3 HS2 hc2 hz2
                          try simp only [Act.put, List.setIfInBounds_toArray, List.set_cons_zero, List.set_cons_succ, List.getElem_toArray, List.getElem_cons_zero, List.getElem_cons_succ]
                          refine wpAnyH_done (by kernel_rfl) ?_ _
                          generalize Y2.setCell ⟨rb, i * 8 + 4, none⟩ (.slice vo2 vl2 vc2) = Y3 at HE2 ⊢
                          go_wp2_with fail
                          go_roundw
                          case rel => exact ⟨k + 1, by omega, by go_num, _, by rw [HTk.out]; exact HE2.out⟩
                          case measure => simp [intOf]; omega
                        · obtain ⟨m, rfl⟩ : ∃ m : Nat, t2 = (m : Int) + 1 := ⟨(t2 - 1).toNat, by omega⟩
                          have hm : m < S.length := by omega
                          have hmi : (m : Int) < (S.length : Int) := by omega
                          have ck := (HK6s.out.cell hm).1
                          have e1 : (m : Int) + 1 - 1 = (m : Int) := by omega
                          by_cases h3 : (snAt S m).kind = t1
                          · have HFix : Hid (fixV S (t1, (m : Int) + 1) = (t1, (m : Int) + 1)) := by
                              show _ = _
                              unfold fixV
                              rw [if_neg (by simp [ho, h3, e1]; omega)]
                            generalize hkd : (snAt S m).kind = kd at ck h3
                            have d1 : decide ((4 : Int) ≤ t1) = true := by simpa using h4
                            have d2 : decide (t1 ≤ 9) = true := by simpa using h9
                            have d3 : decide ((m : Int) + 1 < 1) = false := by simpa using h1
                            have d4 : decide ((S.length : Int) < (m : Int) + 1) = false := by simpa using h2
                            have d5 : (kd == t1) = true := by simpa using h3
                            clear ho hkd h3
                            go_wp2_with (first | rw [← HW6.out])
                            go_quiet (fail)
                            have HX8 : Hid (Kept No wr (W6.drewN nq) ∧ (W6.drewN nq).heap[wr.heap.size]? = some (.cells #[.int .i64 t1, .int .i64 ((m : Int) + 1)] 38 (0, 0))) := ⟨HK6.out.1.drewN nq, HK6.out.2⟩
                            clear u0 u1 v3 HW6
                            generalize W6.drewN nq = X8 at HX8 ⊢
                            obtain ⟨y1, y2, hy1, hy2⟩ : ∃ y1 y2, y1 = t1 ∧ y2 = ((m : Int) + 1) := ⟨_, _, rfl, rfl⟩
                            have HFx : Hid (fixV S (t1, ((m : Int) + 1)) = (y1, y2)) := by show _ = _; rw [HFix.out, hy1, hy2]
                            have HX8b : Hid (X8.heap[wr.heap.size]? = some (.cells #[.int .i64 y1, .int .i64 y2] 38 (0, 0))) := by rw [hy1, hy2]; exact HX8.out.2
                            have HK8 : Hid (Kept No wr X8) := HX8.out.1
                            clear hy1 hy2 HX8 HFix
                            go_wp2_with fail
                            have HY8 : Hid (St w (BV md ph wh (.slice so S.length sc) (.slice go gn gc) (.slice ao an ac) (.slice po pn pc)) vb rb scap mdv S i Bi X8 vs (A0.take k) ∧ X8.heap[wr.heap.size]? = some (.cells #[.int .i64 y1, .int .i64 y2] 38 (0, 0))) := ⟨HSk.out.no HK8.out, HX8b.out⟩
                            have HSy : Hid (X8.drew.cell? ⟨vb, 3, none⟩ = some (.slice (some ⟨rb, 0, none⟩) S.length scap) ∧ X8.drew.cell? ⟨wr.heap.size, 0, none⟩ = some (.int .i64 y1) ∧ X8.drew.cell? ⟨wr.heap.size, 1, none⟩ = some (.int .i64 y2)) := ⟨by show X8.cell? _ = _; rw [cell_of HY8.out.1.vx]; rfl, by show X8.cell? _ = _; rw [cell_of HX8b.out]; rfl, by show X8.cell? _ = _; rw [cell_of HX8b.out]; rfl⟩
                            have HTk : Hid (A0.take (k + 1) = A0.take k ++ [(y1, y2)]) := by show _ = _; rw [HTk0.out, HFx.out]
                            have HTl : Hid ((A0.take k).length + 1 ≤ 1000000) := by show _ ≤ _; rw [List.length_take]; omega
                            clear HX8b HK8 HFx
                            refine wp_region_held_drew (S := fun X => X.cell? ⟨vb, 3, none⟩ = some (.slice (some ⟨rb, 0, none⟩) S.length scap) ∧ X.cell? ⟨wr.heap.size, 0, none⟩ = some (.int .i64 y1) ∧ X.cell? ⟨wr.heap.size, 1, none⟩ = some (.int .i64 y2)) mixed HSy.out (fun hSS => ?_)
                            obtain ⟨Y0, hY0⟩ : ∃ Y0, Y0 = X8.drew := ⟨_, rfl⟩
                            have HY0 : Hid (St w (BV md ph wh (.slice so S.length sc) (.slice go gn gc) (.slice ao an ac) (.slice po pn pc)) vb rb scap mdv S i Bi Y0 vs (A0.take k) ∧ Y0.heap[wr.heap.size]? = some (.cells #[.int .i64 y1, .int .i64 y2] 38 (0, 0))) := by rw [hY0]; exact ⟨HY8.out.1.no ((Kept.refl No _).drew), HY8.out.2⟩
                            rw [← hY0] at hSS ⊢
                            clear hY0 HY8 HSy
                            obtain ⟨uo, uc, hvi⟩ := HY0.out.1.row.form
                            have HVi : Hid (vs i = .slice uo (A0.take k).length uc) := hvi
                            clear hvi
                            generalize (A0.take k).length = ul at HVi
                            refine wpAnyH_take (i := 0) (v := .pointer (some ⟨vb, 3, none⟩)) rfl (by kernel_rfl) (by kernel_rfl) (by kernel_rfl) (fun _ _ _ h => h) (Or.inl ⟨by rfl, by intro w' hw; go_simp⟩) hSS ?_
                            try simp only [Act.put, List.setIfInBounds_toArray, List.set_cons_zero, List.set_cons_succ, List.getElem_toArray, List.getElem_cons_zero, List.getElem_cons_succ]
                            refine wpAnyH_take (i := 1) (v := .slice (some ⟨rb, 0, none⟩) S.length scap) rfl (by kernel_rfl) (by kernel_rfl) (by kernel_rfl) (fun _ _ _ h => h) (Or.inl ⟨by rfl, by intro w' hw; obtain ⟨q0, q1, q2⟩ := hw; go_simp⟩) hSS ?_
                            try simp only [Act.put, List.setIfInBounds_toArray, List.set_cons_zero, List.set_cons_succ, List.getElem_toArray, List.getElem_cons_zero, List.getElem_cons_succ]
                            refine wpAnyH_take (i := 2) (v := .int .i64 i) rfl (by kernel_rfl) (by kernel_rfl) (by kernel_rfl) (fun _ _ _ h => h) (Or.inl ⟨by rfl, by intro w' hw; go_simp⟩) hSS ?_
                            try simp only [Act.put, List.setIfInBounds_toArray, List.set_cons_zero, List.set_cons_succ, List.getElem_toArray, List.getElem_cons_zero, List.getElem_cons_succ]
                            refine wpAnyH_take (i := 3) (v := .pointer (some ⟨vb, 3, none⟩)) rfl (by kernel_rfl) (by kernel_rfl) (by kernel_rfl) (fun _ _ _ h => h) (Or.inl ⟨by rfl, by intro w' hw; go_simp⟩) hSS ?_
                            try simp only [Act.put, List.setIfInBounds_toArray, List.set_cons_zero, List.set_cons_succ, List.getElem_toArray, List.getElem_cons_zero, List.getElem_cons_succ]
                            refine wpAnyH_take (i := 4) (v := .slice (some ⟨rb, 0, none⟩) S.length scap) rfl (by kernel_rfl) (by kernel_rfl) (by kernel_rfl) (fun _ _ _ h => h) (Or.inl ⟨by rfl, by intro w' hw; obtain ⟨q0, q1, q2⟩ := hw; go_simp⟩) hSS ?_
                            try simp only [Act.put, List.setIfInBounds_toArray, List.set_cons_zero, List.set_cons_succ, List.getElem_toArray, List.getElem_cons_zero, List.getElem_cons_succ]
                            refine wpAnyH_take (i := 5) (v := .int .i64 i) rfl (by kernel_rfl) (by kernel_rfl) (by kernel_rfl) (fun _ _ _ h => h) (Or.inl ⟨by rfl, by intro w' hw; go_simp⟩) hSS ?_
                            try simp only [Act.put, List.setIfInBounds_toArray, List.set_cons_zero, List.set_cons_succ, List.getElem_toArray, List.getElem_cons_zero, List.getElem_cons_succ]
                            refine wpAnyH_take (i := 6) (v := .pointer (some ⟨rb, i * 8, none⟩)) rfl (by kernel_rfl) (by kernel_rfl) (by kernel_rfl) (fun _ _ _ h => h) (Or.inl ⟨by rfl, by intro w' hw; go_simp⟩) hSS ?_
                            try simp only [Act.put, List.setIfInBounds_toArray, List.set_cons_zero, List.set_cons_succ, List.getElem_toArray, List.getElem_cons_zero, List.getElem_cons_succ]
                            refine wpAnyH_take (i := 7) (v := .pointer (some ⟨rb, i * 8 + 1, none⟩)) rfl (by kernel_rfl) (by kernel_rfl) (by kernel_rfl) (fun _ _ _ h => h) (Or.inl ⟨by rfl, by intro w' hw; go_simp⟩) hSS ?_
                            try simp only [Act.put, List.setIfInBounds_toArray, List.set_cons_zero, List.set_cons_succ, List.getElem_toArray, List.getElem_cons_zero, List.getElem_cons_succ]
                            refine wpAnyH_take (i := 8) (v := .pointer (some ⟨rb, i * 8 + 4, none⟩)) rfl (by kernel_rfl) (by kernel_rfl) (by kernel_rfl) (fun _ _ _ h => h) (Or.inl ⟨by rfl, by intro w' hw; go_simp⟩) hSS ?_
                            try simp only [Act.put, List.setIfInBounds_toArray, List.set_cons_zero, List.set_cons_succ, List.getElem_toArray, List.getElem_cons_zero, List.getElem_cons_succ]
                            refine wpAnyH_take (i := 10) (v := .agg #[.int .i64 y1, .int .i64 y2]) rfl (by kernel_rfl) (by kernel_rfl) (by kernel_rfl) (fun _ _ _ h => h) (Or.inl ⟨by rfl, by intro w' hw; obtain ⟨q0, q1, q2⟩ := hw; go_simp⟩) hSS ?_
                            try simp only [Act.put, List.setIfInBounds_toArray, List.set_cons_zero, List.set_cons_succ, List.getElem_toArray, List.getElem_cons_zero, List.getElem_cons_succ]
                            refine (fun (key : ∀ (nb : Nat) (Y1 : World), Hid (St w (BV md ph wh (.slice so S.length sc) (.slice go gn gc) (.slice ao an ac) (.slice po pn pc)) vb rb scap mdv S i Bi Y1 vs (A0.take k) ∧ Y1.heap[wr.heap.size]? = some (.cells #[.int .i64 y1, .int .i64 y2] 38 (0, 0)) ∧ Y1.heap[nb]? = some (.cells #[.int .i64 y1, .int .i64 y2] 38 (0, 0)) ∧ Bi ≤ Y1.heap.size) → (?PK3 : Nat → World → Prop) nb Y1) => ?body3) ?tail3
                            case body3 =>
                              have HNew : Hid (St w (BV md ph wh (.slice so S.length sc) (.slice go gn gc) (.slice ao an ac) (.slice po pn pc)) vb rb scap mdv S i Bi (Y0.alloc (.cells #[.int .i64 y1, .int .i64 y2] 38)) vs (A0.take k) ∧ (Y0.alloc (.cells #[.int .i64 y1, .int .i64 y2] 38)).heap[wr.heap.size]? = some (.cells #[.int .i64 y1, .int .i64 y2] 38 (0, 0)) ∧ (Y0.alloc (.cells #[.int .i64 y1, .int .i64 y2] 38)).heap[Y0.heap.size]? = some (.cells #[.int .i64 y1, .int .i64 y2] 38 (0, 0)) ∧ Bi ≤ (Y0.alloc (.cells #[.int .i64 y1, .int .i64 y2] 38)).heap.size) := ⟨HY0.out.1.no ((Kept.refl No _).alloc _), (Below.heap_alloc _ _ _ (hp_lt HY0.out.2)).trans HY0.out.2, World.alloc_heap_new _ _, by rw [World.size_alloc]; have := HY0.out.1.sz; omega⟩
                              have HSn : Hid ((Y0.alloc (.cells #[.int .i64 y1, .int .i64 y2] 38)).cell? ⟨vb, 3, none⟩ = some (.slice (some ⟨rb, 0, none⟩) S.length scap) ∧ (Y0.alloc (.cells #[.int .i64 y1, .int .i64 y2] 38)).cell? ⟨wr.heap.size, 0, none⟩ = some (.int .i64 y1) ∧ (Y0.alloc (.cells #[.int .i64 y1, .int .i64 y2] 38)).cell? ⟨wr.heap.size, 1, none⟩ = some (.int .i64 y2)) := ⟨cell_al1 hSS.1 _, cell_al1 hSS.2.1 _, cell_al1 hSS.2.2 _⟩
                              have c0 : Y0.cell? ⟨rb, i * 8 + 4, none⟩ = some (.slice uo ul uc) := by rw [← HVi.out]; exact (HY0.out.1.cell hlt).2.1
                              have c1 : (Y0.alloc (.cells #[.int .i64 y1, .int .i64 y2] 38)).cell? ⟨rb, i * 8 + 4, none⟩ = some (.slice uo ul uc) := cell_al1 c0 _
                              refine wpAnyH_ready (rs := [9, 11]) (by kernel_rfl) (by simp) ?_
                              refine AllReadyH.cons rfl (fun K hK => ?_) (AllReadyH.cons rfl (fun K hK => ?_) AllReadyH.nil)
                              · go_simp
                                refine hK.out _ _ hSS (fun hSS => ?_)
                                clear hK K
                                try simp only [Act.put, List.setIfInBounds_toArray, List.set_cons_zero, List.set_cons_succ, List.getElem_toArray, List.getElem_cons_zero, List.getElem_cons_succ]
                                refine wpAnyH_ready (rs := [11]) (by kernel_rfl) (by simp) ?_
                                refine AllReadyH.cons rfl (fun K hK => ?_) AllReadyH.nil
                                go_simp
                                refine hK.out _ _ HSn.out (fun hSS => ?_)
                                clear hK K
                                try simp only [Act.put, List.setIfInBounds_toArray, List.set_cons_zero, List.set_cons_succ, List.getElem_toArray, List.getElem_cons_zero, List.getElem_cons_succ]
                                clear c0 c1 HSn hSS
                                generalize Y0.heap.size = nb at HNew ⊢
                                generalize Y0.alloc (.cells #[.int .i64 y1, .int .i64 y2] 38) = Y1 at HNew ⊢
                                exact key nb Y1 HNew
                              · go_simp
                                refine hK.out _ _ HSn.out (fun hSS => ?_)
                                clear hK K
                                try simp only [Act.put, List.setIfInBounds_toArray, List.set_cons_zero, List.set_cons_succ, List.getElem_toArray, List.getElem_cons_zero, List.getElem_cons_succ]
                                refine wpAnyH_ready (rs := [9]) (by kernel_rfl) (by simp) ?_
                                refine AllReadyH.cons rfl (fun K hK => ?_) AllReadyH.nil
                                go_simp
                                refine hK.out _ _ HSn.out (fun hSS => ?_)
                                clear hK K
                                try simp only [Act.put, List.setIfInBounds_toArray, List.set_cons_zero, List.set_cons_succ, List.getElem_toArray, List.getElem_cons_zero, List.getElem_cons_succ]
                                clear c0 c1 HSn hSS
                                generalize Y0.heap.size = nb at HNew ⊢
                                generalize Y0.alloc (.cells #[.int .i64 y1, .int .i64 y2] 38) = Y1 at HNew ⊢
                                exact key nb Y1 HNew
                            case tail3 =>
                            intro nb Y1 HY1
                            clear hSS HY0
                            refine wpAnyH_ready (rs := [12]) (by kernel_rfl) (by simp) ?_
                            refine AllReadyH.cons rfl (fun K hK => ?_) AllReadyH.nil
                            rw [if_pos (by kernel_rfl)]
                            refine app_uO (.tmp 116) (.tmp 118) rfl (v := vs i) (by rw [HVi.out]; rfl) HY1.out.1.row nb (y1, y2) rfl HY1.out.2.2.1 HTl.out HY1.out.2.2.2 (fun v' Y2 hr2 hg2 => ?_)
                            obtain ⟨hs2, ⟨hc2, hz2⟩, hv2, hkp2⟩ := HY1.out.1.step ⟨_, _, rfl⟩ hlt hg2 hr2
                            have hx2 : Y2.heap[wr.heap.size]? = some (.cells #[.int .i64 y1, .int .i64 y2] 38 (0, 0)) := hkp2 _ _ HY1.out.2.1 (fun g hg => HXr.out g hg)
                            obtain ⟨vo2, vc2, rfl⟩ := hr2.form
                            generalize (A0.take k ++ [(y1, y2)]).length = vl2 at hs2 hr2 hg2 ⊢
                            have HS2 : Hid (Y2.cell? ⟨vb, 3, none⟩ = some (.slice (some ⟨rb, 0, none⟩) S.length scap) ∧ Y2.cell? ⟨wr.heap.size, 0, none⟩ = some (.int .i64 y1) ∧ Y2.cell? ⟨wr.heap.size, 1, none⟩ = some (.int .i64 y2)) := ⟨by rw [cell_of hv2]; rfl, by rw [cell_of hx2]; rfl, by rw [cell_of hx2]; rfl⟩
                            have HE2 : Hid _ := hs2
                            have hx3 : ∀ v, (Y2.setCell ⟨rb, i * 8 + 4, none⟩ v).heap[wr.heap.size]? = some (.cells #[.int .i64 y1, .int .i64 y2] 38 (0, 0)) := fun v => hp_set_other hx2 _ _ HXb.out.1
                            have HS3 : Hid (∀ v, (Y2.setCell ⟨rb, i * 8 + 4, none⟩ v).cell? ⟨vb, 3, none⟩ = some (.slice (some ⟨rb, 0, none⟩) S.length scap) ∧ (Y2.setCell ⟨rb, i * 8 + 4, none⟩ v).cell? ⟨wr.heap.size, 0, none⟩ = some (.int .i64 y1) ∧ (Y2.setCell ⟨rb, i * 8 + 4, none⟩ v).cell? ⟨wr.heap.size, 1, none⟩ = some (.int .i64 y2)) := fun v => ⟨by rw [cell_of (hp_set_other hv2 _ _ HXb.out.2)]; rfl, by rw [cell_of (hx3 v)]; rfl, by rw [cell_of (hx3 v)]; rfl⟩
                            refine hK.out _ _ HS2.out (fun hSS => ?_)
                            rw [HVi.out] at hc2
                            clear hK K hs2 hv2 hkp2 hx2 hx3 HY1 hr2 hg2
                            try simp only [Act.put, List.setIfInBounds_toArray, List.set_cons_zero, List.set_cons_succ, List.getElem_toArray, List.getElem_cons_zero, List.getElem_cons_succ]
                            refine wpAnyH_take (i := 13) (v := .pointer (some ⟨rb, i * 8, none⟩)) rfl (by kernel_rfl) (by kernel_rfl) (by kernel_rfl) (fun _ _ _ h => h) (Or.inl ⟨by rfl, by intro w' hw; go_simp⟩) hSS ?_
                            try simp only [Act.put, List.setIfInBounds_toArray, List.set_cons_zero, List.set_cons_succ, List.getElem_toArray, List.getElem_cons_zero, List.getElem_cons_succ]
                            refine wpAnyH_take (i := 14) (v := .pointer (some ⟨rb, i * 8 + 1, none⟩)) rfl (by kernel_rfl) (by kernel_rfl) (by kernel_rfl) (fun _ _ _ h => h) (Or.inl ⟨by rfl, by intro w' hw; go_simp⟩) hSS ?_
                            try simp only [Act.put, List.setIfInBounds_toArray, List.set_cons_zero, List.set_cons_succ, List.getElem_toArray, List.getElem_cons_zero, List.getElem_cons_succ]
                            refine wpAnyH_take (i := 15) (v := .pointer (some ⟨rb, i * 8 + 4, none⟩)) rfl (by kernel_rfl) (by kernel_rfl) (by kernel_rfl) (fun _ _ _ h => h) (Or.inl ⟨by rfl, by intro w' hw; go_simp⟩) hSS ?_
                            try simp only [Act.put, List.setIfInBounds_toArray, List.set_cons_zero, List.set_cons_succ, List.getElem_toArray, List.getElem_cons_zero, List.getElem_cons_succ]
                            refine wpAnyH_ready (rs := [16]) (by kernel_rfl) (by simp) ?_
                            refine AllReadyH.cons rfl (fun K hK => ?_) AllReadyH.nil
                            go_simp
                            refine hK.out _ _ (HS3.out _) (fun hSS => ?_)
                            clear hK K hSS HS3 HS2 hc2 hz2
                            try simp only [Act.put, List.setIfInBounds_toArray, List.set_cons_zero, List.set_cons_succ, List.getElem_toArray, List.getElem_cons_zero, List.getElem_cons_succ]
                            refine wpAnyH_done (by kernel_rfl) ?_ _
                            generalize Y2.setCell ⟨rb, i * 8 + 4, none⟩ (.slice vo2 vl2 vc2) = Y3 at HE2 ⊢
                            go_wp2_with fail
                            go_roundw
                            case rel => exact ⟨k + 1, by omega, by go_num, _, by rw [HTk.out]; exact HE2.out⟩
                            case measure => simp [intOf]; omega
                          · have HFix : Hid (fixV S (t1, (m : Int) + 1) = (0, 0)) := by
                              show _ = _
                              unfold fixV
                              rw [if_pos (by simp [ho, h3, e1])]
                            generalize hkd : (snAt S m).kind = kd at ck h3
                            have d1 : decide ((4 : Int) ≤ t1) = true := by simpa using h4
                            have d2 : decide (t1 ≤ 9) = true := by simpa using h9
                            have d3 : decide ((m : Int) + 1 < 1) = false := by simpa using h1
                            have d4 : decide ((S.length : Int) < (m : Int) + 1) = false := by simpa using h2
                            have d5 : (kd == t1) = false := by simpa using h3
                            clear ho hkd h3
                            go_wp2_with (first | rw [← HW6.out])
                            go_quiet (fail)
                            have HX7 : Hid (Kept No wr (W6.drewN nq) ∧ (W6.drewN nq).heap[wr.heap.size]? = some (.cells #[.int .i64 t1, .int .i64 ((m : Int) + 1)] 38 (0, 0))) := ⟨HK6.out.1.drewN nq, HK6.out.2⟩
                            clear u0 u1 v3 HW6
                            generalize W6.drewN nq = X7 at HX7 ⊢
                            have u0 : X7.cell? ⟨wr.heap.size, 0, none⟩ = some (.int .i64 t1) := by rw [cell_of HX7.out.2]; rfl
                            have u1 : X7.cell? ⟨wr.heap.size, 1, none⟩ = some (.int .i64 ((m : Int) + 1)) := by rw [cell_of HX7.out.2]; rfl
                            have z0 : X7.frozen? ⟨wr.heap.size, 0, none⟩ = false := frozen_of HX7.out.2 _
                            have z1 : X7.frozen? ⟨wr.heap.size, 1, none⟩ = false := frozen_of HX7.out.2 _
                            obtain ⟨X8, HX8⟩ : ∃ X8, Hid (X8 = (X7.setCell ⟨wr.heap.size, 0, none⟩ (.int .i64 0)).setCell ⟨wr.heap.size, 1, none⟩ (.int .i64 0)) := ⟨_, rfl⟩
                            have HX8b : Hid (X8.heap[wr.heap.size]? = some (.cells #[.int .i64 0, .int .i64 0] 38 (0, 0))) := by show _ = _; rw [HX8.out]; exact hp_set_same (hp_set_same HX7.out.2 0 _) 1 _
                            have HK8 : Hid (Kept No wr X8) := by show Kept _ _ _; rw [HX8.out]; exact (HX7.out.1.set _ _ _ (.inr HXw.out)).set _ _ _ (.inr HXw.out)
                            have HFx : Hid (fixV S (t1, ((m : Int) + 1)) = (0, 0)) := HFix.out
                            clear HX7 HFix
                            go_wp2_with (first | rw [← HX8.out])
                            clear u0 u1 z0 z1 HX8
                            obtain ⟨y1, y2, hy1, hy2⟩ : ∃ y1 y2 : Int, y1 = 0 ∧ y2 = 0 := ⟨_, _, rfl, rfl⟩
                            rw [← hy1] at HX8b HFx
                            rw [show (#[Value.int .i64 y1, Value.int .i64 y1] : Array Value) = #[Value.int .i64 y1, Value.int .i64 y2] by rw [hy1, hy2], ] at HX8b
                            rw [show ((y1, y1) : V) = (y1, y2) by rw [hy1, hy2]] at HFx
                            clear hy1 hy2
                            have HY8 : Hid (St w (BV md ph wh (.slice so S.length sc) (.slice go gn gc) (.slice ao an ac) (.slice po pn pc)) vb rb scap mdv S i Bi X8 vs (A0.take k) ∧ X8.heap[wr.heap.size]? = some (.cells #[.int .i64 y1, .int .i64 y2] 38 (0, 0))) := ⟨HSk.out.no HK8.out, HX8b.out⟩
                            have HSy : Hid (X8.drew.cell? ⟨vb, 3, none⟩ = some (.slice (some ⟨rb, 0, none⟩) S.length scap) ∧ X8.drew.cell? ⟨wr.heap.size, 0, none⟩ = some (.int .i64 y1) ∧ X8.drew.cell? ⟨wr.heap.size, 1, none⟩ = some (.int .i64 y2)) := ⟨by show X8.cell? _ = _; rw [cell_of HY8.out.1.vx]; rfl, by show X8.cell? _ = _; rw [cell_of HX8b.out]; rfl, by show X8.cell? _ = _; rw [cell_of HX8b.out]; rfl⟩
                            have HTk : Hid (A0.take (k + 1) = A0.take k ++ [(y1, y2)]) := by show _ = _; rw [HTk0.out, HFx.out]
                            have HTl : Hid ((A0.take k).length + 1 ≤ 1000000) := by show _ ≤ _; rw [List.length_take]; omega
                            clear HX8b HK8 HFx
                            refine wp_region_held_drew (S := fun X => X.cell? ⟨vb, 3, none⟩ = some (.slice (some ⟨rb, 0, none⟩) S.length scap) ∧ X.cell? ⟨wr.heap.size, 0, none⟩ = some (.int .i64 y1) ∧ X.cell? ⟨wr.heap.size, 1, none⟩ = some (.int .i64 y2)) mixed HSy.out (fun hSS => ?_)
                            obtain ⟨Y0, hY0⟩ : ∃ Y0, Y0 = X8.drew := ⟨_, rfl⟩
                            have HY0 : Hid (St w (BV md ph wh (.slice so S.length sc) (.slice go gn gc) (.slice ao an ac) (.slice po pn pc)) vb rb scap mdv S i Bi Y0 vs (A0.take k) ∧ Y0.heap[wr.heap.size]? = some (.cells #[.int .i64 y1, .int .i64 y2] 38 (0, 0))) := by rw [hY0]; exact ⟨HY8.out.1.no ((Kept.refl No _).drew), HY8.out.2⟩
                            rw [← hY0] at hSS ⊢
                            clear hY0 HY8 HSy
                            obtain ⟨uo, uc, hvi⟩ := HY0.out.1.row.form
                            have HVi : Hid (vs i = .slice uo (A0.take k).length uc) := hvi
                            clear hvi
                            generalize (A0.take k).length = ul at HVi
                            refine wpAnyH_take (i := 0) (v := .pointer (some ⟨vb, 3, none⟩)) rfl (by kernel_rfl) (by kernel_rfl) (by kernel_rfl) (fun _ _ _ h => h) (Or.inl ⟨by rfl, by intro w' hw; go_simp⟩) hSS ?_
                            try simp only [Act.put, List.setIfInBounds_toArray, List.set_cons_zero, List.set_cons_succ, List.getElem_toArray, List.getElem_cons_zero, List.getElem_cons_succ]
                            refine wpAnyH_take (i := 1) (v := .slice (some ⟨rb, 0, none⟩) S.length scap) rfl (by kernel_rfl) (by kernel_rfl) (by kernel_rfl) (fun _ _ _ h => h) (Or.inl ⟨by rfl, by intro w' hw; obtain ⟨q0, q1, q2⟩ := hw; go_simp⟩) hSS ?_
                            try simp only [Act.put, List.setIfInBounds_toArray, List.set_cons_zero, List.set_cons_succ, List.getElem_toArray, List.getElem_cons_zero, List.getElem_cons_succ]
                            refine wpAnyH_take (i := 2) (v := .int .i64 i) rfl (by kernel_rfl) (by kernel_rfl) (by kernel_rfl) (fun _ _ _ h => h) (Or.inl ⟨by rfl, by intro w' hw; go_simp⟩) hSS ?_
                            try simp only [Act.put, List.setIfInBounds_toArray, List.set_cons_zero, List.set_cons_succ, List.getElem_toArray, List.getElem_cons_zero, List.getElem_cons_succ]
                            refine wpAnyH_take (i := 3) (v := .pointer (some ⟨vb, 3, none⟩)) rfl (by kernel_rfl) (by kernel_rfl) (by kernel_rfl) (fun _ _ _ h => h) (Or.inl ⟨by rfl, by intro w' hw; go_simp⟩) hSS ?_
                            try simp only [Act.put, List.setIfInBounds_toArray, List.set_cons_zero, List.set_cons_succ, List.getElem_toArray, List.getElem_cons_zero, List.getElem_cons_succ]
                            refine wpAnyH_take (i := 4) (v := .slice (some ⟨rb, 0, none⟩) S.length scap) rfl (by kernel_rfl) (by kernel_rfl) (by kernel_rfl) (fun _ _ _ h => h) (Or.inl ⟨by rfl, by intro w' hw; obtain ⟨q0, q1, q2⟩ := hw; go_simp⟩) hSS ?_
                            try simp only [Act.put, List.setIfInBounds_toArray, List.set_cons_zero, List.set_cons_succ, List.getElem_toArray, List.getElem_cons_zero, List.getElem_cons_succ]
                            refine wpAnyH_take (i := 5) (v := .int .i64 i) rfl (by kernel_rfl) (by kernel_rfl) (by kernel_rfl) (fun _ _ _ h => h) (Or.inl ⟨by rfl, by intro w' hw; go_simp⟩) hSS ?_
                            try simp only [Act.put, List.setIfInBounds_toArray, List.set_cons_zero, List.set_cons_succ, List.getElem_toArray, List.getElem_cons_zero, List.getElem_cons_succ]
                            refine wpAnyH_take (i := 6) (v := .pointer (some ⟨rb, i * 8, none⟩)) rfl (by kernel_rfl) (by kernel_rfl) (by kernel_rfl) (fun _ _ _ h => h) (Or.inl ⟨by rfl, by intro w' hw; go_simp⟩) hSS ?_
                            try simp only [Act.put, List.setIfInBounds_toArray, List.set_cons_zero, List.set_cons_succ, List.getElem_toArray, List.getElem_cons_zero, List.getElem_cons_succ]
                            refine wpAnyH_take (i := 7) (v := .pointer (some ⟨rb, i * 8 + 1, none⟩)) rfl (by kernel_rfl) (by kernel_rfl) (by kernel_rfl) (fun _ _ _ h => h) (Or.inl ⟨by rfl, by intro w' hw; go_simp⟩) hSS ?_
                            try simp only [Act.put, List.setIfInBounds_toArray, List.set_cons_zero, List.set_cons_succ, List.getElem_toArray, List.getElem_cons_zero, List.getElem_cons_succ]
                            refine wpAnyH_take (i := 8) (v := .pointer (some ⟨rb, i * 8 + 4, none⟩)) rfl (by kernel_rfl) (by kernel_rfl) (by kernel_rfl) (fun _ _ _ h => h) (Or.inl ⟨by rfl, by intro w' hw; go_simp⟩) hSS ?_
                            try simp only [Act.put, List.setIfInBounds_toArray, List.set_cons_zero, List.set_cons_succ, List.getElem_toArray, List.getElem_cons_zero, List.getElem_cons_succ]
                            refine wpAnyH_take (i := 10) (v := .agg #[.int .i64 y1, .int .i64 y2]) rfl (by kernel_rfl) (by kernel_rfl) (by kernel_rfl) (fun _ _ _ h => h) (Or.inl ⟨by rfl, by intro w' hw; obtain ⟨q0, q1, q2⟩ := hw; go_simp⟩) hSS ?_
                            try simp only [Act.put, List.setIfInBounds_toArray, List.set_cons_zero, List.set_cons_succ, List.getElem_toArray, List.getElem_cons_zero, List.getElem_cons_succ]
                            refine (fun (key : ∀ (nb : Nat) (Y1 : World), Hid (St w (BV md ph wh (.slice so S.length sc) (.slice go gn gc) (.slice ao an ac) (.slice po pn pc)) vb rb scap mdv S i Bi Y1 vs (A0.take k) ∧ Y1.heap[wr.heap.size]? = some (.cells #[.int .i64 y1, .int .i64 y2] 38 (0, 0)) ∧ Y1.heap[nb]? = some (.cells #[.int .i64 y1, .int .i64 y2] 38 (0, 0)) ∧ Bi ≤ Y1.heap.size) → (?PK4 : Nat → World → Prop) nb Y1) => ?body4) ?tail4
                            case body4 =>
                              have HNew : Hid (St w (BV md ph wh (.slice so S.length sc) (.slice go gn gc) (.slice ao an ac) (.slice po pn pc)) vb rb scap mdv S i Bi (Y0.alloc (.cells #[.int .i64 y1, .int .i64 y2] 38)) vs (A0.take k) ∧ (Y0.alloc (.cells #[.int .i64 y1, .int .i64 y2] 38)).heap[wr.heap.size]? = some (.cells #[.int .i64 y1, .int .i64 y2] 38 (0, 0)) ∧ (Y0.alloc (.cells #[.int .i64 y1, .int .i64 y2] 38)).heap[Y0.heap.size]? = some (.cells #[.int .i64 y1, .int .i64 y2] 38 (0, 0)) ∧ Bi ≤ (Y0.alloc (.cells #[.int .i64 y1, .int .i64 y2] 38)).heap.size) := ⟨HY0.out.1.no ((Kept.refl No _).alloc _), (Below.heap_alloc _ _ _ (hp_lt HY0.out.2)).trans HY0.out.2, World.alloc_heap_new _ _, by rw [World.size_alloc]; have := HY0.out.1.sz; omega⟩
                              have HSn : Hid ((Y0.alloc (.cells #[.int .i64 y1, .int .i64 y2] 38)).cell? ⟨vb, 3, none⟩ = some (.slice (some ⟨rb, 0, none⟩) S.length scap) ∧ (Y0.alloc (.cells #[.int .i64 y1, .int .i64 y2] 38)).cell? ⟨wr.heap.size, 0, none⟩ = some (.int .i64 y1) ∧ (Y0.alloc (.cells #[.int .i64 y1, .int .i64 y2] 38)).cell? ⟨wr.heap.size, 1, none⟩ = some (.int .i64 y2)) := ⟨cell_al1 hSS.1 _, cell_al1 hSS.2.1 _, cell_al1 hSS.2.2 _⟩
                              have c0 : Y0.cell? ⟨rb, i * 8 + 4, none⟩ = some (.slice uo ul uc) := by rw [← HVi.out]; exact (HY0.out.1.cell hlt).2.1
                              have c1 : (Y0.alloc (.cells #[.int .i64 y1, .int .i64 y2] 38)).cell? ⟨rb, i * 8 + 4, none⟩ = some (.slice uo ul uc) := cell_al1 c0 _
                              refine wpAnyH_ready (rs := [9, 11]) (by kernel_rfl) (by simp) ?_
                              refine AllReadyH.cons rfl (fun K hK => ?_) (AllReadyH.cons rfl (fun K hK => ?_) AllReadyH.nil)
                              · go_simp
                                refine hK.out _ _ hSS (fun hSS => ?_)
                                clear hK K
                                try simp only [Act.put, List.setIfInBounds_toArray, List.set_cons_zero, List.set_cons_succ, List.getElem_toArray, List.getElem_cons_zero, List.getElem_cons_succ]
                                refine wpAnyH_ready (rs := [11]) (by kernel_rfl) (by simp) ?_
                                refine AllReadyH.cons rfl (fun K hK => ?_) AllReadyH.nil
                                go_simp
                                refine hK.out _ _ HSn.out (fun hSS => ?_)
                                clear hK K
                                try simp only [Act.put, List.setIfInBounds_toArray, List.set_cons_zero, List.set_cons_succ, List.getElem_toArray, List.getElem_cons_zero, List.getElem_cons_succ]
                                clear c0 c1 HSn hSS
                                generalize Y0.heap.size = nb at HNew ⊢
                                generalize Y0.alloc (.cells #[.int .i64 y1, .int .i64 y2] 38) = Y1 at HNew ⊢
                                exact key nb Y1 HNew
                              · go_simp
                                refine hK.out _ _ HSn.out (fun hSS => ?_)
                                clear hK K
                                try simp only [Act.put, List.setIfInBounds_toArray, List.set_cons_zero, List.set_cons_succ, List.getElem_toArray, List.getElem_cons_zero, List.getElem_cons_succ]
                                refine wpAnyH_ready (rs := [9]) (by kernel_rfl) (by simp) ?_
                                refine AllReadyH.cons rfl (fun K hK => ?_) AllReadyH.nil
                                go_simp
                                refine hK.out _ _ HSn.out (fun hSS => ?_)
                                clear hK K
                                try simp only [Act.put, List.setIfInBounds_toArray, List.set_cons_zero, List.set_cons_succ, List.getElem_toArray, List.getElem_cons_zero, List.getElem_cons_succ]
                                clear c0 c1 HSn hSS
                                generalize Y0.heap.size = nb at HNew ⊢
                                generalize Y0.alloc (.cells #[.int .i64 y1, .int .i64 y2] 38) = Y1 at HNew ⊢
                                exact key nb Y1 HNew
                            case tail4 =>
                            intro nb Y1 HY1
                            clear hSS HY0
                            refine wpAnyH_ready (rs := [12]) (by kernel_rfl) (by simp) ?_
                            refine AllReadyH.cons rfl (fun K hK => ?_) AllReadyH.nil
                            rw [if_pos (by kernel_rfl)]
                            refine app_uO (.tmp 116) (.tmp 118) rfl (v := vs i) (by rw [HVi.out]; rfl) HY1.out.1.row nb (y1, y2) rfl HY1.out.2.2.1 HTl.out HY1.out.2.2.2 (fun v' Y2 hr2 hg2 => ?_)
                            obtain ⟨hs2, ⟨hc2, hz2⟩, hv2, hkp2⟩ := HY1.out.1.step ⟨_, _, rfl⟩ hlt hg2 hr2
                            have hx2 : Y2.heap[wr.heap.size]? = some (.cells #[.int .i64 y1, .int .i64 y2] 38 (0, 0)) := hkp2 _ _ HY1.out.2.1 (fun g hg => HXr.out g hg)
                            obtain ⟨vo2, vc2, rfl⟩ := hr2.form
                            generalize (A0.take k ++ [(y1, y2)]).length = vl2 at hs2 hr2 hg2 ⊢
                            have HS2 : Hid (Y2.cell? ⟨vb, 3, none⟩ = some (.slice (some ⟨rb, 0, none⟩) S.length scap) ∧ Y2.cell? ⟨wr.heap.size, 0, none⟩ = some (.int .i64 y1) ∧ Y2.cell? ⟨wr.heap.size, 1, none⟩ = some (.int .i64 y2)) := ⟨by rw [cell_of hv2]; rfl, by rw [cell_of hx2]; rfl, by rw [cell_of hx2]; rfl⟩
                            have HE2 : Hid _ := hs2
                            have hx3 : ∀ v, (Y2.setCell ⟨rb, i * 8 + 4, none⟩ v).heap[wr.heap.size]? = some (.cells #[.int .i64 y1, .int .i64 y2] 38 (0, 0)) := fun v => hp_set_other hx2 _ _ HXb.out.1
                            have HS3 : Hid (∀ v, (Y2.setCell ⟨rb, i * 8 + 4, none⟩ v).cell? ⟨vb, 3, none⟩ = some (.slice (some ⟨rb, 0, none⟩) S.length scap) ∧ (Y2.setCell ⟨rb, i * 8 + 4, none⟩ v).cell? ⟨wr.heap.size, 0, none⟩ = some (.int .i64 y1) ∧ (Y2.setCell ⟨rb, i * 8 + 4, none⟩ v).cell? ⟨wr.heap.size, 1, none⟩ = some (.int .i64 y2)) := fun v => ⟨by rw [cell_of (hp_set_other hv2 _ _ HXb.out.2)]; rfl, by rw [cell_of (hx3 v)]; rfl, by rw [cell_of (hx3 v)]; rfl⟩
                            refine hK.out _ _ HS2.out (fun hSS => ?_)
                            rw [HVi.out] at hc2
                            clear hK K hs2 hv2 hkp2 hx2 hx3 HY1 hr2 hg2
                            try simp only [Act.put, List.setIfInBounds_toArray, List.set_cons_zero, List.set_cons_succ, List.getElem_toArray, List.getElem_cons_zero, List.getElem_cons_succ]
                            refine wpAnyH_take (i := 13) (v := .pointer (some ⟨rb, i * 8, none⟩)) rfl (by kernel_rfl) (by kernel_rfl) (by kernel_rfl) (fun _ _ _ h => h) (Or.inl ⟨by rfl, by intro w' hw; go_simp⟩) hSS ?_
                            try simp only [Act.put, List.setIfInBounds_toArray, List.set_cons_zero, List.set_cons_succ, List.getElem_toArray, List.getElem_cons_zero, List.getElem_cons_succ]
                            refine wpAnyH_take (i := 14) (v := .pointer (some ⟨rb, i * 8 + 1, none⟩)) rfl (by kernel_rfl) (by kernel_rfl) (by kernel_rfl) (fun _ _ _ h => h) (Or.inl ⟨by rfl, by intro w' hw; go_simp⟩) hSS ?_
                            try simp only [Act.put, List.setIfInBounds_toArray, List.set_cons_zero, List.set_cons_succ, List.getElem_toArray, List.getElem_cons_zero, List.getElem_cons_succ]
                            refine wpAnyH_take (i := 15) (v := .pointer (some ⟨rb, i * 8 + 4, none⟩)) rfl (by kernel_rfl) (by kernel_rfl) (by kernel_rfl) (fun _ _ _ h => h) (Or.inl ⟨by rfl, by intro w' hw; go_simp⟩) hSS ?_
                            try simp only [Act.put, List.setIfInBounds_toArray, List.set_cons_zero, List.set_cons_succ, List.getElem_toArray, List.getElem_cons_zero, List.getElem_cons_succ]
                            refine wpAnyH_ready (rs := [16]) (by kernel_rfl) (by simp) ?_
                            refine AllReadyH.cons rfl (fun K hK => ?_) AllReadyH.nil
                            go_simp
                            refine hK.out _ _ (HS3.out _) (fun hSS => ?_)
                            clear hK K hSS HS3 HS2 hc2 hz2
                            try simp only [Act.put, List.setIfInBounds_toArray, List.set_cons_zero, List.set_cons_succ, List.getElem_toArray, List.getElem_cons_zero, List.getElem_cons_succ]
                            refine wpAnyH_done (by kernel_rfl) ?_ _
                            generalize Y2.setCell ⟨rb, i * 8 + 4, none⟩ (.slice vo2 vl2 vc2) = Y3 at HE2 ⊢
                            go_wp2_with fail
                            go_roundw
                            case rel => exact ⟨k + 1, by omega, by go_num, _, by rw [HTk.out]; exact HE2.out⟩
                            case measure => simp [intOf]; omega
                    · have HFix : Hid (fixV S (t1, t2) = (t1, t2)) := by
                        show _ = _
                        unfold fixV
                        rw [if_neg (by simp [oT, h9])]
                      have d1 : decide ((4 : Int) ≤ t1) = true := by simpa using h4
                      have d2 : decide (t1 ≤ 9) = false := by simpa using h9
                      go_wp2_with (first | rw [← HW6.out])
                      go_quiet (fail)
                      have HX8 : Hid (Kept No wr (W6.drewN nq) ∧ (W6.drewN nq).heap[wr.heap.size]? = some (.cells #[.int .i64 t1, .int .i64 t2] 38 (0, 0))) := ⟨HK6.out.1.drewN nq, HK6.out.2⟩
                      clear u0 u1 v3 HW6
                      generalize W6.drewN nq = X8 at HX8 ⊢
                      obtain ⟨y1, y2, hy1, hy2⟩ : ∃ y1 y2, y1 = t1 ∧ y2 = t2 := ⟨_, _, rfl, rfl⟩
                      have HFx : Hid (fixV S (t1, t2) = (y1, y2)) := by show _ = _; rw [HFix.out, hy1, hy2]
                      have HX8b : Hid (X8.heap[wr.heap.size]? = some (.cells #[.int .i64 y1, .int .i64 y2] 38 (0, 0))) := by rw [hy1, hy2]; exact HX8.out.2
                      have HK8 : Hid (Kept No wr X8) := HX8.out.1
                      clear hy1 hy2 HX8 HFix
                      go_wp2_with fail
                      have HY8 : Hid (St w (BV md ph wh (.slice so S.length sc) (.slice go gn gc) (.slice ao an ac) (.slice po pn pc)) vb rb scap mdv S i Bi X8 vs (A0.take k) ∧ X8.heap[wr.heap.size]? = some (.cells #[.int .i64 y1, .int .i64 y2] 38 (0, 0))) := ⟨HSk.out.no HK8.out, HX8b.out⟩
                      have HSy : Hid (X8.drew.cell? ⟨vb, 3, none⟩ = some (.slice (some ⟨rb, 0, none⟩) S.length scap) ∧ X8.drew.cell? ⟨wr.heap.size, 0, none⟩ = some (.int .i64 y1) ∧ X8.drew.cell? ⟨wr.heap.size, 1, none⟩ = some (.int .i64 y2)) := ⟨by show X8.cell? _ = _; rw [cell_of HY8.out.1.vx]; rfl, by show X8.cell? _ = _; rw [cell_of HX8b.out]; rfl, by show X8.cell? _ = _; rw [cell_of HX8b.out]; rfl⟩
                      have HTk : Hid (A0.take (k + 1) = A0.take k ++ [(y1, y2)]) := by show _ = _; rw [HTk0.out, HFx.out]
                      have HTl : Hid ((A0.take k).length + 1 ≤ 1000000) := by show _ ≤ _; rw [List.length_take]; omega
                      clear HX8b HK8 HFx
                      refine wp_region_held_drew (S := fun X => X.cell? ⟨vb, 3, none⟩ = some (.slice (some ⟨rb, 0, none⟩) S.length scap) ∧ X.cell? ⟨wr.heap.size, 0, none⟩ = some (.int .i64 y1) ∧ X.cell? ⟨wr.heap.size, 1, none⟩ = some (.int .i64 y2)) mixed HSy.out (fun hSS => ?_)
                      obtain ⟨Y0, hY0⟩ : ∃ Y0, Y0 = X8.drew := ⟨_, rfl⟩
                      have HY0 : Hid (St w (BV md ph wh (.slice so S.length sc) (.slice go gn gc) (.slice ao an ac) (.slice po pn pc)) vb rb scap mdv S i Bi Y0 vs (A0.take k) ∧ Y0.heap[wr.heap.size]? = some (.cells #[.int .i64 y1, .int .i64 y2] 38 (0, 0))) := by rw [hY0]; exact ⟨HY8.out.1.no ((Kept.refl No _).drew), HY8.out.2⟩
                      rw [← hY0] at hSS ⊢
                      clear hY0 HY8 HSy
                      obtain ⟨uo, uc, hvi⟩ := HY0.out.1.row.form
                      have HVi : Hid (vs i = .slice uo (A0.take k).length uc) := hvi
                      clear hvi
                      generalize (A0.take k).length = ul at HVi
                      refine wpAnyH_take (i := 0) (v := .pointer (some ⟨vb, 3, none⟩)) rfl (by kernel_rfl) (by kernel_rfl) (by kernel_rfl) (fun _ _ _ h => h) (Or.inl ⟨by rfl, by intro w' hw; go_simp⟩) hSS ?_
                      try simp only [Act.put, List.setIfInBounds_toArray, List.set_cons_zero, List.set_cons_succ, List.getElem_toArray, List.getElem_cons_zero, List.getElem_cons_succ]
                      refine wpAnyH_take (i := 1) (v := .slice (some ⟨rb, 0, none⟩) S.length scap) rfl (by kernel_rfl) (by kernel_rfl) (by kernel_rfl) (fun _ _ _ h => h) (Or.inl ⟨by rfl, by intro w' hw; obtain ⟨q0, q1, q2⟩ := hw; go_simp⟩) hSS ?_
                      try simp only [Act.put, List.setIfInBounds_toArray, List.set_cons_zero, List.set_cons_succ, List.getElem_toArray, List.getElem_cons_zero, List.getElem_cons_succ]
                      refine wpAnyH_take (i := 2) (v := .int .i64 i) rfl (by kernel_rfl) (by kernel_rfl) (by kernel_rfl) (fun _ _ _ h => h) (Or.inl ⟨by rfl, by intro w' hw; go_simp⟩) hSS ?_
                      try simp only [Act.put, List.setIfInBounds_toArray, List.set_cons_zero, List.set_cons_succ, List.getElem_toArray, List.getElem_cons_zero, List.getElem_cons_succ]
                      refine wpAnyH_take (i := 3) (v := .pointer (some ⟨vb, 3, none⟩)) rfl (by kernel_rfl) (by kernel_rfl) (by kernel_rfl) (fun _ _ _ h => h) (Or.inl ⟨by rfl, by intro w' hw; go_simp⟩) hSS ?_
                      try simp only [Act.put, List.setIfInBounds_toArray, List.set_cons_zero, List.set_cons_succ, List.getElem_toArray, List.getElem_cons_zero, List.getElem_cons_succ]
                      refine wpAnyH_take (i := 4) (v := .slice (some ⟨rb, 0, none⟩) S.length scap) rfl (by kernel_rfl) (by kernel_rfl) (by kernel_rfl) (fun _ _ _ h => h) (Or.inl ⟨by rfl, by intro w' hw; obtain ⟨q0, q1, q2⟩ := hw; go_simp⟩) hSS ?_
                      try simp only [Act.put, List.setIfInBounds_toArray, List.set_cons_zero, List.set_cons_succ, List.getElem_toArray, List.getElem_cons_zero, List.getElem_cons_succ]
                      refine wpAnyH_take (i := 5) (v := .int .i64 i) rfl (by kernel_rfl) (by kernel_rfl) (by kernel_rfl) (fun _ _ _ h => h) (Or.inl ⟨by rfl, by intro w' hw; go_simp⟩) hSS ?_
                      try simp only [Act.put, List.setIfInBounds_toArray, List.set_cons_zero, List.set_cons_succ, List.getElem_toArray, List.getElem_cons_zero, List.getElem_cons_succ]
                      refine wpAnyH_take (i := 6) (v := .pointer (some ⟨rb, i * 8, none⟩)) rfl (by kernel_rfl) (by kernel_rfl) (by kernel_rfl) (fun _ _ _ h => h) (Or.inl ⟨by rfl, by intro w' hw; go_simp⟩) hSS ?_
                      try simp only [Act.put, List.setIfInBounds_toArray, List.set_cons_zero, List.set_cons_succ, List.getElem_toArray, List.getElem_cons_zero, List.getElem_cons_succ]
                      refine wpAnyH_take (i := 7) (v := .pointer (some ⟨rb, i * 8 + 1, none⟩)) rfl (by kernel_rfl) (by kernel_rfl) (by kernel_rfl) (fun _ _ _ h => h) (Or.inl ⟨by rfl, by intro w' hw; go_simp⟩) hSS ?_
                      try simp only [Act.put, List.setIfInBounds_toArray, List.set_cons_zero, List.set_cons_succ, List.getElem_toArray, List.getElem_cons_zero, List.getElem_cons_succ]
                      refine wpAnyH_take (i := 8) (v := .pointer (some ⟨rb, i * 8 + 4, none⟩)) rfl (by kernel_rfl) (by kernel_rfl) (by kernel_rfl) (fun _ _ _ h => h) (Or.inl ⟨by rfl, by intro w' hw; go_simp⟩) hSS ?_
                      try simp only [Act.put, List.setIfInBounds_toArray, List.set_cons_zero, List.set_cons_succ, List.getElem_toArray, List.getElem_cons_zero, List.getElem_cons_succ]
                      refine wpAnyH_take (i := 10) (v := .agg #[.int .i64 y1, .int .i64 y2]) rfl (by kernel_rfl) (by kernel_rfl) (by kernel_rfl) (fun _ _ _ h => h) (Or.inl ⟨by rfl, by intro w' hw; obtain ⟨q0, q1, q2⟩ := hw; go_simp⟩) hSS ?_
                      try simp only [Act.put, List.setIfInBounds_toArray, List.set_cons_zero, List.set_cons_succ, List.getElem_toArray, List.getElem_cons_zero, List.getElem_cons_succ]
                      refine (fun (key : ∀ (nb : Nat) (Y1 : World), Hid (St w (BV md ph wh (.slice so S.length sc) (.slice go gn gc) (.slice ao an ac) (.slice po pn pc)) vb rb scap mdv S i Bi Y1 vs (A0.take k) ∧ Y1.heap[wr.heap.size]? = some (.cells #[.int .i64 y1, .int .i64 y2] 38 (0, 0)) ∧ Y1.heap[nb]? = some (.cells #[.int .i64 y1, .int .i64 y2] 38 (0, 0)) ∧ Bi ≤ Y1.heap.size) → (?PK5 : Nat → World → Prop) nb Y1) => ?body5) ?tail5
                      case body5 =>
                        have HNew : Hid (St w (BV md ph wh (.slice so S.length sc) (.slice go gn gc) (.slice ao an ac) (.slice po pn pc)) vb rb scap mdv S i Bi (Y0.alloc (.cells #[.int .i64 y1, .int .i64 y2] 38)) vs (A0.take k) ∧ (Y0.alloc (.cells #[.int .i64 y1, .int .i64 y2] 38)).heap[wr.heap.size]? = some (.cells #[.int .i64 y1, .int .i64 y2] 38 (0, 0)) ∧ (Y0.alloc (.cells #[.int .i64 y1, .int .i64 y2] 38)).heap[Y0.heap.size]? = some (.cells #[.int .i64 y1, .int .i64 y2] 38 (0, 0)) ∧ Bi ≤ (Y0.alloc (.cells #[.int .i64 y1, .int .i64 y2] 38)).heap.size) := ⟨HY0.out.1.no ((Kept.refl No _).alloc _), (Below.heap_alloc _ _ _ (hp_lt HY0.out.2)).trans HY0.out.2, World.alloc_heap_new _ _, by rw [World.size_alloc]; have := HY0.out.1.sz; omega⟩
                        have HSn : Hid ((Y0.alloc (.cells #[.int .i64 y1, .int .i64 y2] 38)).cell? ⟨vb, 3, none⟩ = some (.slice (some ⟨rb, 0, none⟩) S.length scap) ∧ (Y0.alloc (.cells #[.int .i64 y1, .int .i64 y2] 38)).cell? ⟨wr.heap.size, 0, none⟩ = some (.int .i64 y1) ∧ (Y0.alloc (.cells #[.int .i64 y1, .int .i64 y2] 38)).cell? ⟨wr.heap.size, 1, none⟩ = some (.int .i64 y2)) := ⟨cell_al1 hSS.1 _, cell_al1 hSS.2.1 _, cell_al1 hSS.2.2 _⟩
                        have c0 : Y0.cell? ⟨rb, i * 8 + 4, none⟩ = some (.slice uo ul uc) := by rw [← HVi.out]; exact (HY0.out.1.cell hlt).2.1
                        have c1 : (Y0.alloc (.cells #[.int .i64 y1, .int .i64 y2] 38)).cell? ⟨rb, i * 8 + 4, none⟩ = some (.slice uo ul uc) := cell_al1 c0 _
                        refine wpAnyH_ready (rs := [9, 11]) (by kernel_rfl) (by simp) ?_
                        refine AllReadyH.cons rfl (fun K hK => ?_) (AllReadyH.cons rfl (fun K hK => ?_) AllReadyH.nil)
                        · go_simp
                          refine hK.out _ _ hSS (fun hSS => ?_)
                          clear hK K
                          try simp only [Act.put, List.setIfInBounds_toArray, List.set_cons_zero, List.set_cons_succ, List.getElem_toArray, List.getElem_cons_zero, List.getElem_cons_succ]
                          refine wpAnyH_ready (rs := [11]) (by kernel_rfl) (by simp) ?_
                          refine AllReadyH.cons rfl (fun K hK => ?_) AllReadyH.nil
                          go_simp
                          refine hK.out _ _ HSn.out (fun hSS => ?_)
                          clear hK K
                          try simp only [Act.put, List.setIfInBounds_toArray, List.set_cons_zero, List.set_cons_succ, List.getElem_toArray, List.getElem_cons_zero, List.getElem_cons_succ]
                          clear c0 c1 HSn hSS
                          generalize Y0.heap.size = nb at HNew ⊢
                          generalize Y0.alloc (.cells #[.int .i64 y1, .int .i64 y2] 38) = Y1 at HNew ⊢
                          exact key nb Y1 HNew
                        · go_simp
                          refine hK.out _ _ HSn.out (fun hSS => ?_)
                          clear hK K
                          try simp only [Act.put, List.setIfInBounds_toArray, List.set_cons_zero, List.set_cons_succ, List.getElem_toArray, List.getElem_cons_zero, List.getElem_cons_succ]
                          refine wpAnyH_ready (rs := [9]) (by kernel_rfl) (by simp) ?_
                          refine AllReadyH.cons rfl (fun K hK => ?_) AllReadyH.nil
                          go_simp
                          refine hK.out _ _ HSn.out (fun hSS => ?_)
                          clear hK K
                          try simp only [Act.put, List.setIfInBounds_toArray, List.set_cons_zero, List.set_cons_succ, List.getElem_toArray, List.getElem_cons_zero, List.getElem_cons_succ]
                          clear c0 c1 HSn hSS
                          generalize Y0.heap.size = nb at HNew ⊢
                          generalize Y0.alloc (.cells #[.int .i64 y1, .int .i64 y2] 38) = Y1 at HNew ⊢
                          exact key nb Y1 HNew
                      case tail5 =>
                      intro nb Y1 HY1
                      clear hSS HY0
                      refine wpAnyH_ready (rs := [12]) (by kernel_rfl) (by simp) ?_
                      refine AllReadyH.cons rfl (fun K hK => ?_) AllReadyH.nil
                      rw [if_pos (by kernel_rfl)]
                      refine app_uO (.tmp 116) (.tmp 118) rfl (v := vs i) (by rw [HVi.out]; rfl) HY1.out.1.row nb (y1, y2) rfl HY1.out.2.2.1 HTl.out HY1.out.2.2.2 (fun v' Y2 hr2 hg2 => ?_)
                      obtain ⟨hs2, ⟨hc2, hz2⟩, hv2, hkp2⟩ := HY1.out.1.step ⟨_, _, rfl⟩ hlt hg2 hr2
                      have hx2 : Y2.heap[wr.heap.size]? = some (.cells #[.int .i64 y1, .int .i64 y2] 38 (0, 0)) := hkp2 _ _ HY1.out.2.1 (fun g hg => HXr.out g hg)
                      obtain ⟨vo2, vc2, rfl⟩ := hr2.form
                      generalize (A0.take k ++ [(y1, y2)]).length = vl2 at hs2 hr2 hg2 ⊢
                      have HS2 : Hid (Y2.cell? ⟨vb, 3, none⟩ = some (.slice (some ⟨rb, 0, none⟩) S.length scap) ∧ Y2.cell? ⟨wr.heap.size, 0, none⟩ = some (.int .i64 y1) ∧ Y2.cell? ⟨wr.heap.size, 1, none⟩ = some (.int .i64 y2)) := ⟨by rw [cell_of hv2]; rfl, by rw [cell_of hx2]; rfl, by rw [cell_of hx2]; rfl⟩
                      have HE2 : Hid _ := hs2
                      have hx3 : ∀ v, (Y2.setCell ⟨rb, i * 8 + 4, none⟩ v).heap[wr.heap.size]? = some (.cells #[.int .i64 y1, .int .i64 y2] 38 (0, 0)) := fun v => hp_set_other hx2 _ _ HXb.out.1
                      have HS3 : Hid (∀ v, (Y2.setCell ⟨rb, i * 8 + 4, none⟩ v).cell? ⟨vb, 3, none⟩ = some (.slice (some ⟨rb, 0, none⟩) S.length scap) ∧ (Y2.setCell ⟨rb, i * 8 + 4, none⟩ v).cell? ⟨wr.heap.size, 0, none⟩ = some (.int .i64 y1) ∧ (Y2.setCell ⟨rb, i * 8 + 4, none⟩ v).cell? ⟨wr.heap.size, 1, none⟩ = some (.int .i64 y2)) := fun v => ⟨by rw [cell_of (hp_set_other hv2 _ _ HXb.out.2)]; rfl, by rw [cell_of (hx3 v)]; rfl, by rw [cell_of (hx3 v)]; rfl⟩
                      refine hK.out _ _ HS2.out (fun hSS => ?_)
                      rw [HVi.out] at hc2
                      clear hK K hs2 hv2 hkp2 hx2 hx3 HY1 hr2 hg2
                      try simp only [Act.put, List.setIfInBounds_toArray, List.set_cons_zero, List.set_cons_succ, List.getElem_toArray, List.getElem_cons_zero, List.getElem_cons_succ]
                      refine wpAnyH_take (i := 13) (v := .pointer (some ⟨rb, i * 8, none⟩)) rfl (by kernel_rfl) (by kernel_rfl) (by kernel_rfl) (fun _ _ _ h => h) (Or.inl ⟨by rfl, by intro w' hw; go_simp⟩) hSS ?_
                      try simp only [Act.put, List.setIfInBounds_toArray, List.set_cons_zero, List.set_cons_succ, List.getElem_toArray, List.getElem_cons_zero, List.getElem_cons_succ]
                      refine wpAnyH_take (i := 14) (v := .pointer (some ⟨rb, i * 8 + 1, none⟩)) rfl (by kernel_rfl) (by kernel_rfl) (by kernel_rfl) (fun _ _ _ h => h) (Or.inl ⟨by rfl, by intro w' hw; go_simp⟩) hSS ?_
                      try simp only [Act.put, List.setIfInBounds_toArray, List.set_cons_zero, List.set_cons_succ, List.getElem_toArray, List.getElem_cons_zero, List.getElem_cons_succ]
                      refine wpAnyH_take (i := 15) (v := .pointer (some ⟨rb, i * 8 + 4, none⟩)) rfl (by kernel_rfl) (by kernel_rfl) (by kernel_rfl) (fun _ _ _ h => h) (Or.inl ⟨by rfl, by intro w' hw; go_simp⟩) hSS ?_
                      try simp only [Act.put, List.setIfInBounds_toArray, List.set_cons_zero, List.set_cons_succ, List.getElem_toArray, List.getElem_cons_zero, List.getElem_cons_succ]
                      refine wpAnyH_ready (rs := [16]) (by kernel_rfl) (by simp) ?_
                      refine AllReadyH.cons rfl (fun K hK => ?_) AllReadyH.nil
                      go_simp
                      refine hK.out _ _ (HS3.out _) (fun hSS => ?_)
                      clear hK K hSS HS3 HS2 hc2 hz2
                      try simp only [Act.put, List.setIfInBounds_toArray, List.set_cons_zero, List.set_cons_succ, List.getElem_toArray, List.getElem_cons_zero, List.getElem_cons_succ]
                      refine wpAnyH_done (by kernel_rfl) ?_ _
                      generalize Y2.setCell ⟨rb, i * 8 + 4, none⟩ (.slice vo2 vl2 vc2) = Y3 at HE2 ⊢
                      go_wp2_with fail
                      go_roundw
                      case rel => exact ⟨k + 1, by omega, by go_num, _, by rw [HTk.out]; exact HE2.out⟩
                      case measure => simp [intOf]; omega
                  · have HFix : Hid (fixV S (t1, t2) = (t1, t2)) := by
                      show _ = _
                      unfold fixV
                      rw [if_neg (by simp [oT, h4])]
                    have d1 : decide ((4 : Int) ≤ t1) = false := by simpa using h4
                    go_wp2_with (first | rw [← HW6.out])
                    go_quiet (fail)
                    have HX8 : Hid (Kept No wr (W6.drewN nq) ∧ (W6.drewN nq).heap[wr.heap.size]? = some (.cells #[.int .i64 t1, .int .i64 t2] 38 (0, 0))) := ⟨HK6.out.1.drewN nq, HK6.out.2⟩
                    clear u0 u1 v3 HW6
                    generalize W6.drewN nq = X8 at HX8 ⊢
                    obtain ⟨y1, y2, hy1, hy2⟩ : ∃ y1 y2, y1 = t1 ∧ y2 = t2 := ⟨_, _, rfl, rfl⟩
                    have HFx : Hid (fixV S (t1, t2) = (y1, y2)) := by show _ = _; rw [HFix.out, hy1, hy2]
                    have HX8b : Hid (X8.heap[wr.heap.size]? = some (.cells #[.int .i64 y1, .int .i64 y2] 38 (0, 0))) := by rw [hy1, hy2]; exact HX8.out.2
                    have HK8 : Hid (Kept No wr X8) := HX8.out.1
                    clear hy1 hy2 HX8 HFix
                    go_wp2_with fail
                    have HY8 : Hid (St w (BV md ph wh (.slice so S.length sc) (.slice go gn gc) (.slice ao an ac) (.slice po pn pc)) vb rb scap mdv S i Bi X8 vs (A0.take k) ∧ X8.heap[wr.heap.size]? = some (.cells #[.int .i64 y1, .int .i64 y2] 38 (0, 0))) := ⟨HSk.out.no HK8.out, HX8b.out⟩
                    have HSy : Hid (X8.drew.cell? ⟨vb, 3, none⟩ = some (.slice (some ⟨rb, 0, none⟩) S.length scap) ∧ X8.drew.cell? ⟨wr.heap.size, 0, none⟩ = some (.int .i64 y1) ∧ X8.drew.cell? ⟨wr.heap.size, 1, none⟩ = some (.int .i64 y2)) := ⟨by show X8.cell? _ = _; rw [cell_of HY8.out.1.vx]; rfl, by show X8.cell? _ = _; rw [cell_of HX8b.out]; rfl, by show X8.cell? _ = _; rw [cell_of HX8b.out]; rfl⟩
                    have HTk : Hid (A0.take (k + 1) = A0.take k ++ [(y1, y2)]) := by show _ = _; rw [HTk0.out, HFx.out]
                    have HTl : Hid ((A0.take k).length + 1 ≤ 1000000) := by show _ ≤ _; rw [List.length_take]; omega
                    clear HX8b HK8 HFx
                    refine wp_region_held_drew (S := fun X => X.cell? ⟨vb, 3, none⟩ = some (.slice (some ⟨rb, 0, none⟩) S.length scap) ∧ X.cell? ⟨wr.heap.size, 0, none⟩ = some (.int .i64 y1) ∧ X.cell? ⟨wr.heap.size, 1, none⟩ = some (.int .i64 y2)) mixed HSy.out (fun hSS => ?_)
                    obtain ⟨Y0, hY0⟩ : ∃ Y0, Y0 = X8.drew := ⟨_, rfl⟩
                    have HY0 : Hid (St w (BV md ph wh (.slice so S.length sc) (.slice go gn gc) (.slice ao an ac) (.slice po pn pc)) vb rb scap mdv S i Bi Y0 vs (A0.take k) ∧ Y0.heap[wr.heap.size]? = some (.cells #[.int .i64 y1, .int .i64 y2] 38 (0, 0))) := by rw [hY0]; exact ⟨HY8.out.1.no ((Kept.refl No _).drew), HY8.out.2⟩
                    rw [← hY0] at hSS ⊢
                    clear hY0 HY8 HSy
                    obtain ⟨uo, uc, hvi⟩ := HY0.out.1.row.form
                    have HVi : Hid (vs i = .slice uo (A0.take k).length uc) := hvi
                    clear hvi
                    generalize (A0.take k).length = ul at HVi
                    refine wpAnyH_take (i := 0) (v := .pointer (some ⟨vb, 3, none⟩)) rfl (by kernel_rfl) (by kernel_rfl) (by kernel_rfl) (fun _ _ _ h => h) (Or.inl ⟨by rfl, by intro w' hw; go_simp⟩) hSS ?_
                    try simp only [Act.put, List.setIfInBounds_toArray, List.set_cons_zero, List.set_cons_succ, List.getElem_toArray, List.getElem_cons_zero, List.getElem_cons_succ]
                    refine wpAnyH_take (i := 1) (v := .slice (some ⟨rb, 0, none⟩) S.length scap) rfl (by kernel_rfl) (by kernel_rfl) (by kernel_rfl) (fun _ _ _ h => h) (Or.inl ⟨by rfl, by intro w' hw; obtain ⟨q0, q1, q2⟩ := hw; go_simp⟩) hSS ?_
                    try simp only [Act.put, List.setIfInBounds_toArray, List.set_cons_zero, List.set_cons_succ, List.getElem_toArray, List.getElem_cons_zero, List.getElem_cons_succ]
                    refine wpAnyH_take (i := 2) (v := .int .i64 i) rfl (by kernel_rfl) (by kernel_rfl) (by kernel_rfl) (fun _ _ _ h => h) (Or.inl ⟨by rfl, by intro w' hw; go_simp⟩) hSS ?_
                    try simp only [Act.put, List.setIfInBounds_toArray, List.set_cons_zero, List.set_cons_succ, List.getElem_toArray, List.getElem_cons_zero, List.getElem_cons_succ]
                    refine wpAnyH_take (i := 3) (v := .pointer (some ⟨vb, 3, none⟩)) rfl (by kernel_rfl) (by kernel_rfl) (by kernel_rfl) (fun _ _ _ h => h) (Or.inl ⟨by rfl, by intro w' hw; go_simp⟩) hSS ?_
                    try simp only [Act.put, List.setIfInBounds_toArray, List.set_cons_zero, List.set_cons_succ, List.getElem_toArray, List.getElem_cons_zero, List.getElem_cons_succ]
                    refine wpAnyH_take (i := 4) (v := .slice (some ⟨rb, 0, none⟩) S.length scap) rfl (by kernel_rfl) (by kernel_rfl) (by kernel_rfl) (fun _ _ _ h => h) (Or.inl ⟨by rfl, by intro w' hw; obtain ⟨q0, q1, q2⟩ := hw; go_simp⟩) hSS ?_
                    try simp only [Act.put, List.setIfInBounds_toArray, List.set_cons_zero, List.set_cons_succ, List.getElem_toArray, List.getElem_cons_zero, List.getElem_cons_succ]
                    refine wpAnyH_take (i := 5) (v := .int .i64 i) rfl (by kernel_rfl) (by kernel_rfl) (by kernel_rfl) (fun _ _ _ h => h) (Or.inl ⟨by rfl, by intro w' hw; go_simp⟩) hSS ?_
                    try simp only [Act.put, List.setIfInBounds_toArray, List.set_cons_zero, List.set_cons_succ, List.getElem_toArray, List.getElem_cons_zero, List.getElem_cons_succ]
                    refine wpAnyH_take (i := 6) (v := .pointer (some ⟨rb, i * 8, none⟩)) rfl (by kernel_rfl) (by kernel_rfl) (by kernel_rfl) (fun _ _ _ h => h) (Or.inl ⟨by rfl, by intro w' hw; go_simp⟩) hSS ?_
                    try simp only [Act.put, List.setIfInBounds_toArray, List.set_cons_zero, List.set_cons_succ, List.getElem_toArray, List.getElem_cons_zero, List.getElem_cons_succ]
                    refine wpAnyH_take (i := 7) (v := .pointer (some ⟨rb, i * 8 + 1, none⟩)) rfl (by kernel_rfl) (by kernel_rfl) (by kernel_rfl) (fun _ _ _ h => h) (Or.inl ⟨by rfl, by intro w' hw; go_simp⟩) hSS ?_
                    try simp only [Act.put, List.setIfInBounds_toArray, List.set_cons_zero, List.set_cons_succ, List.getElem_toArray, List.getElem_cons_zero, List.getElem_cons_succ]
                    refine wpAnyH_take (i := 8) (v := .pointer (some ⟨rb, i * 8 + 4, none⟩)) rfl (by kernel_rfl) (by kernel_rfl) (by kernel_rfl) (fun _ _ _ h => h) (Or.inl ⟨by rfl, by intro w' hw; go_simp⟩) hSS ?_
                    try simp only [Act.put, List.setIfInBounds_toArray, List.set_cons_zero, List.set_cons_succ, List.getElem_toArray, List.getElem_cons_zero, List.getElem_cons_succ]
                    refine wpAnyH_take (i := 10) (v := .agg #[.int .i64 y1, .int .i64 y2]) rfl (by kernel_rfl) (by kernel_rfl) (by kernel_rfl) (fun _ _ _ h => h) (Or.inl ⟨by rfl, by intro w' hw; obtain ⟨q0, q1, q2⟩ := hw; go_simp⟩) hSS ?_
                    try simp only [Act.put, List.setIfInBounds_toArray, List.set_cons_zero, List.set_cons_succ, List.getElem_toArray, List.getElem_cons_zero, List.getElem_cons_succ]
                    refine (fun (key : ∀ (nb : Nat) (Y1 : World), Hid (St w (BV md ph wh (.slice so S.length sc) (.slice go gn gc) (.slice ao an ac) (.slice po pn pc)) vb rb scap mdv S i Bi Y1 vs (A0.take k) ∧ Y1.heap[wr.heap.size]? = some (.cells #[.int .i64 y1, .int .i64 y2] 38 (0, 0)) ∧ Y1.heap[nb]? = some (.cells #[.int .i64 y1, .int .i64 y2] 38 (0, 0)) ∧ Bi ≤ Y1.heap.size) → (?PK6 : Nat → World → Prop) nb Y1) => ?body6) ?tail6
                    case body6 =>
                      have HNew : Hid (St w (BV md ph wh (.slice so S.length sc) (.slice go gn gc) (.slice ao an ac) (.slice po pn pc)) vb rb scap mdv S i Bi (Y0.alloc (.cells #[.int .i64 y1, .int .i64 y2] 38)) vs (A0.take k) ∧ (Y0.alloc (.cells #[.int .i64 y1, .int .i64 y2] 38)).heap[wr.heap.size]? = some (.cells #[.int .i64 y1, .int .i64 y2] 38 (0, 0)) ∧ (Y0.alloc (.cells #[.int .i64 y1, .int .i64 y2] 38)).heap[Y0.heap.size]? = some (.cells #[.int .i64 y1, .int .i64 y2] 38 (0, 0)) ∧ Bi ≤ (Y0.alloc (.cells #[.int .i64 y1, .int .i64 y2] 38)).heap.size) := ⟨HY0.out.1.no ((Kept.refl No _).alloc _), (Below.heap_alloc _ _ _ (hp_lt HY0.out.2)).trans HY0.out.2, World.alloc_heap_new _ _, by rw [World.size_alloc]; have := HY0.out.1.sz; omega⟩
                      have HSn : Hid ((Y0.alloc (.cells #[.int .i64 y1, .int .i64 y2] 38)).cell? ⟨vb, 3, none⟩ = some (.slice (some ⟨rb, 0, none⟩) S.length scap) ∧ (Y0.alloc (.cells #[.int .i64 y1, .int .i64 y2] 38)).cell? ⟨wr.heap.size, 0, none⟩ = some (.int .i64 y1) ∧ (Y0.alloc (.cells #[.int .i64 y1, .int .i64 y2] 38)).cell? ⟨wr.heap.size, 1, none⟩ = some (.int .i64 y2)) := ⟨cell_al1 hSS.1 _, cell_al1 hSS.2.1 _, cell_al1 hSS.2.2 _⟩
                      have c0 : Y0.cell? ⟨rb, i * 8 + 4, none⟩ = some (.slice uo ul uc) := by rw [← HVi.out]; exact (HY0.out.1.cell hlt).2.1
                      have c1 : (Y0.alloc (.cells #[.int .i64 y1, .int .i64 y2] 38)).cell? ⟨rb, i * 8 + 4, none⟩ = some (.slice uo ul uc) := cell_al1 c0 _
                      refine wpAnyH_ready (rs := [9, 11]) (by kernel_rfl) (by simp) ?_
                      refine AllReadyH.cons rfl (fun K hK => ?_) (AllReadyH.cons rfl (fun K hK => ?_) AllReadyH.nil)
                      · go_simp
                        refine hK.out _ _ hSS (fun hSS => ?_)
                        clear hK K
                        try simp only [Act.put, List.setIfInBounds_toArray, List.set_cons_zero, List.set_cons_succ, List.getElem_toArray, List.getElem_cons_zero, List.getElem_cons_succ]
                        refine wpAnyH_ready (rs := [11]) (by kernel_rfl) (by simp) ?_
                        refine AllReadyH.cons rfl (fun K hK => ?_) AllReadyH.nil
                        go_simp
                        refine hK.out _ _ HSn.out (fun hSS => ?_)
                        clear hK K
                        try simp only [Act.put, List.setIfInBounds_toArray, List.set_cons_zero, List.set_cons_succ, List.getElem_toArray, List.getElem_cons_zero, List.getElem_cons_succ]
                        clear c0 c1 HSn hSS
                        generalize Y0.heap.size = nb at HNew ⊢
                        generalize Y0.alloc (.cells #[.int .i64 y1, .int .i64 y2] 38) = Y1 at HNew ⊢
                        exact key nb Y1 HNew
                      · go_simp
                        refine hK.out _ _ HSn.out (fun hSS => ?_)
                        clear hK K
                        try simp only [Act.put, List.setIfInBounds_toArray, List.set_cons_zero, List.set_cons_succ, List.getElem_toArray, List.getElem_cons_zero, List.getElem_cons_succ]
                        refine wpAnyH_ready (rs := [9]) (by kernel_rfl) (by simp) ?_
                        refine AllReadyH.cons rfl (fun K hK => ?_) AllReadyH.nil
                        go_simp
                        refine hK.out _ _ HSn.out (fun hSS => ?_)
                        clear hK K
                        try simp only [Act.put, List.setIfInBounds_toArray, List.set_cons_zero, List.set_cons_succ, List.getElem_toArray, List.getElem_cons_zero, List.getElem_cons_succ]
                        clear c0 c1 HSn hSS
                        generalize Y0.heap.size = nb at HNew ⊢
                        generalize Y0.alloc (.cells #[.int .i64 y1, .int .i64 y2] 38) = Y1 at HNew ⊢
                        exact key nb Y1 HNew
                    case tail6 =>
                    intro nb Y1 HY1
                    clear hSS HY0
                    refine wpAnyH_ready (rs := [12]) (by kernel_rfl) (by simp) ?_
                    refine AllReadyH.cons rfl (fun K hK => ?_) AllReadyH.nil
                    rw [if_pos (by kernel_rfl)]
                    refine app_uO (.tmp 116) (.tmp 118) rfl (v := vs i) (by rw [HVi.out]; rfl) HY1.out.1.row nb (y1, y2) rfl HY1.out.2.2.1 HTl.out HY1.out.2.2.2 (fun v' Y2 hr2 hg2 => ?_)
                    obtain ⟨hs2, ⟨hc2, hz2⟩, hv2, hkp2⟩ := HY1.out.1.step ⟨_, _, rfl⟩ hlt hg2 hr2
                    have hx2 : Y2.heap[wr.heap.size]? = some (.cells #[.int .i64 y1, .int .i64 y2] 38 (0, 0)) := hkp2 _ _ HY1.out.2.1 (fun g hg => HXr.out g hg)
                    obtain ⟨vo2, vc2, rfl⟩ := hr2.form
                    generalize (A0.take k ++ [(y1, y2)]).length = vl2 at hs2 hr2 hg2 ⊢
                    have HS2 : Hid (Y2.cell? ⟨vb, 3, none⟩ = some (.slice (some ⟨rb, 0, none⟩) S.length scap) ∧ Y2.cell? ⟨wr.heap.size, 0, none⟩ = some (.int .i64 y1) ∧ Y2.cell? ⟨wr.heap.size, 1, none⟩ = some (.int .i64 y2)) := ⟨by rw [cell_of hv2]; rfl, by rw [cell_of hx2]; rfl, by rw [cell_of hx2]; rfl⟩
                    have HE2 : Hid _ := hs2
                    have hx3 : ∀ v, (Y2.setCell ⟨rb, i * 8 + 4, none⟩ v).heap[wr.heap.size]? = some (.cells #[.int .i64 y1, .int .i64 y2] 38 (0, 0)) := fun v => hp_set_other hx2 _ _ HXb.out.1
                    have HS3 : Hid (∀ v, (Y2.setCell ⟨rb, i * 8 + 4, none⟩ v).cell? ⟨vb, 3, none⟩ = some (.slice (some ⟨rb, 0, none⟩) S.length scap) ∧ (Y2.setCell ⟨rb, i * 8 + 4, none⟩ v).cell? ⟨wr.heap.size, 0, none⟩ = some (.int .i64 y1) ∧ (Y2.setCell ⟨rb, i * 8 + 4, none⟩ v).cell? ⟨wr.heap.size, 1, none⟩ = some (.int .i64 y2)) := fun v => ⟨by rw [cell_of (hp_set_other hv2 _ _ HXb.out.2)]; rfl, by rw [cell_of (hx3 v)]; rfl, by rw [cell_of (hx3 v)]; rfl⟩
                    refine hK.out _ _ HS2.out (fun hSS => ?_)
                    rw [HVi.out] at hc2
                    clear hK K hs2 hv2 hkp2 hx2 hx3 HY1 hr2 hg2
                    try simp only [Act.put, List.setIfInBounds_toArray, List.set_cons_zero, List.set_cons_succ, List.getElem_toArray, List.getElem_cons_zero, List.getElem_cons_succ]
                    refine wpAnyH_take (i := 13) (v := .pointer (some ⟨rb, i * 8, none⟩)) rfl (by kernel_rfl) (by kernel_rfl) (by kernel_rfl) (fun _ _ _ h => h) (Or.inl ⟨by rfl, by intro w' hw; go_simp⟩) hSS ?_
                    try simp only [Act.put, List.setIfInBounds_toArray, List.set_cons_zero, List.set_cons_succ, List.getElem_toArray, List.getElem_cons_zero, List.getElem_cons_succ]
                    refine wpAnyH_take (i := 14) (v := .pointer (some ⟨rb, i * 8 + 1, none⟩)) rfl (by kernel_rfl) (by kernel_rfl) (by kernel_rfl) (fun _ _ _ h => h) (Or.inl ⟨by rfl, by intro w' hw; go_simp⟩) hSS ?_
                    try simp only [Act.put, List.setIfInBounds_toArray, List.set_cons_zero, List.set_cons_succ, List.getElem_toArray, List.getElem_cons_zero, List.getElem_cons_succ]
                    refine wpAnyH_take (i := 15) (v := .pointer (some ⟨rb, i * 8 + 4, none⟩)) rfl (by kernel_rfl) (by kernel_rfl) (by kernel_rfl) (fun _ _ _ h => h) (Or.inl ⟨by rfl, by intro w' hw; go_simp⟩) hSS ?_
                    try simp only [Act.put, List.setIfInBounds_toArray, List.set_cons_zero, List.set_cons_succ, List.getElem_toArray, List.getElem_cons_zero, List.getElem_cons_succ]
                    refine wpAnyH_ready (rs := [16]) (by kernel_rfl) (by simp) ?_
                    refine AllReadyH.cons rfl (fun K hK => ?_) AllReadyH.nil
                    go_simp
                    refine hK.out _ _ (HS3.out _) (fun hSS => ?_)
                    clear hK K hSS HS3 HS2 hc2 hz2
                    try simp only [Act.put, List.setIfInBounds_toArray, List.set_cons_zero, List.set_cons_succ, List.getElem_toArray, List.getElem_cons_zero, List.getElem_cons_succ]
                    refine wpAnyH_done (by kernel_rfl) ?_ _
                    generalize Y2.setCell ⟨rb, i * 8 + 4, none⟩ (.slice vo2 vl2 vc2) = Y3 at HE2 ⊢
                    go_wp2_with fail
                    go_roundw
                    case rel => exact ⟨k + 1, by omega, by go_num, _, by rw [HTk.out]; exact HE2.out⟩
                    case measure => simp [intOf]; omega
                · have k1 : ¬ (k : Int) < (ln : Int) := by omega
                  obtain rfl : k = ln := by omega
                  have HNx : Hid (St w (BV md ph wh (.slice so S.length sc) (.slice go gn gc) (.slice ao an ac) (.slice po pn pc)) vb rb scap mdv S (i + 1) wr.heap.size wr vs []) := HSk.out.next (HFull.out ())
                  go_wp2_with fail
                  go_roundw
                  case rel => exact ⟨i + 1, by omega, by go_num, _, _, HNx.out⟩
                  case measure => simp [intOf]; omega
            · have k0 : ¬ (i : Int) < (S.length : Int) := by omega
              obtain rfl : i = S.length := by omega
              obtain ⟨Xe, fo, hXe, hfo⟩ : ∃ Xe fo, Xe = wr ∧ fo = (some ⟨rb, 0, none⟩ : Option Addr) := ⟨_, _, rfl, rfl⟩
              subst hXe
              have HVx : Hid (Xe.heap[vb]? = some (BV mdv 0 1 (.slice fo S.length scap) (.slice none 0 0) (.slice none 0 0) (.slice none 0 0))) := by rw [hfo]; exact HSt.out.vx
              have HKe : Hid (Kept No w Xe) := HSt.out.kp
              have HRe : Hid (RdS Xe (.slice fo S.length scap) (freshS S)) := by rw [hfo]; exact HSt.out.rds
              clear HSt hfo k1
              have f0 : Xe.cell? ⟨vb, 0, none⟩ = some (.int .i64 mdv) := by rw [cell_of HVx.out]; rfl
              have f1 : Xe.cell? ⟨vb, 1, none⟩ = some (.int .i64 0) := by rw [cell_of HVx.out]; rfl
              have f2 : Xe.cell? ⟨vb, 2, none⟩ = some (.int .i64 1) := by rw [cell_of HVx.out]; rfl
              have f3 : Xe.cell? ⟨vb, 3, none⟩ = some (.slice fo S.length scap) := by rw [cell_of HVx.out]; rfl
              have f4 : Xe.cell? ⟨vb, 4, none⟩ = some (.slice none 0 0) := by rw [cell_of HVx.out]; rfl
              have f5 : Xe.cell? ⟨vb, 5, none⟩ = some (.slice none 0 0) := by rw [cell_of HVx.out]; rfl
              have f6 : Xe.cell? ⟨vb, 6, none⟩ = some (.slice none 0 0) := by rw [cell_of HVx.out]; rfl
              have HAu : Hid _ := Audit_fresh HMd.out HRe.out hn60 HLe.out HWf.out
              clear HVx HRe
              go_wp2_with fail
              go_at_call 17
              refine Calls.mono HAu.out ?_
              rintro e w9 ⟨vo9, vc9, rfl, hk9⟩
              have HK9 : Hid (Kept No w w9) := HKe.out.trans hk9
              clear hk9 HAu HKe f0 f1 f2 f3 f4 f5 f6
              go_wp2_with fail
              go_at_call 15
              refine Calls.mono (HA.out _) ?_
              rintro e wA ⟨rfl, hkA⟩
              have HKA : Hid (Kept No w wA) := HK9.out.trans hkA
              clear hkA HK9
              go_wp2
              go_ret
              exact ⟨rfl, HKA.out⟩

end Go.Proofs.Ytnihfakhijjjkaa
