/- The document's Extend. -/
import Derived.Test.YtdaklohfecinjaaJx7
namespace Go.Proofs.Ytdaklohfecinjaa
open Go.RowKit
set_option linter.unusedSimpArgs false
set_option linter.unusedVariables false

theorem sumL_cut {K : List Bk} {k : Nat} (hk : k < K.length) : sumL K = sumL (K.take k ++ K.drop (k + 1)) + K[k].xs.length := by
  have e : K.take k ++ K[k] :: K.drop (k + 1) = K := by rw [← List.drop_eq_getElem_cons hk, List.take_append_drop]
  have key : ∀ (X Y : List Bk) (b : Bk), sumL (X ++ b :: Y) = sumL (X ++ Y) + b.xs.length := fun X Y b => by simp [sumL]; omega
  have := key (K.take k) (K.drop (k + 1)) K[k]
  rw [e] at this
  exact this
theorem sumL_cmp : ∀ (o : Nat) (K : List Bk), sumL (cmpB o K) = sumL K
  | _, [] => rfl
  | o, b :: r => by
    have := sumL_cmp (o + b.xs.length) r
    simp only [sumL, cmpB, List.map_cons, List.sum_cons] at this ⊢
    rw [this]
theorem cmpB_d : ∀ (o : Nat) (K : List Bk), (cmpB o K).map Bk.d = K.map Bk.d
  | _, [] => rfl
  | o, b :: r => by simp only [cmpB, List.map_cons, cmpB_d (o + b.xs.length) r]
theorem cmpB_le : ∀ (o : Nat) (K : List Bk), ∀ b ∈ cmpB o K, b.a + b.xs.length ≤ o + sumL K
  | _, [], b, hb => by cases hb
  | o, c :: r, b, hb => by
    have e : sumL (c :: r) = c.xs.length + sumL r := by simp [sumL]
    rcases List.mem_cons.1 hb with rfl | hb
    · dsimp only; omega
    · have := cmpB_le (o + c.xs.length) r b hb
      omega
theorem bdK_cmp {K : List Bk} (hb : BdK K) (hs : sumL K ≤ 65536) : BdK (cmpB 0 K) :=
  ⟨by rw [cmpB_length]; exact hb.1, fun b h => by have := cmpB_le 0 K b h; omega⟩
theorem quiet_live {P : Program} {f : FuncId} {args : Array Value} {w : World} {n : Nat} {v : Value}
    (h : Calls P f args (w.drewN n) fun e w' => e = .returned v ∧ w.drewN n = w') : Calls P f args (w.drewN n) fun e w'' => e = .returned v ∧ ∃ m, w'' = w.drewN m :=
  h.mono fun _ _ ⟨he, hm⟩ => ⟨he, n, hm.symm⟩

section
variable {w : World} {B T size : Nat} {v : Value} {K : List Bk}
set_option maxHeartbeats 1000000 in
theorem RExtend_none (h : Rt w B T size v K) (hb : BdK K) (x n : Int) (hx : fdI K x = -1) :
    Calls Try.prog 45 #[.pointer (some ⟨T, 0, none⟩), .int .i64 x, .int .i64 n] w fun e w' => e = .returned (.int .i64 5) ∧ w = w' := by
  have H1 : Hid _ := RFind_any h (by have := hb.1; omega) x
  rw [hx] at H1
  go_enter Try.func45, Try.ntmps45
  go_wp2_with (go_at_call 51; refine Calls.mono H1.out ?_; rintro e w' ⟨rfl, rfl⟩)
  go_ret
  exact ⟨rfl, rfl⟩
set_option maxHeartbeats 1000000 in
theorem RExtend_arg (h : Rt w B T size v K) (hb : BdK K) (x n : Int) {k : Nat} (hk : k < K.length) (hx : fdI K x = k) (hn : rl n = false) :
    Calls Try.prog 45 #[.pointer (some ⟨T, 0, none⟩), .int .i64 x, .int .i64 n] w fun e w' => e = .returned (.int .i64 1) ∧ w = w' := by
  have H1 : Hid _ := RFind_any h (by have := hb.1; omega) x
  rw [hx] at H1
  have k2 : ¬ (k : Int) < 0 := by omega
  rcases rl_false hn with h0 | h0
  · have h1 : decide (n < 1) = true := decide_eq_true h0
    go_enter Try.func45, Try.ntmps45
    go_wp2_with (go_at_call 51; refine Calls.mono H1.out ?_; rintro e w' ⟨rfl, rfl⟩)
    go_ret
    exact ⟨rfl, rfl⟩
  · have h1 : decide (n < 1) = false := decide_eq_false (by omega)
    have h2 : decide (65536 < n) = true := decide_eq_true h0
    go_enter Try.func45, Try.ntmps45
    go_wp2_with (go_at_call 51; refine Calls.mono H1.out ?_; rintro e w' ⟨rfl, rfl⟩)
    go_ret
    exact ⟨rfl, rfl⟩

set_option maxRecDepth 20000 in
set_option maxHeartbeats 1000000 in
theorem RExtend_full (h : Rt w B T size v K) (hb : BdK K) (hsz : size ≤ 65536) (x : Int) {n k : Nat} (hk : k < K.length) (hx : fdI K x = k) (hn : rl n = true) (hf : size + K[k].xs.length < sumL K + n) :
    Calls Try.prog 45 #[.pointer (some ⟨T, 0, none⟩), .int .i64 x, .int .i64 (n : Int)] w fun e w' => e = .returned (.int .i64 8) ∧ Kept No w w' := by
  have hn' := rl_true hn
  have H1 : Hid _ := RFind_any h (by have := hb.1; omega) x
  rw [hx] at H1
  have HL : Hid (∀ q, Calls Try.prog 47 #[.pointer (some ⟨T, 0, none⟩)] (w.drewN q) fun e w' => e = .returned (.int .i64 (sumL K : Nat)) ∧ w.drewN q = w') := fun q => RLive_any (h.no ((Kept.refl No w).drewN q)) hb
  obtain ⟨c0, c1⟩ := h.cells
  obtain ⟨g, cap, hv, _, _, d2⟩ := h.blk hk
  subst hv
  unfold dv at d2
  have hS := hb.sum K.length (Nat.le_refl _)
  rw [List.take_length] at hS
  have hKl := hb.1
  have hab := hb.2 _ (List.getElem_mem hk)
  generalize K[k].xs.length = z at d2 hf hab
  generalize K[k].d = dd at d2
  generalize sumL K = S at HL hf hS
  have k1 : (k : Int) < (K.length : Int) := by omega
  have k2 : ¬ (k : Int) < 0 := by omega
  have h0 : decide ((n : Int) < 1) = false := decide_eq_false (by omega)
  have h1 : decide ((65536 : Int) < n) = false := decide_eq_false (by omega)
  have u1 : IntKind.i64.wrap ((S : Int) - (z : Int)) = (S : Int) - (z : Int) := by rw [IntKind.wrap_i64]; omega
  have u2 : IntKind.i64.wrap ((S : Int) - (z : Int) + (n : Int)) = (S : Int) - (z : Int) + (n : Int) := by rw [IntKind.wrap_i64]; omega
  have u3 : (size : Int) < (S : Int) - (z : Int) + (n : Int) := by omega
  have u4 : decide ((size : Int) < (S : Int) - (z : Int) + (n : Int)) = true := decide_eq_true u3
  clear h hb hx hS
  go_enter Try.func45, Try.ntmps45
  go_wp2_with (go_at_call 51; refine Calls.mono H1.out ?_; rintro e w' ⟨rfl, rfl⟩)
  go_quiet (first | (go_at_call 47; exact quiet_live (HL.out _)))
  go_wp2
  go_ret
  exact ⟨rfl, (Kept.refl _ _).drewN _⟩

set_option maxRecDepth 20000 in
set_option maxHeartbeats 8000000 in
theorem RExtend_room (h : Rt w B T size v K) (hb : BdK K) (hsz : size ≤ 65536) (hB : B ≤ w.heap.size) {n k : Nat} (hk : k < K.length) (hx : fdI K (K[k].h : Int) = k) (hn : rl n = true) (hf : sumL K + n ≤ size + K[k].xs.length) :
    Calls Try.prog 45 #[.pointer (some ⟨T, 0, none⟩), .int .i64 (K[k].h : Int), .int .i64 (n : Int)] w fun e w' => e = .returned (.int .i64 0) ∧
      (∃ v' d, Rt w' B T size v' (cmpB 0 (K.take k ++ K.drop (k + 1)) ++ [⟨K[k].h, sumL (K.take k ++ K.drop (k + 1)), d, rsz K[k].xs n (min n K[k].xs.length)⟩]) ∧ w.heap.size ≤ d) ∧ Kept (RF T v K) w w' := by
  have hn' := rl_true hn
  have H1 : Hid _ := RFind_any h (by have := hb.1; omega) (K[k].h : Int)
  rw [hx] at H1
  have HR : Hid (Rt w B T size v K) := h
  have HBK : Hid (BdK K) := hb
  have HLv : Hid (∀ q, Calls Try.prog 47 #[.pointer (some ⟨T, 0, none⟩)] (w.drewN q) fun e w' => e = .returned (.int .i64 (sumL K : Nat)) ∧ w.drewN q = w') := fun q => RLive_any (h.no ((Kept.refl No w).drewN q)) hb
  have HRl : Hid ((K.take k ++ K.drop (k + 1)).length ≤ 65536) := (hb.cut k).1
  have HM : Hid (∀ b ∈ K.take k ++ K.drop (k + 1), b ∈ K) := fun b hb => cut_mem hb
  have HN : Hid (((K.take k ++ K.drop (k + 1)).map Bk.d).Nodup) := cut_d h.nod
  have hsm := sumL_cut hk
  obtain ⟨c0, c1⟩ := h.cells
  obtain ⟨g, cap, hv, _, _, d2⟩ := h.blk hk
  have hKl := hb.1
  have hab := hb.2 _ (List.getElem_mem hk)
  have hS := hb.sum K.length (Nat.le_refl _)
  rw [List.take_length] at hS
  have k1 : (k : Int) < (K.length : Int) := by omega
  have k2 : ¬ (k : Int) < 0 := by omega
  have h0 : decide ((n : Int) < 1) = false := decide_eq_false (by omega)
  have h1 : decide ((65536 : Int) < n) = false := decide_eq_false (by omega)
  have hmk := run_mk n (by omega)
  unfold dv at d2
  obtain ⟨xs, HX⟩ : ∃ xs, Hid (K[k].xs = xs) := ⟨_, show _ = _ from rfl⟩
  obtain ⟨dd, HD⟩ : ∃ d, Hid (K[k].d = d) := ⟨_, show _ = _ from rfl⟩
  obtain ⟨hh, HH⟩ : ∃ d, Hid (K[k].h = d) := ⟨_, show _ = _ from rfl⟩
  have HL : Hid (∀ W, Kept No w W → Rt W B T size v K ∧ W.cell? ⟨T, 1, none⟩ = some (.slice (some ⟨g, 0, none⟩) K.length cap) ∧ W.cell? ⟨g, k * 3 + 2, none⟩ = some (.slice (some ⟨dd, 0, none⟩) xs.length xs.length) ∧ W.heap[dd]? = some (cl xs)) := fun W hW => by
    have hR := HR.out.no hW
    have hc := hR.cells.2
    rw [hv] at hc
    obtain ⟨g', cap', e, _, _, h2⟩ := hR.blk hk
    rw [hv] at e
    injection e with e1 e2 e3
    injection e1 with e1
    injection e1 with e1
    subst e1
    rw [HX.out, HD.out] at h2
    have hd := (hR.dat _ (List.getElem_mem hk)).1
    rw [HX.out, HD.out] at hd
    exact ⟨hR, hc, h2, hd⟩
  rw [hv] at c1
  have HVF : Hid (v = .slice (some ⟨g, 0, none⟩) K.length cap) := hv
  rw [HX.out] at hab hf hsm d2
  rw [HD.out] at d2
  rw [HH.out] at H1
  rw [HX.out, HH.out]
  clear h hb hx HX HD HH hv
  obtain ⟨S, HSS⟩ : ∃ S, Hid (sumL K = S) := ⟨_, show _ = _ from rfl⟩
  rw [HSS.out] at HLv hf hS hsm
  have u1 : IntKind.i64.wrap ((S : Int) - (xs.length : Int)) = (S : Int) - (xs.length : Int) := by rw [IntKind.wrap_i64]; omega
  have u2 : IntKind.i64.wrap ((S : Int) - (xs.length : Int) + (n : Int)) = (S : Int) - (xs.length : Int) + (n : Int) := by rw [IntKind.wrap_i64]; omega
  have u3 : ¬ (size : Int) < (S : Int) - (xs.length : Int) + (n : Int) := by omega
  have u4 : decide ((size : Int) < (S : Int) - (xs.length : Int) + (n : Int)) = false := decide_eq_false u3
  have HCut : Hid (∀ W, Rt W B T size v K → Calls Try.prog 68 #[v, .int .i64 (k : Int)] W fun e w' => ∃ v', e = .returned v' ∧ BRow w' W.heap.size v' (K.take k ++ K.drop (k + 1)) ∧ Kept No W w') := fun W hW => RCut_any hW.row (by omega) hk
  obtain ⟨R, HRR⟩ : ∃ R, Hid (K.take k ++ K.drop (k + 1) = R) := ⟨_, show _ = _ from rfl⟩
  rw [HRR.out] at HRl HM HN hsm HCut
  rw [HRR.out]
  clear HRR HSS
  have HBd : Hid (BdK R) := ⟨HRl.out, fun b hb => HBK.out.2 b (HM.out b hb)⟩
  have HSR : Hid (sumL R ≤ 65536) := by show _ ≤ _; omega
  clear hsm
  go_enter Try.func45, Try.ntmps45
  go_wp2_with (go_at_call 51; refine Calls.mono H1.out ?_; rintro e w' ⟨rfl, rfl⟩)
  go_quiet (first | (go_at_call 47; exact quiet_live (HLv.out _)))
  have HK2 : Hid (Kept No w (w.drewN nq)) := (Kept.refl No w).drewN nq
  clear HLv c0 c1 d2
  generalize w.drewN nq = W at HK2 ⊢
  go_wp2_with fail
  have hW := HK2.out.size
  obtain ⟨D, HDD⟩ : ∃ D, Hid (W.heap.size = D) := ⟨_, show _ = _ from rfl⟩
  have HI0 : Hid (CX (W.alloc (cl (List.replicate n 0))) D xs n 0 (W.alloc (cl (List.replicate n 0)))) := by have := cx_start W xs n; rw [HDD.out] at this; exact this
  have HK3 : Hid (Kept No w (W.alloc (cl (List.replicate n 0)))) := HK2.out.alloc _
  have HDF : Hid (∀ b ∈ K, b.d ≠ D) := fun b hb => by have := hp_lt (HR.out.dat b hb).1; rw [HDD.out] at hW; omega
  rw [HDD.out] at hW ⊢
  clear HDD HK2
  generalize W.alloc (cl (List.replicate n 0)) = W2 at HI0 HK3 ⊢
  go_loopw [9] (fun i wr => ∃ j : Nat, j ≤ n ∧ j ≤ xs.length ∧ i = .int .i64 j ∧ Hid (CX W2 D xs n j wr)) (fun i _ => n - (intOf i).toNat)
  case atStart => exact ⟨0, Nat.zero_le _, Nat.zero_le _, rfl, HI0.out⟩
  case round =>
    clear HI0
    obtain ⟨j, j1, j2, rfl, HI⟩ := hrel
    have HKr : Hid (Kept No w wr) := HK3.out.trans' HI.out.kp (fun i e => .inr (by have : i = D := e; omega))
    obtain ⟨hRr, c1, d2, hdd⟩ := HL.out wr HKr.out
    have HRr : Hid (Rt wr B T size v K) := hRr
    have HDx : Hid (wr.heap[dd]? = some (cl xs)) := hdd
    clear hRr hdd
    by_cases hlt : j < n ∧ j < xs.length
    · obtain ⟨hl1, hl2⟩ := hlt
      have e1 : decide ((j : Int) < (n : Int)) = true := decide_eq_true (by omega)
      have e2 : decide ((j : Int) < (xs.length : Int)) = true := decide_eq_true (by omega)
      have e3 : (j : Int) < (xs.length : Int) := by omega
      have e4 : (j : Int) < (n : Int) := by omega
      have d3 := cl_cell HDx.out hl2
      obtain ⟨⟨y0, d4⟩, d5⟩ := HI.out.cells hl1 (by omega)
      have HN2 : Hid (CX W2 D xs n (j + 1) (wr.setCell ⟨D, j, none⟩ (.int .i64 (xs.getD j 0)))) := HI.out.step hl1 hl2
      generalize xs.getD j 0 = y at d3 HN2
      clear HRr HDx HI HKr
      go_wp2
      go_round
      case rel => exact ⟨j + 1, by omega, by omega, by go_num, HN2⟩
      case measure => simp [intOf] <;> omega
    · have HJ : Hid (j = min n xs.length) := by show _ = _; omega
      have HDr : Hid (wr.heap[D]? = some (cl (rsz xs n j))) := HI.out.hd
      have HF5 : Hid (∀ w5, Kept No wr w5 → w5.cell? ⟨T, 1, none⟩ = some (.slice (some ⟨g, 0, none⟩) K.length cap) ∧ w5.frozen? ⟨T, 1, none⟩ = false) := fun w5 k5 => by
        have := (HRr.out.no k5).cells.2
        rw [HVF.out] at this
        exact ⟨this, frozen_of (HRr.out.no k5).hT 1⟩
      have HTD : Hid (T ≠ D) := fun e => by
        have h1 := HRr.out.hT
        rw [e, HDr.out] at h1
        unfold cl at h1
        injection h1 with h1
        injection h1 with _ h3
        exact absurd h3 (by decide)
      have HRn : Hid (∀ (w5 : World) (v5 : Value), BRow w5 wr.heap.size v5 R → Kept No wr w5 → Rt (w5.setCell ⟨T, 1, none⟩ v5) B T size v5 R ∧ Kept (RF T v K) w (w5.setCell ⟨T, 1, none⟩ v5) ∧ (w5.setCell ⟨T, 1, none⟩ v5).heap[D]? = some (cl (rsz xs n j)) ∧ ∀ i, v5.ownBlock = some i → w.heap.size ≤ i) := fun w5 v5 h5 k5 => by
        have hres := HRr.out.renew k5 h5 (by have := HKr.out.size; omega) (fun b hb => ⟨k5.heap (HRr.out.dat b (HM.out b hb)).1 id, (HRr.out.dat b (HM.out b hb)).2⟩) HN.out
        exact ⟨hres.1, HKr.out.no.trans hres.2, (Kept.one w5 T 1 v5).heap (k5.heap HDr.out id) (fun e => HTD.out e.symm), fun i hi => by have := (h5.lt i hi).1; have := HKr.out.size; omega⟩
      have HC : Hid _ := HCut.out wr HRr.out
      rw [HVF.out] at HC
      have hlen := rsz_len j1 j2
      clear HI HDx HRr
      have hcond : (j < n ∧ ¬ j < xs.length ∧ decide ((j : Int) < (n : Int)) = true ∧ decide ((j : Int) < (xs.length : Int)) = false) ∨ (¬ j < n ∧ decide ((j : Int) < (n : Int)) = false) := by
        by_cases hjn : j < n
        · exact .inl ⟨hjn, by omega, decide_eq_true (by omega), decide_eq_false (by omega)⟩
        · exact .inr ⟨hjn, decide_eq_false (by omega)⟩
      clear hlt
      rcases hcond with ⟨hjn, hjx, e1, e2⟩ | ⟨hjn, e1⟩
      · skip
        go_wp2_with (first
          | (go_at_call 68
             refine Calls.mono HC.out ?_
             rintro e w5 ⟨v5, rfl, h5, k5⟩
             obtain ⟨d5, f5⟩ := HF5.out w5 k5
             have H6 : Hid _ := HRn.out w5 v5 h5 k5
             obtain ⟨s5, c5, e5⟩ := h5.form
             obtain ⟨N5, HN5⟩ : ∃ N, Hid (R.length = N) := ⟨_, show _ = _ from rfl⟩
             rw [HN5.out] at e5
             clear h5 k5 c1 d2
             subst e5)
          | (go_at_call 44
             generalize w5.setCell ⟨T, 1, none⟩ (.slice s5 N5 c5) = W6 at H6 ⊢
             refine (RCompact_any H6.out.1 HBd.out).mono ?_
             rintro e W7 ⟨rfl, h7, k7⟩
             have H7 : Hid (Rt W7 B T size (.slice s5 N5 c5) (cmpB 0 R) ∧ Kept (RF T v K) w W7 ∧ W7.heap[D]? = some (cl (rsz xs n j))) := ⟨h7, H6.out.2.1.trans' k7 (fun i hi => by
               rcases hi with e | e | e
               · exact .inl (.inl e)
               · exact .inr (H6.out.2.2.2 i e)
               · obtain ⟨b, hb, e⟩ := List.mem_map.1 e
                 exact .inl (.inr (.inr (by rw [← e]; exact List.mem_map_of_mem (HM.out b hb))))), k7.heap H6.out.2.2.1 (fun e => by
               rcases e with e | e | e
               · exact HTD.out e.symm
               · exact H6.out.1.row.ne e H6.out.2.2.1 (by decide) rfl
               · obtain ⟨b, hb, e⟩ := List.mem_map.1 e
                 exact HDF.out b (HM.out b hb) e)⟩
             have HV5 : Hid (∀ i, (Value.slice s5 N5 c5).ownBlock = some i → w.heap.size ≤ i) := H6.out.2.2.2
             clear h7 k7 H6))
        refine wp_region_held_drew (S := fun _ => True) (by kernel_rfl) trivial (fun _ => ?_)
        have H8 : Hid (Rt W7.drew B T size (.slice s5 N5 c5) (cmpB 0 R) ∧ Kept (RF T v K) w W7.drew ∧ W7.drew.heap[D]? = some (cl (rsz xs n j))) := ⟨H7.out.1.no (Kept.refl No W7).drew, H7.out.2.1.drew, H7.out.2.2⟩
        generalize W7.drew = W8 at H8 ⊢
        clear H7
        have c1 := H8.out.1.cells.2
        have HLi : Hid _ := RLive_any H8.out.1 (bdK_cmp HBd.out HSR.out)
        rw [sumL_cmp] at HLi
        have HPut : Hid _ := RPut_any H8.out.1.row (i := N5) (by rw [cmpB_length]; have := HRl.out; omega) (by rw [cmpB_length, HN5.out]; exact Nat.le_refl _) ⟨hh, sumL R, D, rsz xs n j⟩
        have HTD : Hid ((cmpB 0 R).take N5 = cmpB 0 R ∧ (cmpB 0 R).drop N5 = []) := by
          have hl : (cmpB 0 R).length = N5 := by rw [cmpB_length]; exact HN5.out
          exact ⟨List.take_of_length_le (by omega), List.drop_eq_nil_of_le (by omega)⟩
        unfold dv at HPut
        dsimp only at HPut
        rw [hlen, HTD.out.1, HTD.out.2] at HPut
        have HFin : Hid (∀ (w9 : World) (v9 : Value), BRow w9 W8.heap.size v9 (cmpB 0 R ++ [⟨hh, sumL R, D, rsz xs n j⟩]) → Kept No W8 w9 → (∃ v' d, Rt (w9.setCell ⟨T, 1, none⟩ v9) B T size v' (cmpB 0 R ++ [⟨hh, sumL R, d, rsz xs n (min n xs.length)⟩]) ∧ w.heap.size ≤ d) ∧ Kept (RF T v K) w (w9.setCell ⟨T, 1, none⟩ v9)) := fun w9 v9 h9 k9 => by
          rw [← HJ.out]
          have hres := H8.out.1.renew k9 h9 (by have := H8.out.2.1.size; omega) (fun b hb => by
            rcases List.mem_append.1 hb with hb | hb
            · exact ⟨k9.heap (H8.out.1.dat b hb).1 id, (H8.out.1.dat b hb).2⟩
            · rw [List.mem_singleton] at hb
              subst hb
              exact ⟨k9.heap H8.out.2.2 id, by show B ≤ D; omega⟩) (by
            rw [List.map_append, cmpB_d, List.map_cons, List.map_nil, List.nodup_append]
            refine ⟨HN.out, by simp, fun x hx y hy => ?_⟩
            rw [List.mem_singleton] at hy
            obtain ⟨b, hb, e⟩ := List.mem_map.1 hx
            rw [hy, ← e]
            exact HDF.out b (HM.out b hb))
          refine ⟨⟨v9, D, hres.1, by omega⟩, H8.out.2.1.trans' hres.2 (fun i hi => ?_)⟩
          rcases hi with e | e | e
          · exact .inl (.inl e)
          · exact .inr (HV5.out i e)
          · rw [cmpB_d] at e
            obtain ⟨b, hb, e⟩ := List.mem_map.1 e
            exact .inl (.inr (.inr (by rw [← e]; exact List.mem_map_of_mem (HM.out b hb))))
        have HF9 : Hid (∀ w9, Kept No W8 w9 → w9.cell? ⟨T, 1, none⟩ = some (.slice s5 N5 c5) ∧ w9.frozen? ⟨T, 1, none⟩ = false) := fun w9 k9 => ⟨(H8.out.1.no k9).cells.2, frozen_of (H8.out.1.no k9).hT 1⟩
        clear H8 HTD HRn HF5 HC HDr
        obtain ⟨SR, HSe⟩ : ∃ SR, Hid (sumL R = SR) := ⟨_, show _ = _ from rfl⟩
        rw [HSe.out] at HLi HPut
        refine wpAnyH_take (i := 0) (v := ?vTk1) rfl (by kernel_rfl) (by kernel_rfl) (by kernel_rfl) (fun _ _ _ h => h) (Or.inl ⟨by rfl, ?yTk1⟩) trivial ?rTk1
        case yTk1 => (intro w' hSw; go_simp; try with_reducible rfl)
        case rTk1 =>
        try simp only [Act.put, List.setIfInBounds_toArray, List.set_cons_zero, List.set_cons_succ, List.getElem_toArray, List.getElem_cons_zero, List.getElem_cons_succ]
        refine wpAnyH_take (i := 1) (v := ?vTk2) rfl (by kernel_rfl) (by kernel_rfl) (by kernel_rfl) (fun _ _ _ h => h) (Or.inl ⟨by rfl, ?yTk2⟩) trivial ?rTk2
        case yTk2 => (intro w' hSw; go_simp; try with_reducible rfl)
        case rTk2 =>
        try simp only [Act.put, List.setIfInBounds_toArray, List.set_cons_zero, List.set_cons_succ, List.getElem_toArray, List.getElem_cons_zero, List.getElem_cons_succ]
        refine wpAnyH_take (i := 2) (v := ?vTk3) rfl (by kernel_rfl) (by kernel_rfl) (by kernel_rfl) (fun _ _ _ h => h) (Or.inl ⟨by rfl, ?yTk3⟩) trivial ?rTk3
        case yTk3 => (intro w' hSw; go_simp; try with_reducible rfl)
        case rTk3 =>
        try simp only [Act.put, List.setIfInBounds_toArray, List.set_cons_zero, List.set_cons_succ, List.getElem_toArray, List.getElem_cons_zero, List.getElem_cons_succ]
        refine wpAnyH_take (i := 3) (v := ?vTk4) rfl (by kernel_rfl) (by kernel_rfl) (by kernel_rfl) (fun _ _ _ h => h) (Or.inl ⟨by rfl, ?yTk4⟩) trivial ?rTk4
        case yTk4 => (intro w' hSw; go_simp; try with_reducible rfl)
        case rTk4 =>
        try simp only [Act.put, List.setIfInBounds_toArray, List.set_cons_zero, List.set_cons_succ, List.getElem_toArray, List.getElem_cons_zero, List.getElem_cons_succ]
        refine wpAnyH_take (i := 5) (v := ?vTk5) rfl (by kernel_rfl) (by kernel_rfl) (by kernel_rfl) (fun _ _ _ h => h) (Or.inl ⟨by rfl, ?yTk5⟩) trivial ?rTk5
        case yTk5 => (intro w' hSw; go_simp; try with_reducible rfl)
        case rTk5 =>
        try simp only [Act.put, List.setIfInBounds_toArray, List.set_cons_zero, List.set_cons_succ, List.getElem_toArray, List.getElem_cons_zero, List.getElem_cons_succ]
        refine wpAnyH_take (i := 6) (v := ?vTk6) rfl (by kernel_rfl) (by kernel_rfl) (by kernel_rfl) (fun _ _ _ h => h) (Or.inl ⟨by rfl, ?yTk6⟩) trivial ?rTk6
        case yTk6 => (intro w' hSw; go_simp; try with_reducible rfl)
        case rTk6 =>
        try simp only [Act.put, List.setIfInBounds_toArray, List.set_cons_zero, List.set_cons_succ, List.getElem_toArray, List.getElem_cons_zero, List.getElem_cons_succ]
        refine wpAnyH_take (i := 7) (v := ?vTk7) rfl (by kernel_rfl) (by kernel_rfl) (by kernel_rfl) (fun _ _ _ h => h) (Or.inl ⟨by rfl, ?yTk7⟩) trivial ?rTk7
        case yTk7 => (intro w' hSw; go_simp; try with_reducible rfl)
        case rTk7 =>
        try simp only [Act.put, List.setIfInBounds_toArray, List.set_cons_zero, List.set_cons_succ, List.getElem_toArray, List.getElem_cons_zero, List.getElem_cons_succ]
        refine wpAnyH_take (i := 10) (v := ?vTk8) rfl (by kernel_rfl) (by kernel_rfl) (by kernel_rfl) (fun _ _ _ h => h) (Or.inl ⟨by rfl, ?yTk8⟩) trivial ?rTk8
        case yTk8 => (intro w' hSw; go_simp; try with_reducible rfl)
        case rTk8 =>
        try simp only [Act.put, List.setIfInBounds_toArray, List.set_cons_zero, List.set_cons_succ, List.getElem_toArray, List.getElem_cons_zero, List.getElem_cons_succ]
        refine wpAnyH_take (i := 11) (v := ?vTk9) rfl (by kernel_rfl) (by kernel_rfl) (by kernel_rfl) (fun _ _ _ h => h) (Or.inl ⟨by rfl, ?yTk9⟩) trivial ?rTk9
        case yTk9 => (intro w' hSw; go_simp; try with_reducible rfl)
        case rTk9 =>
        try simp only [Act.put, List.setIfInBounds_toArray, List.set_cons_zero, List.set_cons_succ, List.getElem_toArray, List.getElem_cons_zero, List.getElem_cons_succ]
        refine wpAnyH_take (i := 13) (v := ?vTk10) rfl (by kernel_rfl) (by kernel_rfl) (by kernel_rfl) (fun _ _ _ h => h) (Or.inl ⟨by rfl, ?yTk10⟩) trivial ?rTk10
        case yTk10 => (intro w' hSw; go_simp; try with_reducible rfl)
        case rTk10 =>
        try simp only [Act.put, List.setIfInBounds_toArray, List.set_cons_zero, List.set_cons_succ, List.getElem_toArray, List.getElem_cons_zero, List.getElem_cons_succ]
        refine (fun (key : (?KeyT1 : Prop)) => ?keyBody1) ?keyTail1
        case keyBody1 =>
          refine wpAnyH_ready (rs := [4, 8, 12]) (by kernel_rfl) (by simp) ?_
          refine AllReadyH.cons rfl (fun K' hK => ?_) (AllReadyH.cons rfl (fun K' hK => ?_) (AllReadyH.cons rfl (fun K' hK => ?_) AllReadyH.nil))
          · go_simp
            refine hK.out _ _ trivial (fun _ => ?_)
            clear hK K'
            try simp only [Act.put, List.setIfInBounds_toArray, List.set_cons_zero, List.set_cons_succ, List.getElem_toArray, List.getElem_cons_zero, List.getElem_cons_succ]
            refine wpAnyH_ready (rs := [8, 12]) (by kernel_rfl) (by simp) ?_
            refine AllReadyH.cons rfl (fun K' hK => ?_) (AllReadyH.cons rfl (fun K' hK => ?_) AllReadyH.nil)
            · go_simp
              refine hK.out _ _ trivial (fun _ => ?_)
              clear hK K'
              try simp only [Act.put, List.setIfInBounds_toArray, List.set_cons_zero, List.set_cons_succ, List.getElem_toArray, List.getElem_cons_zero, List.getElem_cons_succ]
              refine wpAnyH_take (i := 9) (v := ?vTk11) rfl (by kernel_rfl) (by kernel_rfl) (by kernel_rfl) (fun _ _ _ h => h) (Or.inl ⟨by rfl, ?yTk11⟩) trivial ?rTk11
              case yTk11 => (intro w' hSw; go_simp; try with_reducible rfl)
              case rTk11 =>
              try simp only [Act.put, List.setIfInBounds_toArray, List.set_cons_zero, List.set_cons_succ, List.getElem_toArray, List.getElem_cons_zero, List.getElem_cons_succ]
              refine wpAnyH_ready (rs := [12]) (by kernel_rfl) (by simp) ?_
              refine AllReadyH.cons rfl (fun K' hK => ?_) AllReadyH.nil
              · go_simp
                refine Calls.mono HLi.out ?_
                rintro e w7 ⟨rfl, rfl⟩
                try go_wp2_with fail
                refine hK.out _ _ trivial (fun _ => ?_)
                clear hK K'
                try simp only [Act.put, List.setIfInBounds_toArray, List.set_cons_zero, List.set_cons_succ, List.getElem_toArray, List.getElem_cons_zero, List.getElem_cons_succ]
                refine wpAnyH_take (i := 14) (v := ?vTk12) rfl (by kernel_rfl) (by kernel_rfl) (by kernel_rfl) (fun _ _ _ h => h) (Or.inl ⟨by rfl, ?yTk12⟩) trivial ?rTk12
                case yTk12 => (intro w' hSw; go_simp; try with_reducible rfl)
                case rTk12 =>
                try simp only [Act.put, List.setIfInBounds_toArray, List.set_cons_zero, List.set_cons_succ, List.getElem_toArray, List.getElem_cons_zero, List.getElem_cons_succ]
                exact key
            · go_simp
              refine Calls.mono HLi.out ?_
              rintro e w7 ⟨rfl, rfl⟩
              try go_wp2_with fail
              refine hK.out _ _ trivial (fun _ => ?_)
              clear hK K'
              try simp only [Act.put, List.setIfInBounds_toArray, List.set_cons_zero, List.set_cons_succ, List.getElem_toArray, List.getElem_cons_zero, List.getElem_cons_succ]
              refine wpAnyH_take (i := 14) (v := ?vTk13) rfl (by kernel_rfl) (by kernel_rfl) (by kernel_rfl) (fun _ _ _ h => h) (Or.inl ⟨by rfl, ?yTk13⟩) trivial ?rTk13
              case yTk13 => (intro w' hSw; go_simp; try with_reducible rfl)
              case rTk13 =>
              try simp only [Act.put, List.setIfInBounds_toArray, List.set_cons_zero, List.set_cons_succ, List.getElem_toArray, List.getElem_cons_zero, List.getElem_cons_succ]
              refine wpAnyH_ready (rs := [8]) (by kernel_rfl) (by simp) ?_
              refine AllReadyH.cons rfl (fun K' hK => ?_) AllReadyH.nil
              · go_simp
                refine hK.out _ _ trivial (fun _ => ?_)
                clear hK K'
                try simp only [Act.put, List.setIfInBounds_toArray, List.set_cons_zero, List.set_cons_succ, List.getElem_toArray, List.getElem_cons_zero, List.getElem_cons_succ]
                refine wpAnyH_take (i := 9) (v := ?vTk14) rfl (by kernel_rfl) (by kernel_rfl) (by kernel_rfl) (fun _ _ _ h => h) (Or.inl ⟨by rfl, ?yTk14⟩) trivial ?rTk14
                case yTk14 => (intro w' hSw; go_simp; try with_reducible rfl)
                case rTk14 =>
                try simp only [Act.put, List.setIfInBounds_toArray, List.set_cons_zero, List.set_cons_succ, List.getElem_toArray, List.getElem_cons_zero, List.getElem_cons_succ]
                exact key
          · go_simp
            refine hK.out _ _ trivial (fun _ => ?_)
            clear hK K'
            try simp only [Act.put, List.setIfInBounds_toArray, List.set_cons_zero, List.set_cons_succ, List.getElem_toArray, List.getElem_cons_zero, List.getElem_cons_succ]
            refine wpAnyH_take (i := 9) (v := ?vTk15) rfl (by kernel_rfl) (by kernel_rfl) (by kernel_rfl) (fun _ _ _ h => h) (Or.inl ⟨by rfl, ?yTk15⟩) trivial ?rTk15
            case yTk15 => (intro w' hSw; go_simp; try with_reducible rfl)
            case rTk15 =>
            try simp only [Act.put, List.setIfInBounds_toArray, List.set_cons_zero, List.set_cons_succ, List.getElem_toArray, List.getElem_cons_zero, List.getElem_cons_succ]
            refine wpAnyH_ready (rs := [4, 12]) (by kernel_rfl) (by simp) ?_
            refine AllReadyH.cons rfl (fun K' hK => ?_) (AllReadyH.cons rfl (fun K' hK => ?_) AllReadyH.nil)
            · go_simp
              refine hK.out _ _ trivial (fun _ => ?_)
              clear hK K'
              try simp only [Act.put, List.setIfInBounds_toArray, List.set_cons_zero, List.set_cons_succ, List.getElem_toArray, List.getElem_cons_zero, List.getElem_cons_succ]
              refine wpAnyH_ready (rs := [12]) (by kernel_rfl) (by simp) ?_
              refine AllReadyH.cons rfl (fun K' hK => ?_) AllReadyH.nil
              · go_simp
                refine Calls.mono HLi.out ?_
                rintro e w7 ⟨rfl, rfl⟩
                try go_wp2_with fail
                refine hK.out _ _ trivial (fun _ => ?_)
                clear hK K'
                try simp only [Act.put, List.setIfInBounds_toArray, List.set_cons_zero, List.set_cons_succ, List.getElem_toArray, List.getElem_cons_zero, List.getElem_cons_succ]
                refine wpAnyH_take (i := 14) (v := ?vTk16) rfl (by kernel_rfl) (by kernel_rfl) (by kernel_rfl) (fun _ _ _ h => h) (Or.inl ⟨by rfl, ?yTk16⟩) trivial ?rTk16
                case yTk16 => (intro w' hSw; go_simp; try with_reducible rfl)
                case rTk16 =>
                try simp only [Act.put, List.setIfInBounds_toArray, List.set_cons_zero, List.set_cons_succ, List.getElem_toArray, List.getElem_cons_zero, List.getElem_cons_succ]
                exact key
            · go_simp
              refine Calls.mono HLi.out ?_
              rintro e w7 ⟨rfl, rfl⟩
              try go_wp2_with fail
              refine hK.out _ _ trivial (fun _ => ?_)
              clear hK K'
              try simp only [Act.put, List.setIfInBounds_toArray, List.set_cons_zero, List.set_cons_succ, List.getElem_toArray, List.getElem_cons_zero, List.getElem_cons_succ]
              refine wpAnyH_take (i := 14) (v := ?vTk17) rfl (by kernel_rfl) (by kernel_rfl) (by kernel_rfl) (fun _ _ _ h => h) (Or.inl ⟨by rfl, ?yTk17⟩) trivial ?rTk17
              case yTk17 => (intro w' hSw; go_simp; try with_reducible rfl)
              case rTk17 =>
              try simp only [Act.put, List.setIfInBounds_toArray, List.set_cons_zero, List.set_cons_succ, List.getElem_toArray, List.getElem_cons_zero, List.getElem_cons_succ]
              refine wpAnyH_ready (rs := [4]) (by kernel_rfl) (by simp) ?_
              refine AllReadyH.cons rfl (fun K' hK => ?_) AllReadyH.nil
              · go_simp
                refine hK.out _ _ trivial (fun _ => ?_)
                clear hK K'
                try simp only [Act.put, List.setIfInBounds_toArray, List.set_cons_zero, List.set_cons_succ, List.getElem_toArray, List.getElem_cons_zero, List.getElem_cons_succ]
                exact key
          · go_simp
            refine Calls.mono HLi.out ?_
            rintro e w7 ⟨rfl, rfl⟩
            try go_wp2_with fail
            refine hK.out _ _ trivial (fun _ => ?_)
            clear hK K'
            try simp only [Act.put, List.setIfInBounds_toArray, List.set_cons_zero, List.set_cons_succ, List.getElem_toArray, List.getElem_cons_zero, List.getElem_cons_succ]
            refine wpAnyH_take (i := 14) (v := ?vTk18) rfl (by kernel_rfl) (by kernel_rfl) (by kernel_rfl) (fun _ _ _ h => h) (Or.inl ⟨by rfl, ?yTk18⟩) trivial ?rTk18
            case yTk18 => (intro w' hSw; go_simp; try with_reducible rfl)
            case rTk18 =>
            try simp only [Act.put, List.setIfInBounds_toArray, List.set_cons_zero, List.set_cons_succ, List.getElem_toArray, List.getElem_cons_zero, List.getElem_cons_succ]
            refine wpAnyH_ready (rs := [4, 8]) (by kernel_rfl) (by simp) ?_
            refine AllReadyH.cons rfl (fun K' hK => ?_) (AllReadyH.cons rfl (fun K' hK => ?_) AllReadyH.nil)
            · go_simp
              refine hK.out _ _ trivial (fun _ => ?_)
              clear hK K'
              try simp only [Act.put, List.setIfInBounds_toArray, List.set_cons_zero, List.set_cons_succ, List.getElem_toArray, List.getElem_cons_zero, List.getElem_cons_succ]
              refine wpAnyH_ready (rs := [8]) (by kernel_rfl) (by simp) ?_
              refine AllReadyH.cons rfl (fun K' hK => ?_) AllReadyH.nil
              · go_simp
                refine hK.out _ _ trivial (fun _ => ?_)
                clear hK K'
                try simp only [Act.put, List.setIfInBounds_toArray, List.set_cons_zero, List.set_cons_succ, List.getElem_toArray, List.getElem_cons_zero, List.getElem_cons_succ]
                refine wpAnyH_take (i := 9) (v := ?vTk19) rfl (by kernel_rfl) (by kernel_rfl) (by kernel_rfl) (fun _ _ _ h => h) (Or.inl ⟨by rfl, ?yTk19⟩) trivial ?rTk19
                case yTk19 => (intro w' hSw; go_simp; try with_reducible rfl)
                case rTk19 =>
                try simp only [Act.put, List.setIfInBounds_toArray, List.set_cons_zero, List.set_cons_succ, List.getElem_toArray, List.getElem_cons_zero, List.getElem_cons_succ]
                exact key
            · go_simp
              refine hK.out _ _ trivial (fun _ => ?_)
              clear hK K'
              try simp only [Act.put, List.setIfInBounds_toArray, List.set_cons_zero, List.set_cons_succ, List.getElem_toArray, List.getElem_cons_zero, List.getElem_cons_succ]
              refine wpAnyH_take (i := 9) (v := ?vTk20) rfl (by kernel_rfl) (by kernel_rfl) (by kernel_rfl) (fun _ _ _ h => h) (Or.inl ⟨by rfl, ?yTk20⟩) trivial ?rTk20
              case yTk20 => (intro w' hSw; go_simp; try with_reducible rfl)
              case rTk20 =>
              try simp only [Act.put, List.setIfInBounds_toArray, List.set_cons_zero, List.set_cons_succ, List.getElem_toArray, List.getElem_cons_zero, List.getElem_cons_succ]
              refine wpAnyH_ready (rs := [4]) (by kernel_rfl) (by simp) ?_
              refine AllReadyH.cons rfl (fun K' hK => ?_) AllReadyH.nil
              · go_simp
                refine hK.out _ _ trivial (fun _ => ?_)
                clear hK K'
                try simp only [Act.put, List.setIfInBounds_toArray, List.set_cons_zero, List.set_cons_succ, List.getElem_toArray, List.getElem_cons_zero, List.getElem_cons_succ]
                exact key
        case keyTail1 =>
          refine wpAnyH_ready (rs := [15]) (by kernel_rfl) (by simp) ?_
          refine AllReadyH.cons rfl (fun K' hK => ?_) AllReadyH.nil
          go_simp
          refine Calls.mono HPut.out ?_
          rintro e w9 ⟨v9, rfl, h9, k9⟩
          have H9 : Hid _ := HFin.out w9 v9 (by rw [HSe.out]; exact h9) k9
          obtain ⟨d9, f9⟩ := HF9.out w9 k9
          obtain ⟨s9, c9, e9⟩ := h9.form
          generalize (cmpB 0 R ++ [(⟨hh, SR, D, rsz xs n j⟩ : Bk)]).length = N9 at e9
          clear h9 k9 HPut HFin
          subst e9
          try go_wp2_with fail
          refine hK.out _ _ trivial (fun _ => ?_)
          clear hK K'
          try simp only [Act.put, List.setIfInBounds_toArray, List.set_cons_zero, List.set_cons_succ, List.getElem_toArray, List.getElem_cons_zero, List.getElem_cons_succ]
          refine wpAnyH_take (i := 16) (v := ?vTk21) rfl (by kernel_rfl) (by kernel_rfl) (by kernel_rfl) (fun _ _ _ h => h) (Or.inl ⟨by rfl, ?yTk21⟩) trivial ?rTk21
          case yTk21 => (intro w' hSw; go_simp; try with_reducible rfl)
          case rTk21 =>
          try simp only [Act.put, List.setIfInBounds_toArray, List.set_cons_zero, List.set_cons_succ, List.getElem_toArray, List.getElem_cons_zero, List.getElem_cons_succ]
          refine wpAnyH_take (i := 17) (v := ?vTk22) rfl (by kernel_rfl) (by kernel_rfl) (by kernel_rfl) (fun _ _ _ h => h) (Or.inl ⟨by rfl, ?yTk22⟩) trivial ?rTk22
          case yTk22 => (intro w' hSw; go_simp; try with_reducible rfl)
          case rTk22 =>
          try simp only [Act.put, List.setIfInBounds_toArray, List.set_cons_zero, List.set_cons_succ, List.getElem_toArray, List.getElem_cons_zero, List.getElem_cons_succ]
          refine wpAnyH_ready (rs := [18]) (by kernel_rfl) (by simp) ?_
          refine AllReadyH.cons rfl (fun K' hK => ?_) AllReadyH.nil
          go_simp
          refine hK.out _ _ trivial (fun _ => ?_)
          clear hK K'
          try simp only [Act.put, List.setIfInBounds_toArray, List.set_cons_zero, List.set_cons_succ, List.getElem_toArray, List.getElem_cons_zero, List.getElem_cons_succ]
          refine wpAnyH_done (by kernel_rfl) ?_ _
          go_wp2
          go_ret
          exact ⟨rfl, H9.out.1, H9.out.2⟩
      · skip
        go_wp2_with (first
          | (go_at_call 68
             refine Calls.mono HC.out ?_
             rintro e w5 ⟨v5, rfl, h5, k5⟩
             obtain ⟨d5, f5⟩ := HF5.out w5 k5
             have H6 : Hid _ := HRn.out w5 v5 h5 k5
             obtain ⟨s5, c5, e5⟩ := h5.form
             obtain ⟨N5, HN5⟩ : ∃ N, Hid (R.length = N) := ⟨_, show _ = _ from rfl⟩
             rw [HN5.out] at e5
             clear h5 k5 c1 d2
             subst e5)
          | (go_at_call 44
             generalize w5.setCell ⟨T, 1, none⟩ (.slice s5 N5 c5) = W6 at H6 ⊢
             refine (RCompact_any H6.out.1 HBd.out).mono ?_
             rintro e W7 ⟨rfl, h7, k7⟩
             have H7 : Hid (Rt W7 B T size (.slice s5 N5 c5) (cmpB 0 R) ∧ Kept (RF T v K) w W7 ∧ W7.heap[D]? = some (cl (rsz xs n j))) := ⟨h7, H6.out.2.1.trans' k7 (fun i hi => by
               rcases hi with e | e | e
               · exact .inl (.inl e)
               · exact .inr (H6.out.2.2.2 i e)
               · obtain ⟨b, hb, e⟩ := List.mem_map.1 e
                 exact .inl (.inr (.inr (by rw [← e]; exact List.mem_map_of_mem (HM.out b hb))))), k7.heap H6.out.2.2.1 (fun e => by
               rcases e with e | e | e
               · exact HTD.out e.symm
               · exact H6.out.1.row.ne e H6.out.2.2.1 (by decide) rfl
               · obtain ⟨b, hb, e⟩ := List.mem_map.1 e
                 exact HDF.out b (HM.out b hb) e)⟩
             have HV5 : Hid (∀ i, (Value.slice s5 N5 c5).ownBlock = some i → w.heap.size ≤ i) := H6.out.2.2.2
             clear h7 k7 H6))
        refine wp_region_held_drew (S := fun _ => True) (by kernel_rfl) trivial (fun _ => ?_)
        have H8 : Hid (Rt W7.drew B T size (.slice s5 N5 c5) (cmpB 0 R) ∧ Kept (RF T v K) w W7.drew ∧ W7.drew.heap[D]? = some (cl (rsz xs n j))) := ⟨H7.out.1.no (Kept.refl No W7).drew, H7.out.2.1.drew, H7.out.2.2⟩
        generalize W7.drew = W8 at H8 ⊢
        clear H7
        have c1 := H8.out.1.cells.2
        have HLi : Hid _ := RLive_any H8.out.1 (bdK_cmp HBd.out HSR.out)
        rw [sumL_cmp] at HLi
        have HPut : Hid _ := RPut_any H8.out.1.row (i := N5) (by rw [cmpB_length]; have := HRl.out; omega) (by rw [cmpB_length, HN5.out]; exact Nat.le_refl _) ⟨hh, sumL R, D, rsz xs n j⟩
        have HTD : Hid ((cmpB 0 R).take N5 = cmpB 0 R ∧ (cmpB 0 R).drop N5 = []) := by
          have hl : (cmpB 0 R).length = N5 := by rw [cmpB_length]; exact HN5.out
          exact ⟨List.take_of_length_le (by omega), List.drop_eq_nil_of_le (by omega)⟩
        unfold dv at HPut
        dsimp only at HPut
        rw [hlen, HTD.out.1, HTD.out.2] at HPut
        have HFin : Hid (∀ (w9 : World) (v9 : Value), BRow w9 W8.heap.size v9 (cmpB 0 R ++ [⟨hh, sumL R, D, rsz xs n j⟩]) → Kept No W8 w9 → (∃ v' d, Rt (w9.setCell ⟨T, 1, none⟩ v9) B T size v' (cmpB 0 R ++ [⟨hh, sumL R, d, rsz xs n (min n xs.length)⟩]) ∧ w.heap.size ≤ d) ∧ Kept (RF T v K) w (w9.setCell ⟨T, 1, none⟩ v9)) := fun w9 v9 h9 k9 => by
          rw [← HJ.out]
          have hres := H8.out.1.renew k9 h9 (by have := H8.out.2.1.size; omega) (fun b hb => by
            rcases List.mem_append.1 hb with hb | hb
            · exact ⟨k9.heap (H8.out.1.dat b hb).1 id, (H8.out.1.dat b hb).2⟩
            · rw [List.mem_singleton] at hb
              subst hb
              exact ⟨k9.heap H8.out.2.2 id, by show B ≤ D; omega⟩) (by
            rw [List.map_append, cmpB_d, List.map_cons, List.map_nil, List.nodup_append]
            refine ⟨HN.out, by simp, fun x hx y hy => ?_⟩
            rw [List.mem_singleton] at hy
            obtain ⟨b, hb, e⟩ := List.mem_map.1 hx
            rw [hy, ← e]
            exact HDF.out b (HM.out b hb))
          refine ⟨⟨v9, D, hres.1, by omega⟩, H8.out.2.1.trans' hres.2 (fun i hi => ?_)⟩
          rcases hi with e | e | e
          · exact .inl (.inl e)
          · exact .inr (HV5.out i e)
          · rw [cmpB_d] at e
            obtain ⟨b, hb, e⟩ := List.mem_map.1 e
            exact .inl (.inr (.inr (by rw [← e]; exact List.mem_map_of_mem (HM.out b hb))))
        have HF9 : Hid (∀ w9, Kept No W8 w9 → w9.cell? ⟨T, 1, none⟩ = some (.slice s5 N5 c5) ∧ w9.frozen? ⟨T, 1, none⟩ = false) := fun w9 k9 => ⟨(H8.out.1.no k9).cells.2, frozen_of (H8.out.1.no k9).hT 1⟩
        clear H8 HTD HRn HF5 HC HDr
        obtain ⟨SR, HSe⟩ : ∃ SR, Hid (sumL R = SR) := ⟨_, show _ = _ from rfl⟩
        rw [HSe.out] at HLi HPut
        refine wpAnyH_take (i := 0) (v := ?vTk23) rfl (by kernel_rfl) (by kernel_rfl) (by kernel_rfl) (fun _ _ _ h => h) (Or.inl ⟨by rfl, ?yTk23⟩) trivial ?rTk23
        case yTk23 => (intro w' hSw; go_simp; try with_reducible rfl)
        case rTk23 =>
        try simp only [Act.put, List.setIfInBounds_toArray, List.set_cons_zero, List.set_cons_succ, List.getElem_toArray, List.getElem_cons_zero, List.getElem_cons_succ]
        refine wpAnyH_take (i := 1) (v := ?vTk24) rfl (by kernel_rfl) (by kernel_rfl) (by kernel_rfl) (fun _ _ _ h => h) (Or.inl ⟨by rfl, ?yTk24⟩) trivial ?rTk24
        case yTk24 => (intro w' hSw; go_simp; try with_reducible rfl)
        case rTk24 =>
        try simp only [Act.put, List.setIfInBounds_toArray, List.set_cons_zero, List.set_cons_succ, List.getElem_toArray, List.getElem_cons_zero, List.getElem_cons_succ]
        refine wpAnyH_take (i := 2) (v := ?vTk25) rfl (by kernel_rfl) (by kernel_rfl) (by kernel_rfl) (fun _ _ _ h => h) (Or.inl ⟨by rfl, ?yTk25⟩) trivial ?rTk25
        case yTk25 => (intro w' hSw; go_simp; try with_reducible rfl)
        case rTk25 =>
        try simp only [Act.put, List.setIfInBounds_toArray, List.set_cons_zero, List.set_cons_succ, List.getElem_toArray, List.getElem_cons_zero, List.getElem_cons_succ]
        refine wpAnyH_take (i := 3) (v := ?vTk26) rfl (by kernel_rfl) (by kernel_rfl) (by kernel_rfl) (fun _ _ _ h => h) (Or.inl ⟨by rfl, ?yTk26⟩) trivial ?rTk26
        case yTk26 => (intro w' hSw; go_simp; try with_reducible rfl)
        case rTk26 =>
        try simp only [Act.put, List.setIfInBounds_toArray, List.set_cons_zero, List.set_cons_succ, List.getElem_toArray, List.getElem_cons_zero, List.getElem_cons_succ]
        refine wpAnyH_take (i := 5) (v := ?vTk27) rfl (by kernel_rfl) (by kernel_rfl) (by kernel_rfl) (fun _ _ _ h => h) (Or.inl ⟨by rfl, ?yTk27⟩) trivial ?rTk27
        case yTk27 => (intro w' hSw; go_simp; try with_reducible rfl)
        case rTk27 =>
        try simp only [Act.put, List.setIfInBounds_toArray, List.set_cons_zero, List.set_cons_succ, List.getElem_toArray, List.getElem_cons_zero, List.getElem_cons_succ]
        refine wpAnyH_take (i := 6) (v := ?vTk28) rfl (by kernel_rfl) (by kernel_rfl) (by kernel_rfl) (fun _ _ _ h => h) (Or.inl ⟨by rfl, ?yTk28⟩) trivial ?rTk28
        case yTk28 => (intro w' hSw; go_simp; try with_reducible rfl)
        case rTk28 =>
        try simp only [Act.put, List.setIfInBounds_toArray, List.set_cons_zero, List.set_cons_succ, List.getElem_toArray, List.getElem_cons_zero, List.getElem_cons_succ]
        refine wpAnyH_take (i := 7) (v := ?vTk29) rfl (by kernel_rfl) (by kernel_rfl) (by kernel_rfl) (fun _ _ _ h => h) (Or.inl ⟨by rfl, ?yTk29⟩) trivial ?rTk29
        case yTk29 => (intro w' hSw; go_simp; try with_reducible rfl)
        case rTk29 =>
        try simp only [Act.put, List.setIfInBounds_toArray, List.set_cons_zero, List.set_cons_succ, List.getElem_toArray, List.getElem_cons_zero, List.getElem_cons_succ]
        refine wpAnyH_take (i := 10) (v := ?vTk30) rfl (by kernel_rfl) (by kernel_rfl) (by kernel_rfl) (fun _ _ _ h => h) (Or.inl ⟨by rfl, ?yTk30⟩) trivial ?rTk30
        case yTk30 => (intro w' hSw; go_simp; try with_reducible rfl)
        case rTk30 =>
        try simp only [Act.put, List.setIfInBounds_toArray, List.set_cons_zero, List.set_cons_succ, List.getElem_toArray, List.getElem_cons_zero, List.getElem_cons_succ]
        refine wpAnyH_take (i := 11) (v := ?vTk31) rfl (by kernel_rfl) (by kernel_rfl) (by kernel_rfl) (fun _ _ _ h => h) (Or.inl ⟨by rfl, ?yTk31⟩) trivial ?rTk31
        case yTk31 => (intro w' hSw; go_simp; try with_reducible rfl)
        case rTk31 =>
        try simp only [Act.put, List.setIfInBounds_toArray, List.set_cons_zero, List.set_cons_succ, List.getElem_toArray, List.getElem_cons_zero, List.getElem_cons_succ]
        refine wpAnyH_take (i := 13) (v := ?vTk32) rfl (by kernel_rfl) (by kernel_rfl) (by kernel_rfl) (fun _ _ _ h => h) (Or.inl ⟨by rfl, ?yTk32⟩) trivial ?rTk32
        case yTk32 => (intro w' hSw; go_simp; try with_reducible rfl)
        case rTk32 =>
        try simp only [Act.put, List.setIfInBounds_toArray, List.set_cons_zero, List.set_cons_succ, List.getElem_toArray, List.getElem_cons_zero, List.getElem_cons_succ]
        refine (fun (key : (?KeyT2 : Prop)) => ?keyBody2) ?keyTail2
        case keyBody2 =>
          refine wpAnyH_ready (rs := [4, 8, 12]) (by kernel_rfl) (by simp) ?_
          refine AllReadyH.cons rfl (fun K' hK => ?_) (AllReadyH.cons rfl (fun K' hK => ?_) (AllReadyH.cons rfl (fun K' hK => ?_) AllReadyH.nil))
          · go_simp
            refine hK.out _ _ trivial (fun _ => ?_)
            clear hK K'
            try simp only [Act.put, List.setIfInBounds_toArray, List.set_cons_zero, List.set_cons_succ, List.getElem_toArray, List.getElem_cons_zero, List.getElem_cons_succ]
            refine wpAnyH_ready (rs := [8, 12]) (by kernel_rfl) (by simp) ?_
            refine AllReadyH.cons rfl (fun K' hK => ?_) (AllReadyH.cons rfl (fun K' hK => ?_) AllReadyH.nil)
            · go_simp
              refine hK.out _ _ trivial (fun _ => ?_)
              clear hK K'
              try simp only [Act.put, List.setIfInBounds_toArray, List.set_cons_zero, List.set_cons_succ, List.getElem_toArray, List.getElem_cons_zero, List.getElem_cons_succ]
              refine wpAnyH_take (i := 9) (v := ?vTk33) rfl (by kernel_rfl) (by kernel_rfl) (by kernel_rfl) (fun _ _ _ h => h) (Or.inl ⟨by rfl, ?yTk33⟩) trivial ?rTk33
              case yTk33 => (intro w' hSw; go_simp; try with_reducible rfl)
              case rTk33 =>
              try simp only [Act.put, List.setIfInBounds_toArray, List.set_cons_zero, List.set_cons_succ, List.getElem_toArray, List.getElem_cons_zero, List.getElem_cons_succ]
              refine wpAnyH_ready (rs := [12]) (by kernel_rfl) (by simp) ?_
              refine AllReadyH.cons rfl (fun K' hK => ?_) AllReadyH.nil
              · go_simp
                refine Calls.mono HLi.out ?_
                rintro e w7 ⟨rfl, rfl⟩
                try go_wp2_with fail
                refine hK.out _ _ trivial (fun _ => ?_)
                clear hK K'
                try simp only [Act.put, List.setIfInBounds_toArray, List.set_cons_zero, List.set_cons_succ, List.getElem_toArray, List.getElem_cons_zero, List.getElem_cons_succ]
                refine wpAnyH_take (i := 14) (v := ?vTk34) rfl (by kernel_rfl) (by kernel_rfl) (by kernel_rfl) (fun _ _ _ h => h) (Or.inl ⟨by rfl, ?yTk34⟩) trivial ?rTk34
                case yTk34 => (intro w' hSw; go_simp; try with_reducible rfl)
                case rTk34 =>
                try simp only [Act.put, List.setIfInBounds_toArray, List.set_cons_zero, List.set_cons_succ, List.getElem_toArray, List.getElem_cons_zero, List.getElem_cons_succ]
                exact key
            · go_simp
              refine Calls.mono HLi.out ?_
              rintro e w7 ⟨rfl, rfl⟩
              try go_wp2_with fail
              refine hK.out _ _ trivial (fun _ => ?_)
              clear hK K'
              try simp only [Act.put, List.setIfInBounds_toArray, List.set_cons_zero, List.set_cons_succ, List.getElem_toArray, List.getElem_cons_zero, List.getElem_cons_succ]
              refine wpAnyH_take (i := 14) (v := ?vTk35) rfl (by kernel_rfl) (by kernel_rfl) (by kernel_rfl) (fun _ _ _ h => h) (Or.inl ⟨by rfl, ?yTk35⟩) trivial ?rTk35
              case yTk35 => (intro w' hSw; go_simp; try with_reducible rfl)
              case rTk35 =>
              try simp only [Act.put, List.setIfInBounds_toArray, List.set_cons_zero, List.set_cons_succ, List.getElem_toArray, List.getElem_cons_zero, List.getElem_cons_succ]
              refine wpAnyH_ready (rs := [8]) (by kernel_rfl) (by simp) ?_
              refine AllReadyH.cons rfl (fun K' hK => ?_) AllReadyH.nil
              · go_simp
                refine hK.out _ _ trivial (fun _ => ?_)
                clear hK K'
                try simp only [Act.put, List.setIfInBounds_toArray, List.set_cons_zero, List.set_cons_succ, List.getElem_toArray, List.getElem_cons_zero, List.getElem_cons_succ]
                refine wpAnyH_take (i := 9) (v := ?vTk36) rfl (by kernel_rfl) (by kernel_rfl) (by kernel_rfl) (fun _ _ _ h => h) (Or.inl ⟨by rfl, ?yTk36⟩) trivial ?rTk36
                case yTk36 => (intro w' hSw; go_simp; try with_reducible rfl)
                case rTk36 =>
                try simp only [Act.put, List.setIfInBounds_toArray, List.set_cons_zero, List.set_cons_succ, List.getElem_toArray, List.getElem_cons_zero, List.getElem_cons_succ]
                exact key
          · go_simp
            refine hK.out _ _ trivial (fun _ => ?_)
            clear hK K'
            try simp only [Act.put, List.setIfInBounds_toArray, List.set_cons_zero, List.set_cons_succ, List.getElem_toArray, List.getElem_cons_zero, List.getElem_cons_succ]
            refine wpAnyH_take (i := 9) (v := ?vTk37) rfl (by kernel_rfl) (by kernel_rfl) (by kernel_rfl) (fun _ _ _ h => h) (Or.inl ⟨by rfl, ?yTk37⟩) trivial ?rTk37
            case yTk37 => (intro w' hSw; go_simp; try with_reducible rfl)
            case rTk37 =>
            try simp only [Act.put, List.setIfInBounds_toArray, List.set_cons_zero, List.set_cons_succ, List.getElem_toArray, List.getElem_cons_zero, List.getElem_cons_succ]
            refine wpAnyH_ready (rs := [4, 12]) (by kernel_rfl) (by simp) ?_
            refine AllReadyH.cons rfl (fun K' hK => ?_) (AllReadyH.cons rfl (fun K' hK => ?_) AllReadyH.nil)
            · go_simp
              refine hK.out _ _ trivial (fun _ => ?_)
              clear hK K'
              try simp only [Act.put, List.setIfInBounds_toArray, List.set_cons_zero, List.set_cons_succ, List.getElem_toArray, List.getElem_cons_zero, List.getElem_cons_succ]
              refine wpAnyH_ready (rs := [12]) (by kernel_rfl) (by simp) ?_
              refine AllReadyH.cons rfl (fun K' hK => ?_) AllReadyH.nil
              · go_simp
                refine Calls.mono HLi.out ?_
                rintro e w7 ⟨rfl, rfl⟩
                try go_wp2_with fail
                refine hK.out _ _ trivial (fun _ => ?_)
                clear hK K'
                try simp only [Act.put, List.setIfInBounds_toArray, List.set_cons_zero, List.set_cons_succ, List.getElem_toArray, List.getElem_cons_zero, List.getElem_cons_succ]
                refine wpAnyH_take (i := 14) (v := ?vTk38) rfl (by kernel_rfl) (by kernel_rfl) (by kernel_rfl) (fun _ _ _ h => h) (Or.inl ⟨by rfl, ?yTk38⟩) trivial ?rTk38
                case yTk38 => (intro w' hSw; go_simp; try with_reducible rfl)
                case rTk38 =>
                try simp only [Act.put, List.setIfInBounds_toArray, List.set_cons_zero, List.set_cons_succ, List.getElem_toArray, List.getElem_cons_zero, List.getElem_cons_succ]
                exact key
            · go_simp
              refine Calls.mono HLi.out ?_
              rintro e w7 ⟨rfl, rfl⟩
              try go_wp2_with fail
              refine hK.out _ _ trivial (fun _ => ?_)
              clear hK K'
              try simp only [Act.put, List.setIfInBounds_toArray, List.set_cons_zero, List.set_cons_succ, List.getElem_toArray, List.getElem_cons_zero, List.getElem_cons_succ]
              refine wpAnyH_take (i := 14) (v := ?vTk39) rfl (by kernel_rfl) (by kernel_rfl) (by kernel_rfl) (fun _ _ _ h => h) (Or.inl ⟨by rfl, ?yTk39⟩) trivial ?rTk39
              case yTk39 => (intro w' hSw; go_simp; try with_reducible rfl)
              case rTk39 =>
              try simp only [Act.put, List.setIfInBounds_toArray, List.set_cons_zero, List.set_cons_succ, List.getElem_toArray, List.getElem_cons_zero, List.getElem_cons_succ]
              refine wpAnyH_ready (rs := [4]) (by kernel_rfl) (by simp) ?_
              refine AllReadyH.cons rfl (fun K' hK => ?_) AllReadyH.nil
              · go_simp
                refine hK.out _ _ trivial (fun _ => ?_)
                clear hK K'
                try simp only [Act.put, List.setIfInBounds_toArray, List.set_cons_zero, List.set_cons_succ, List.getElem_toArray, List.getElem_cons_zero, List.getElem_cons_succ]
                exact key
          · go_simp
            refine Calls.mono HLi.out ?_
            rintro e w7 ⟨rfl, rfl⟩
            try go_wp2_with fail
            refine hK.out _ _ trivial (fun _ => ?_)
            clear hK K'
            try simp only [Act.put, List.setIfInBounds_toArray, List.set_cons_zero, List.set_cons_succ, List.getElem_toArray, List.getElem_cons_zero, List.getElem_cons_succ]
            refine wpAnyH_take (i := 14) (v := ?vTk40) rfl (by kernel_rfl) (by kernel_rfl) (by kernel_rfl) (fun _ _ _ h => h) (Or.inl ⟨by rfl, ?yTk40⟩) trivial ?rTk40
            case yTk40 => (intro w' hSw; go_simp; try with_reducible rfl)
            case rTk40 =>
            try simp only [Act.put, List.setIfInBounds_toArray, List.set_cons_zero, List.set_cons_succ, List.getElem_toArray, List.getElem_cons_zero, List.getElem_cons_succ]
            refine wpAnyH_ready (rs := [4, 8]) (by kernel_rfl) (by simp) ?_
            refine AllReadyH.cons rfl (fun K' hK => ?_) (AllReadyH.cons rfl (fun K' hK => ?_) AllReadyH.nil)
            · go_simp
              refine hK.out _ _ trivial (fun _ => ?_)
              clear hK K'
              try simp only [Act.put, List.setIfInBounds_toArray, List.set_cons_zero, List.set_cons_succ, List.getElem_toArray, List.getElem_cons_zero, List.getElem_cons_succ]
              refine wpAnyH_ready (rs := [8]) (by kernel_rfl) (by simp) ?_
              refine AllReadyH.cons rfl (fun K' hK => ?_) AllReadyH.nil
              · go_simp
                refine hK.out _ _ trivial (fun _ => ?_)
                clear hK K'
                try simp only [Act.put, List.setIfInBounds_toArray, List.set_cons_zero, List.set_cons_succ, List.getElem_toArray, List.getElem_cons_zero, List.getElem_cons_succ]
                refine wpAnyH_take (i := 9) (v := ?vTk41) rfl (by kernel_rfl) (by kernel_rfl) (by kernel_rfl) (fun _ _ _ h => h) (Or.inl ⟨by rfl, ?yTk41⟩) trivial ?rTk41
                case yTk41 => (intro w' hSw; go_simp; try with_reducible rfl)
                case rTk41 =>
                try simp only [Act.put, List.setIfInBounds_toArray, List.set_cons_zero, List.set_cons_succ, List.getElem_toArray, List.getElem_cons_zero, List.getElem_cons_succ]
                exact key
            · go_simp
              refine hK.out _ _ trivial (fun _ => ?_)
              clear hK K'
              try simp only [Act.put, List.setIfInBounds_toArray, List.set_cons_zero, List.set_cons_succ, List.getElem_toArray, List.getElem_cons_zero, List.getElem_cons_succ]
              refine wpAnyH_take (i := 9) (v := ?vTk42) rfl (by kernel_rfl) (by kernel_rfl) (by kernel_rfl) (fun _ _ _ h => h) (Or.inl ⟨by rfl, ?yTk42⟩) trivial ?rTk42
              case yTk42 => (intro w' hSw; go_simp; try with_reducible rfl)
              case rTk42 =>
              try simp only [Act.put, List.setIfInBounds_toArray, List.set_cons_zero, List.set_cons_succ, List.getElem_toArray, List.getElem_cons_zero, List.getElem_cons_succ]
              refine wpAnyH_ready (rs := [4]) (by kernel_rfl) (by simp) ?_
              refine AllReadyH.cons rfl (fun K' hK => ?_) AllReadyH.nil
              · go_simp
                refine hK.out _ _ trivial (fun _ => ?_)
                clear hK K'
                try simp only [Act.put, List.setIfInBounds_toArray, List.set_cons_zero, List.set_cons_succ, List.getElem_toArray, List.getElem_cons_zero, List.getElem_cons_succ]
                exact key
        case keyTail2 =>
          refine wpAnyH_ready (rs := [15]) (by kernel_rfl) (by simp) ?_
          refine AllReadyH.cons rfl (fun K' hK => ?_) AllReadyH.nil
          go_simp
          refine Calls.mono HPut.out ?_
          rintro e w9 ⟨v9, rfl, h9, k9⟩
          have H9 : Hid _ := HFin.out w9 v9 (by rw [HSe.out]; exact h9) k9
          obtain ⟨d9, f9⟩ := HF9.out w9 k9
          obtain ⟨s9, c9, e9⟩ := h9.form
          generalize (cmpB 0 R ++ [(⟨hh, SR, D, rsz xs n j⟩ : Bk)]).length = N9 at e9
          clear h9 k9 HPut HFin
          subst e9
          try go_wp2_with fail
          refine hK.out _ _ trivial (fun _ => ?_)
          clear hK K'
          try simp only [Act.put, List.setIfInBounds_toArray, List.set_cons_zero, List.set_cons_succ, List.getElem_toArray, List.getElem_cons_zero, List.getElem_cons_succ]
          refine wpAnyH_take (i := 16) (v := ?vTk43) rfl (by kernel_rfl) (by kernel_rfl) (by kernel_rfl) (fun _ _ _ h => h) (Or.inl ⟨by rfl, ?yTk43⟩) trivial ?rTk43
          case yTk43 => (intro w' hSw; go_simp; try with_reducible rfl)
          case rTk43 =>
          try simp only [Act.put, List.setIfInBounds_toArray, List.set_cons_zero, List.set_cons_succ, List.getElem_toArray, List.getElem_cons_zero, List.getElem_cons_succ]
          refine wpAnyH_take (i := 17) (v := ?vTk44) rfl (by kernel_rfl) (by kernel_rfl) (by kernel_rfl) (fun _ _ _ h => h) (Or.inl ⟨by rfl, ?yTk44⟩) trivial ?rTk44
          case yTk44 => (intro w' hSw; go_simp; try with_reducible rfl)
          case rTk44 =>
          try simp only [Act.put, List.setIfInBounds_toArray, List.set_cons_zero, List.set_cons_succ, List.getElem_toArray, List.getElem_cons_zero, List.getElem_cons_succ]
          refine wpAnyH_ready (rs := [18]) (by kernel_rfl) (by simp) ?_
          refine AllReadyH.cons rfl (fun K' hK => ?_) AllReadyH.nil
          go_simp
          refine hK.out _ _ trivial (fun _ => ?_)
          clear hK K'
          try simp only [Act.put, List.setIfInBounds_toArray, List.set_cons_zero, List.set_cons_succ, List.getElem_toArray, List.getElem_cons_zero, List.getElem_cons_succ]
          refine wpAnyH_done (by kernel_rfl) ?_ _
          go_wp2
          go_ret
          exact ⟨rfl, H9.out.1, H9.out.2⟩
end
end Go.Proofs.Ytdaklohfecinjaa
