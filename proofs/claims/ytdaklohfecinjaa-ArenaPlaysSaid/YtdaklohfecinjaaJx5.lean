/- Joined: J5 J6. -/
import Derived.Test.YtdaklohfecinjaaJa
/- The document's Alloc. -/
namespace Go.Proofs.Ytdaklohfecinjaa
open Go.RowKit
set_option linter.unusedSimpArgs false
set_option linter.unusedVariables false

section
variable {w : World} {B T size : Nat} {v : Value} {K : List Bk}
theorem RAlloc_arg (T : Nat) (n : Int) (hn : rl n = false) (w : World) : Calls Try.prog 39 #[.pointer (some ⟨T, 0, none⟩), .int .i64 n] w fun e w' => e = .returned (.tuple #[.int .i64 0, .int .i64 1]) ∧ w = w' := by
  rcases rl_false hn with h | h
  · have h0 : decide (n < 1) = true := decide_eq_true h
    go_enter Try.func39, Try.ntmps39
    go_wp2
    go_ret2
    exact ⟨rfl, rfl⟩
  · have h0 : decide (n < 1) = false := decide_eq_false (by omega)
    have h1 : decide (65536 < n) = true := decide_eq_true h
    go_enter Try.func39, Try.ntmps39
    go_wp2
    go_ret2
    exact ⟨rfl, rfl⟩

/-- Place at drawn worlds. -/
theorem place_q (h : BRow w B v K) (hb : BdK K) (hsz : size ≤ 65536) {n at' i : Int} (hn : -1000000 ≤ n ∧ n ≤ 1000000) (hP : PlaceIs K size n at' i) (q : Nat) :
    Calls Try.prog 66 #[v, .int .i64 (size : Int), .int .i64 n] (w.drewN q) fun e w' => e = .returned (.tuple #[.int .i64 at', .int .i64 i]) ∧ ∃ m, w' = w.drewN m := by
  refine (RPlace_any (h.no ((Kept.refl No w).drewN q)) hb hsz hn hP).mono ?_
  rintro e w' ⟨he, m, rfl⟩
  exact ⟨he, q + m, by rw [World.drewN_drewN]⟩

set_option maxRecDepth 20000 in
set_option maxHeartbeats 1000000 in
theorem RAlloc_full (h : Rt w B T size v K) (hb : BdK K) (hsz : size ≤ 65536) {n : Nat} (hn : rl n = true) (hP : PlaceIs K size n (-1) 0) :
    Calls Try.prog 39 #[.pointer (some ⟨T, 0, none⟩), .int .i64 (n : Int)] w fun e w' => e = .returned (.tuple #[.int .i64 0, .int .i64 8]) ∧ Kept No w w' := by
  have hn' := rl_true hn
  have HPl : Hid (∀ q, _) := place_q h.row hb hsz (by omega) hP
  obtain ⟨c0, c1⟩ := h.cells
  obtain ⟨ao, cap, hv⟩ := h.row.form
  subst hv
  have h0 : decide ((n : Int) < 1) = false := decide_eq_false (by omega)
  have h1 : decide ((65536 : Int) < n) = false := decide_eq_false (by omega)
  clear h hb hP
  go_enter Try.func39, Try.ntmps39
  go_wp2_with fail
  go_quiet (first | (go_at_call 66; exact HPl.out _))
  go_wp2
  go_ret2
  exact ⟨rfl, (Kept.refl _ _).drewN _⟩

theorem put_d {K : List Bk} {i : Nat} {b : Bk} (hn : (K.map Bk.d).Nodup) (hb : b.d ∉ K.map Bk.d) : ((K.take i ++ b :: K.drop i).map Bk.d).Nodup := by
  have hp : (K.take i ++ b :: K.drop i).Perm (b :: K) := by
    refine List.perm_middle.trans (List.Perm.cons _ ?_)
    rw [List.take_append_drop]
  rw [(hp.map Bk.d).nodup_iff, List.map_cons, List.nodup_cons]
  exact ⟨hb, hn⟩
theorem put_mem {K : List Bk} {i : Nat} {b c : Bk} (hb : c ∈ K.take i ++ b :: K.drop i) : c = b ∨ c ∈ K := by
  rcases List.mem_append.1 hb with h | h
  · exact .inr (List.mem_of_mem_take h)
  · rcases List.mem_cons.1 h with h | h
    · exact .inl h
    · exact .inr (List.mem_of_mem_drop h)

set_option maxRecDepth 20000 in
set_option maxHeartbeats 2000000 in
theorem RAlloc_room (h : Rt w B T size v K) (hb : BdK K) (hsz : size ≤ 65536) (hB : B ≤ w.heap.size) {n k h0 a : Nat} (hn : rl n = true) (hk : k ≤ K.length) (hP : PlaceIs K size n (a : Int) (k : Int)) (h1 : 1 ≤ h0) (h2 : h0 ≤ 100000) (hf : fdI K h0 = -1) (hl : ∀ i : Nat, 1 ≤ i → i < h0 → 0 ≤ fdI K i) :
    Calls Try.prog 39 #[.pointer (some ⟨T, 0, none⟩), .int .i64 (n : Int)] w fun e w' => e = .returned (.tuple #[.int .i64 h0, .int .i64 0]) ∧ (∃ v' d, Rt w' B T size v' (K.take k ++ ⟨h0, a, d, List.replicate n 0⟩ :: K.drop k) ∧ w.heap.size ≤ d) ∧ Kept (RF T v K) w w' := by
  have hn' := rl_true hn
  have HPl : Hid (∀ q, _) := place_q h.row hb hsz (by omega) hP
  have HR : Hid (Rt w B T size v K) := h
  have HBd : Hid (BdK K) := hb
  have HL : Hid (∀ i : Nat, 1 ≤ i → i < h0 → 0 ≤ fdI K i) := hl
  have HF : Hid (fdI K h0 = -1) := hf
  obtain ⟨c0, c1⟩ := h.cells
  obtain ⟨ao, cap, hv⟩ := h.row.form
  have g0 : decide ((n : Int) < 1) = false := decide_eq_false (by omega)
  have g1 : decide ((65536 : Int) < n) = false := decide_eq_false (by omega)
  have g2 : ¬ (a : Int) < 0 := by omega
  have hmk := run_mk n (by omega)
  rw [hv] at c1 HPl
  clear h hb hP hl hf
  go_enter Try.func39, Try.ntmps39
  go_wp2_with fail
  go_quiet (first | (go_at_call 66; exact HPl.out _))
  have HR1 : Hid (Rt (w.drewN nq) B T size v K) := HR.out.no ((Kept.refl No w).drewN nq)
  have HK1 : Hid (Kept No w (w.drewN nq)) := (Kept.refl No w).drewN nq
  clear c0 c1 HPl
  generalize w.drewN nq = W at HR1 HK1 ⊢
  have HFd : Hid (∀ x : Int, Calls Try.prog 51 #[.pointer (some ⟨T, 0, none⟩), .int .i64 x] W fun e w' => e = .returned (.int .i64 (fdI K x)) ∧ W = w') := fun x => RFind_any HR1.out (by have := HBd.out.1; omega) x
  go_wp2_with fail
  go_loop [8] (fun x => ∃ t : Nat, 1 ≤ t ∧ t ≤ h0 ∧ x = .int .i64 t) (fun x => h0 - (intOf x).toNat)
  case atStart => exact ⟨1, by omega, by omega, rfl⟩
  case round =>
    obtain ⟨t, t1, t2, rfl⟩ := hrel
    by_cases ht : t < h0
    · have hff := HL.out t t1 ht
      have HFt : Hid _ := HFd.out (t : Int)
      generalize fdI K (t : Int) = z at hff HFt
      go_wp2_with (go_at_call 51; refine Calls.mono HFt.out ?_; rintro e w' ⟨rfl, rfl⟩)
      go_round
      case rel => exact ⟨t + 1, by omega, by omega, by go_num⟩
      case measure => simp [intOf] <;> omega
    · obtain rfl : t = h0 := by omega
      have HFt : Hid _ := HFd.out (t : Int)
      rw [HF.out] at HFt
      clear HFd
      go_wp2_with (go_at_call 51; refine Calls.mono HFt.out ?_; rintro e w' ⟨rfl, rfl⟩)
      refine wp_region_held_drew (S := fun _ => True) (by kernel_rfl) trivial (fun _ => ?_)
      have HR2 : Hid (Rt W.drew B T size v K) := HR1.out.no (Kept.refl No W).drew
      have HK2 : Hid (Kept No w W.drew) := HK1.out.drew
      generalize W.drew = W1 at HR2 HK2 ⊢
      have c1 := HR2.out.cells.2
      rw [hv] at c1
      have HR3 : Hid (Rt (W1.alloc (cl (List.replicate n 0))) B T size v K) := HR2.out.no ((Kept.refl No W1).alloc _)
      have HK3 : Hid (Kept No w (W1.alloc (cl (List.replicate n 0)))) := HK2.out.alloc _
      have HD3 : Hid ((W1.alloc (cl (List.replicate n 0))).heap[W1.heap.size]? = some (cl (List.replicate n 0))) := World.alloc_heap_new W1 _
      have c2 := HR3.out.cells.2
      rw [hv] at c2
      have HPut : Hid _ := RPut_any HR3.out.row (by have := HBd.out.1; omega) hk ⟨t, a, W1.heap.size, List.replicate n 0⟩
      unfold dv at HPut
      dsimp only at HPut
      rw [List.length_replicate, hv] at HPut
      clear HFt
      refine wpAnyH_take (i := 0) (v := ?vTk1) rfl (by kernel_rfl) (by kernel_rfl) (by kernel_rfl) (fun _ _ _ h => h) (Or.inl ⟨by rfl, ?yTk1⟩) trivial ?rTk1
      case yTk1 => (intro w' hSw; go_simp; try with_reducible rfl)
      case rTk1 =>
      try simp only [Act.put, List.setIfInBounds_toArray, List.set_cons_zero, List.set_cons_succ, List.getElem_toArray, List.getElem_cons_zero, List.getElem_cons_succ]
      refine wpAnyH_take (i := 1) (v := ?vTk2) rfl (by kernel_rfl) (by kernel_rfl) (by kernel_rfl) (fun _ _ _ h => h) (Or.inl ⟨by rfl, ?yTk2⟩) trivial ?rTk2
      case yTk2 => (intro w' hSw; go_simp; try with_reducible rfl)
      case rTk2 =>
      try simp only [Act.put, List.setIfInBounds_toArray, List.set_cons_zero, List.set_cons_succ, List.getElem_toArray, List.getElem_cons_zero, List.getElem_cons_succ]
      refine wpAnyH_take (i := 2) (v := ?vTk3) rfl (by kernel_rfl) (by kernel_rfl) (by kernel_rfl) (fun _ _ _ h => h) (Or.inl ⟨by rfl, ?yTk3⟩) trivial ?rTk3
      case yTk3 => (intro w' hSw; go_simp; try with_reducible rfl)
      case rTk3 =>
      try simp only [Act.put, List.setIfInBounds_toArray, List.set_cons_zero, List.set_cons_succ, List.getElem_toArray, List.getElem_cons_zero, List.getElem_cons_succ]
      refine wpAnyH_take (i := 3) (v := ?vTk4) rfl (by kernel_rfl) (by kernel_rfl) (by kernel_rfl) (fun _ _ _ h => h) (Or.inl ⟨by rfl, ?yTk4⟩) trivial ?rTk4
      case yTk4 => (intro w' hSw; go_simp; try with_reducible rfl)
      case rTk4 =>
      try simp only [Act.put, List.setIfInBounds_toArray, List.set_cons_zero, List.set_cons_succ, List.getElem_toArray, List.getElem_cons_zero, List.getElem_cons_succ]
      refine wpAnyH_take (i := 5) (v := ?vTk5) rfl (by kernel_rfl) (by kernel_rfl) (by kernel_rfl) (fun _ _ _ h => h) (Or.inl ⟨by rfl, ?yTk5⟩) trivial ?rTk5
      case yTk5 => (intro w' hSw; go_simp; try with_reducible rfl)
      case rTk5 =>
      try simp only [Act.put, List.setIfInBounds_toArray, List.set_cons_zero, List.set_cons_succ, List.getElem_toArray, List.getElem_cons_zero, List.getElem_cons_succ]
      refine wpAnyH_take (i := 6) (v := ?vTk6) rfl (by kernel_rfl) (by kernel_rfl) (by kernel_rfl) (fun _ _ _ h => h) (Or.inl ⟨by rfl, ?yTk6⟩) trivial ?rTk6
      case yTk6 => (intro w' hSw; go_simp; try with_reducible rfl)
      case rTk6 =>
      try simp only [Act.put, List.setIfInBounds_toArray, List.set_cons_zero, List.set_cons_succ, List.getElem_toArray, List.getElem_cons_zero, List.getElem_cons_succ]
      refine wpAnyH_take (i := 7) (v := ?vTk7) rfl (by kernel_rfl) (by kernel_rfl) (by kernel_rfl) (fun _ _ _ h => h) (Or.inl ⟨by rfl, ?yTk7⟩) trivial ?rTk7
      case yTk7 => (intro w' hSw; go_simp; try with_reducible rfl)
      case rTk7 =>
      try simp only [Act.put, List.setIfInBounds_toArray, List.set_cons_zero, List.set_cons_succ, List.getElem_toArray, List.getElem_cons_zero, List.getElem_cons_succ]
      refine wpAnyH_take (i := 8) (v := ?vTk8) rfl (by kernel_rfl) (by kernel_rfl) (by kernel_rfl) (fun _ _ _ h => h) (Or.inl ⟨by rfl, ?yTk8⟩) trivial ?rTk8
      case yTk8 => (intro w' hSw; go_simp; try with_reducible rfl)
      case rTk8 =>
      try simp only [Act.put, List.setIfInBounds_toArray, List.set_cons_zero, List.set_cons_succ, List.getElem_toArray, List.getElem_cons_zero, List.getElem_cons_succ]
      refine wpAnyH_ready (rs := [4, 9]) (by kernel_rfl) (by simp) ?_
      refine AllReadyH.cons rfl (fun K' hK => ?_) (AllReadyH.cons rfl (fun K' hK => ?_) AllReadyH.nil)
      · go_simp
        refine hK.out _ _ trivial (fun _ => ?_)
        clear hK K'
        try simp only [Act.put, List.setIfInBounds_toArray, List.set_cons_zero, List.set_cons_succ, List.getElem_toArray, List.getElem_cons_zero, List.getElem_cons_succ]
        refine wpAnyH_ready (rs := [9]) (by kernel_rfl) (by simp) ?_
        refine AllReadyH.cons rfl (fun K' hK => ?_) AllReadyH.nil
        go_simp
        refine hK.out _ _ trivial (fun _ => ?_)
        clear hK K'
        try simp only [Act.put, List.setIfInBounds_toArray, List.set_cons_zero, List.set_cons_succ, List.getElem_toArray, List.getElem_cons_zero, List.getElem_cons_succ]
        refine wpAnyH_take (i := 10) (v := ?vTk9) rfl (by kernel_rfl) (by kernel_rfl) (by kernel_rfl) (fun _ _ _ h => h) (Or.inl ⟨by rfl, ?yTk9⟩) trivial ?rTk9
        case yTk9 => (intro w' hSw; go_simp; try with_reducible rfl)
        case rTk9 =>
        try simp only [Act.put, List.setIfInBounds_toArray, List.set_cons_zero, List.set_cons_succ, List.getElem_toArray, List.getElem_cons_zero, List.getElem_cons_succ]
        refine wpAnyH_ready (rs := [11]) (by kernel_rfl) (by simp) ?_
        refine AllReadyH.cons rfl (fun K' hK => ?_) AllReadyH.nil
        go_simp
        refine Calls.mono HPut.out ?_
        rintro e w5 ⟨v5, rfl, h5, k5⟩
        have H5 : Hid (BRow w5 (W1.alloc (cl (List.replicate n 0))).heap.size v5 (K.take k ++ ⟨t, a, W1.heap.size, List.replicate n 0⟩ :: K.drop k) ∧ Kept No (W1.alloc (cl (List.replicate n 0))) w5) := ⟨h5, k5⟩
        obtain ⟨so, sc, e5⟩ := h5.form
        have d5 := (HR3.out.no k5).cells.2
        have f5 := frozen_of (HR3.out.no k5).hT 1
        clear h5 k5 HPut
        rw [hv] at d5
        generalize (K.take k ++ (⟨t, a, W1.heap.size, List.replicate n 0⟩ : Bk) :: K.drop k).length = NN at e5
        subst e5
        try go_wp2_with fail
        refine hK.out _ _ trivial (fun _ => ?_)
        clear hK K'
        try simp only [Act.put, List.setIfInBounds_toArray, List.set_cons_zero, List.set_cons_succ, List.getElem_toArray, List.getElem_cons_zero, List.getElem_cons_succ]
        refine wpAnyH_take (i := 12) (v := ?vTk10) rfl (by kernel_rfl) (by kernel_rfl) (by kernel_rfl) (fun _ _ _ h => h) (Or.inl ⟨by rfl, ?yTk10⟩) trivial ?rTk10
        case yTk10 => (intro w' hSw; go_simp; try with_reducible rfl)
        case rTk10 =>
        try simp only [Act.put, List.setIfInBounds_toArray, List.set_cons_zero, List.set_cons_succ, List.getElem_toArray, List.getElem_cons_zero, List.getElem_cons_succ]
        refine wpAnyH_take (i := 13) (v := ?vTk11) rfl (by kernel_rfl) (by kernel_rfl) (by kernel_rfl) (fun _ _ _ h => h) (Or.inl ⟨by rfl, ?yTk11⟩) trivial ?rTk11
        case yTk11 => (intro w' hSw; go_simp; try with_reducible rfl)
        case rTk11 =>
        try simp only [Act.put, List.setIfInBounds_toArray, List.set_cons_zero, List.set_cons_succ, List.getElem_toArray, List.getElem_cons_zero, List.getElem_cons_succ]
        refine wpAnyH_ready (rs := [14]) (by kernel_rfl) (by simp) ?_
        refine AllReadyH.cons rfl (fun K' hK => ?_) AllReadyH.nil
        go_simp
        refine hK.out _ _ trivial (fun _ => ?_)
        clear hK K'
        try simp only [Act.put, List.setIfInBounds_toArray, List.set_cons_zero, List.set_cons_succ, List.getElem_toArray, List.getElem_cons_zero, List.getElem_cons_succ]
        refine wpAnyH_done (by kernel_rfl) ?_ _
        go_wp2
        go_ret2
        have hres := HR3.out.renew H5.out.2 H5.out.1 (by have := HK3.out.size; omega) (fun b hb => ?hdat) ?hnod
        case hdat =>
          rcases put_mem hb with rfl | hb
          · exact ⟨H5.out.2.heap HD3.out id, by have := HK2.out.size; show B ≤ W1.heap.size; omega⟩
          · exact ⟨H5.out.2.heap (HR3.out.dat b hb).1 id, (HR3.out.dat b hb).2⟩
        case hnod =>
          refine put_d HR.out.nod (fun e => ?_)
          obtain ⟨b, hb, e⟩ := List.mem_map.1 e
          have := hp_lt (HR2.out.dat b hb).1
          dsimp only at e
          omega
        exact ⟨rfl, ⟨_, W1.heap.size, hres.1, HK2.out.size⟩, HK3.out.no.trans hres.2⟩
      · go_simp
        refine hK.out _ _ trivial (fun _ => ?_)
        clear hK K'
        try simp only [Act.put, List.setIfInBounds_toArray, List.set_cons_zero, List.set_cons_succ, List.getElem_toArray, List.getElem_cons_zero, List.getElem_cons_succ]
        refine wpAnyH_take (i := 10) (v := ?vTk12) rfl (by kernel_rfl) (by kernel_rfl) (by kernel_rfl) (fun _ _ _ h => h) (Or.inl ⟨by rfl, ?yTk12⟩) trivial ?rTk12
        case yTk12 => (intro w' hSw; go_simp; try with_reducible rfl)
        case rTk12 =>
        try simp only [Act.put, List.setIfInBounds_toArray, List.set_cons_zero, List.set_cons_succ, List.getElem_toArray, List.getElem_cons_zero, List.getElem_cons_succ]
        refine wpAnyH_ready (rs := [4]) (by kernel_rfl) (by simp) ?_
        refine AllReadyH.cons rfl (fun K' hK => ?_) AllReadyH.nil
        go_simp
        refine hK.out _ _ trivial (fun _ => ?_)
        clear hK K'
        try simp only [Act.put, List.setIfInBounds_toArray, List.set_cons_zero, List.set_cons_succ, List.getElem_toArray, List.getElem_cons_zero, List.getElem_cons_succ]
        refine wpAnyH_ready (rs := [11]) (by kernel_rfl) (by simp) ?_
        refine AllReadyH.cons rfl (fun K' hK => ?_) AllReadyH.nil
        go_simp
        refine Calls.mono HPut.out ?_
        rintro e w5 ⟨v5, rfl, h5, k5⟩
        have H5 : Hid (BRow w5 (W1.alloc (cl (List.replicate n 0))).heap.size v5 (K.take k ++ ⟨t, a, W1.heap.size, List.replicate n 0⟩ :: K.drop k) ∧ Kept No (W1.alloc (cl (List.replicate n 0))) w5) := ⟨h5, k5⟩
        obtain ⟨so, sc, e5⟩ := h5.form
        have d5 := (HR3.out.no k5).cells.2
        have f5 := frozen_of (HR3.out.no k5).hT 1
        clear h5 k5 HPut
        rw [hv] at d5
        generalize (K.take k ++ (⟨t, a, W1.heap.size, List.replicate n 0⟩ : Bk) :: K.drop k).length = NN at e5
        subst e5
        try go_wp2_with fail
        refine hK.out _ _ trivial (fun _ => ?_)
        clear hK K'
        try simp only [Act.put, List.setIfInBounds_toArray, List.set_cons_zero, List.set_cons_succ, List.getElem_toArray, List.getElem_cons_zero, List.getElem_cons_succ]
        refine wpAnyH_take (i := 12) (v := ?vTk13) rfl (by kernel_rfl) (by kernel_rfl) (by kernel_rfl) (fun _ _ _ h => h) (Or.inl ⟨by rfl, ?yTk13⟩) trivial ?rTk13
        case yTk13 => (intro w' hSw; go_simp; try with_reducible rfl)
        case rTk13 =>
        try simp only [Act.put, List.setIfInBounds_toArray, List.set_cons_zero, List.set_cons_succ, List.getElem_toArray, List.getElem_cons_zero, List.getElem_cons_succ]
        refine wpAnyH_take (i := 13) (v := ?vTk14) rfl (by kernel_rfl) (by kernel_rfl) (by kernel_rfl) (fun _ _ _ h => h) (Or.inl ⟨by rfl, ?yTk14⟩) trivial ?rTk14
        case yTk14 => (intro w' hSw; go_simp; try with_reducible rfl)
        case rTk14 =>
        try simp only [Act.put, List.setIfInBounds_toArray, List.set_cons_zero, List.set_cons_succ, List.getElem_toArray, List.getElem_cons_zero, List.getElem_cons_succ]
        refine wpAnyH_ready (rs := [14]) (by kernel_rfl) (by simp) ?_
        refine AllReadyH.cons rfl (fun K' hK => ?_) AllReadyH.nil
        go_simp
        refine hK.out _ _ trivial (fun _ => ?_)
        clear hK K'
        try simp only [Act.put, List.setIfInBounds_toArray, List.set_cons_zero, List.set_cons_succ, List.getElem_toArray, List.getElem_cons_zero, List.getElem_cons_succ]
        refine wpAnyH_done (by kernel_rfl) ?_ _
        go_wp2
        go_ret2
        have hres := HR3.out.renew H5.out.2 H5.out.1 (by have := HK3.out.size; omega) (fun b hb => ?hdat) ?hnod
        case hdat =>
          rcases put_mem hb with rfl | hb
          · exact ⟨H5.out.2.heap HD3.out id, by have := HK2.out.size; show B ≤ W1.heap.size; omega⟩
          · exact ⟨H5.out.2.heap (HR3.out.dat b hb).1 id, (HR3.out.dat b hb).2⟩
        case hnod =>
          refine put_d HR.out.nod (fun e => ?_)
          obtain ⟨b, hb, e⟩ := List.mem_map.1 e
          have := hp_lt (HR2.out.dat b hb).1
          dsimp only at e
          omega
        exact ⟨rfl, ⟨_, W1.heap.size, hres.1, HK2.out.size⟩, HK3.out.no.trans hres.2⟩
end
end Go.Proofs.Ytdaklohfecinjaa

/- The document's Compact. -/
namespace Go.Proofs.Ytdaklohfecinjaa
open Go.RowKit
set_option linter.unusedSimpArgs false
set_option linter.unusedVariables false

/-- A block's address is another. -/
theorem BRow.setA {w : World} {B g cap n : Nat} {X Y : List Bk} {b : Bk} (h : BRow w B (.slice (some ⟨g, 0, none⟩) n cap) (X ++ b :: Y)) (a : Nat) :
    BRow (w.setCell ⟨g, X.length * 3 + 1, none⟩ (.int .i64 (a : Int))) B (.slice (some ⟨g, 0, none⟩) n cap) (X ++ ⟨b.h, a, b.d, b.xs⟩ :: Y) := by
  have hll : (X ++ (⟨b.h, a, b.d, b.xs⟩ : Bk) :: Y).length = (X ++ b :: Y).length := by simp
  have e1 : flB (X ++ b :: Y) = flB X ++ (.int .i64 b.h :: .int .i64 b.a :: dv b.d b.xs.length :: flB Y) := by rw [flB_append]; rfl
  have e2 : flB (X ++ (⟨b.h, a, b.d, b.xs⟩ : Bk) :: Y) = flB X ++ (.int .i64 b.h :: .int .i64 a :: dv b.d b.xs.length :: flB Y) := by rw [flB_append]; rfl
  rcases h.2 with ⟨h1, _⟩ | ⟨g', cap', cur, h1, h2, h3, h4, h5, h6, h7⟩
  · cases h1
  · injection h1 with h1 h8 h9
    injection h1 with h1
    injection h1 with h1
    subst h1
    refine ⟨by rw [flB_length], .inr ⟨g, cap', cur.setIfInBounds (X.length * 3 + 1) (.int .i64 (a : Int)), ?_, h2, hp_set_same h3 _ _, by rw [hll]; exact h4, h5, by rw [Array.size_setIfInBounds]; exact h6, ?_⟩⟩
    · rw [h8, h9, hll]
    · rw [hll, Array.toList_setIfInBounds, List.take_set, h7, e1, e2, List.set_append_right _ _ (by rw [flB_length]; omega), flB_length]
      rw [show X.length * 3 + 1 - X.length * 3 = 1 by omega]
      rfl

theorem Rt.setA {w : World} {B T size g cap n : Nat} {X Y : List Bk} {b : Bk} (h : Rt w B T size (.slice (some ⟨g, 0, none⟩) n cap) (X ++ b :: Y)) (a : Nat) :
    Rt (w.setCell ⟨g, X.length * 3 + 1, none⟩ (.int .i64 (a : Int))) B T size (.slice (some ⟨g, 0, none⟩) n cap) (X ++ ⟨b.h, a, b.d, b.xs⟩ :: Y) := by
  obtain ⟨c, hc⟩ := h.row.ty (g := g) rfl
  have hk : Kept (Only g) w (w.setCell ⟨g, X.length * 3 + 1, none⟩ (.int .i64 (a : Int))) := Kept.one w g _ _
  refine ⟨hk.heap h.hT (fun e => ?_), h.row.setA a, fun x hx => ?_, by have := h.nod; simpa using this, h.bT⟩
  · have h1 := h.hT
    rw [show T = g from e, hc] at h1
    injection h1 with h1
    injection h1 with _ h3
    exact absurd h3 (by decide)
  · have hx' : ∃ y ∈ X ++ b :: Y, x.d = y.d ∧ x.xs = y.xs := by
      rcases List.mem_append.1 hx with e | e
      · exact ⟨x, List.mem_append.2 (.inl e), rfl, rfl⟩
      · rcases List.mem_cons.1 e with rfl | e
        · exact ⟨b, by simp, rfl, rfl⟩
        · exact ⟨x, by simp [e], rfl, rfl⟩
    obtain ⟨y, hy, e1, e2⟩ := hx'
    have hd := h.dat y hy
    rw [e1, e2]
    refine ⟨hk.heap hd.1 (fun e => ?_), hd.2⟩
    have h1 := hd.1
    rw [show y.d = g from e, hc] at h1
    unfold cl at h1
    injection h1 with h1
    injection h1 with _ h3
    exact absurd h3 (by decide)

/-- Blocks moved together. -/
def cmpB : Nat → List Bk → List Bk
  | _, [] => []
  | o, b :: r => ⟨b.h, o, b.d, b.xs⟩ :: cmpB (o + b.xs.length) r
theorem cmpB_append : ∀ (o : Nat) (l m : List Bk), cmpB o (l ++ m) = cmpB o l ++ cmpB (o + sumL l) m
  | o, [], m => by simp [cmpB, sumL]
  | o, b :: l, m => by
    have := cmpB_append (o + b.xs.length) l m
    have e : o + b.xs.length + sumL l = o + sumL (b :: l) := by simp [sumL]; omega
    simp only [List.cons_append, cmpB, this, e]
theorem cmpB_length : ∀ (o : Nat) (l : List Bk), (cmpB o l).length = l.length
  | _, [] => rfl
  | o, b :: r => by simp [cmpB, cmpB_length (o + b.xs.length) r]
/-- While they are moved. -/
def cmpS (K : List Bk) (k : Nat) : List Bk := cmpB 0 (K.take k) ++ K.drop k
theorem cmpS_at {K : List Bk} {k : Nat} (hk : k < K.length) : cmpS K k = cmpB 0 (K.take k) ++ K[k] :: K.drop (k + 1) := by
  unfold cmpS; rw [← List.drop_eq_getElem_cons hk]
theorem cmpS_succ {K : List Bk} {k : Nat} (hk : k < K.length) : cmpS K (k + 1) = cmpB 0 (K.take k) ++ ⟨K[k].h, sumL (K.take k), K[k].d, K[k].xs⟩ :: K.drop (k + 1) := by
  unfold cmpS
  rw [List.take_succ_eq_append_getElem hk, cmpB_append]
  simp [cmpB]
theorem cmpS_end (K : List Bk) : cmpS K K.length = cmpB 0 K := by simp [cmpS]
theorem cmpS_len (K : List Bk) (k : Nat) : (cmpS K k).length = K.length := by
  unfold cmpS; rw [List.length_append, cmpB_length, List.length_take, List.length_drop]; omega
/-- How many of the first k are moved. -/
def mvB (K : List Bk) : Nat → Nat
  | 0 => 0
  | k + 1 => mvB K k + match K[k]? with | some b => if b.a = sumL (K.take k) then 0 else 1 | none => 0
theorem mvB_succ {K : List Bk} {k : Nat} (hk : k < K.length) : mvB K (k + 1) = mvB K k + if K[k].a = sumL (K.take k) then 0 else 1 := by
  simp [mvB, List.getElem?_eq_getElem hk]
theorem mvB_le (K : List Bk) : ∀ k, mvB K k ≤ k
  | 0 => Nat.le_refl _
  | k + 1 => by
    have := mvB_le K k
    unfold mvB
    split
    · split <;> omega
    · omega

set_option maxRecDepth 20000 in
set_option maxHeartbeats 2000000 in
theorem RCompact_any {w : World} {B T size : Nat} {v : Value} {K : List Bk} (h : Rt w B T size v K) (hb : BdK K) :
    Calls Try.prog 44 #[.pointer (some ⟨T, 0, none⟩)] w fun e w' => e = .returned (.int .i64 (mvB K K.length : Nat)) ∧ Rt w' B T size v (cmpB 0 K) ∧ Kept (RF T v K) w w' := by
  obtain ⟨ao, cap, hv⟩ := h.row.form
  have HC : Hid (∀ (W : World) k, Rt W B T size v (cmpS K k) → W.cell? ⟨T, 1, none⟩ = some (.slice ao K.length cap) ∧ ∀ (hj : k < K.length), ∃ g, ao = some ⟨g, 0, none⟩ ∧ W.cell? ⟨g, k * 3 + 1, none⟩ = some (.int .i64 K[k].a) ∧ W.frozen? ⟨g, k * 3 + 1, none⟩ = false ∧ W.cell? ⟨g, k * 3 + 2, none⟩ = some (dv K[k].d K[k].xs.length)) := fun W k hR => by
    have hc := hR.cells
    rw [hv] at hc
    refine ⟨hc.2, fun hj => ?_⟩
    have hj2 : k < (cmpS K k).length := by rw [cmpS_len]; exact hj
    obtain ⟨g, cap', e, _, h1, h2⟩ := hR.blk hj2
    have e2 : (cmpS K k)[k] = K[k] := by
      have : (cmpS K k)[k]? = some K[k] := by
        rw [cmpS_at hj, List.getElem?_append_right (by rw [cmpB_length, List.length_take]; omega)]
        rw [cmpB_length, List.length_take, show k - min k K.length = 0 by omega]; rfl
      rw [List.getElem?_eq_getElem hj2] at this
      exact Option.some.inj this
    rw [e2] at h1 h2
    rw [hv] at e; injection e with e1 e3 e4
    obtain ⟨c, hc⟩ := hR.row.ty (g := g) (by rw [hv, e1]; rfl)
    exact ⟨g, e1, h1, frozen_of hc _, h2⟩
  have HB : Hid (BdK K) := hb
  have hKl := hb.1
  have HR0 : Hid (Rt w B T size v (cmpS K 0)) := h
  have HVV : Hid (v = .slice ao K.length cap) := hv
  clear h hb hv
  go_enter Try.func44, Try.ntmps44
  go_wp2_with fail
  go_loopw [3, 4, 5] (fun a n i wr => ∃ k : Nat, k ≤ K.length ∧ i = .int .i64 k ∧ Hid (a = .int .i64 (sumL (K.take k) : Nat)) ∧ Hid (n = .int .i64 (mvB K k : Nat)) ∧ Hid (Rt wr B T size v (cmpS K k) ∧ Kept (RF T v K) w wr)) (fun _ _ i _ => K.length - (intOf i).toNat)
  case atStart => exact ⟨0, Nat.zero_le _, rfl, rfl, rfl, HR0.out, Kept.refl _ _⟩
  case round =>
    clear HR0
    obtain ⟨k, hk, rfl, ha, hn, HR⟩ := hrel
    have ha' := ha.out
    subst ha'
    have hn' := hn.out
    subst hn'
    clear ha hn
    obtain ⟨c1, hcc⟩ := HC.out wr k HR.out.1
    have HCC : Hid _ := hcc
    clear hcc
    have b1 := HB.out.sum k hk
    have b3 := mvB_le K k
    by_cases hlt : k < K.length
    · obtain ⟨g, hg, d1, f1, d2⟩ := HCC.out hlt
      have b2 := HB.out.2 _ (List.getElem_mem hlt)
      have HS : Hid (sumL (K.take (k + 1)) = sumL (K.take k) + K[k].xs.length) := sumL_take hlt
      have HM : Hid (mvB K (k + 1) = mvB K k + if K[k].a = sumL (K.take k) then 0 else 1) := mvB_succ hlt
      have HN : Hid (Rt (wr.setCell ⟨g, k * 3 + 1, none⟩ (.int .i64 (sumL (K.take k) : Nat))) B T size v (cmpS K (k + 1)) ∧ Kept (RF T v K) w (wr.setCell ⟨g, k * 3 + 1, none⟩ (.int .i64 (sumL (K.take k) : Nat)))) := by
        have hR := HR.out.1
        rw [HVV.out, hg, cmpS_at hlt] at hR
        have := hR.setA (sumL (K.take k))
        rw [cmpB_length, List.length_take, show min k K.length = k by omega, ← cmpS_succ hlt] at this
        refine ⟨by rw [HVV.out, hg]; exact this, HR.out.2.set g _ _ (.inl (.inr (.inl ?_)))⟩
        rw [HVV.out, hg]; rfl
      have HE : Hid (K[k].a = sumL (K.take k) → Rt wr B T size v (cmpS K (k + 1))) := fun e => by
        have hR := HR.out.1
        rw [cmpS_at hlt] at hR
        rw [cmpS_succ hlt, ← e]; exact hR
      subst hg
      clear HCC
      unfold dv at d2
      generalize K[k].a = a0 at d1 b2 HM HE
      generalize K[k].xs.length = l0 at d2 HS b2
      generalize K[k].d = dd at d2
      generalize sumL (K.take k) = S0 at HS b1 HM HN HE ⊢
      generalize mvB K k = M0 at HM b3 ⊢
      have k1 : (k : Int) < (K.length : Int) := by omega
      have u2 : IntKind.i64.wrap ((S0 : Int) + (l0 : Int)) = (S0 : Int) + (l0 : Int) := by rw [IntKind.wrap_i64]; omega
      by_cases hab : a0 = S0
      · subst hab
        have HM2 : Hid (mvB K (k + 1) = M0) := by show _ = _; rw [HM.out, if_pos rfl]; rfl
        have HR2 : Hid (Rt wr B T size v (cmpS K (k + 1)) ∧ Kept (RF T v K) w wr) := ⟨HE.out rfl, HR.out.2⟩
        clear HE HN HM HR
        go_wp2
        go_round
        case rel => exact ⟨k + 1, by omega, by go_num, by show _ = _; rw [HS.out]; simp, by show _ = _; rw [HM2.out], HR2⟩
        case measure => simp [intOf] <;> omega
      · have HM2 : Hid (mvB K (k + 1) = M0 + 1) := by show _ = _; rw [HM.out, if_neg hab]
        have hne : ((a0 : Int) == (S0 : Int)) = false := by rw [beq_eq_false_iff_ne]; omega
        have hTg : T ≠ g := fun e => by
          obtain ⟨c, hc⟩ := HR.out.1.row.ty (g := g) (by rw [HVV.out]; rfl)
          have h1 := HR.out.1.hT
          rw [e, hc] at h1
          injection h1 with h1
          injection h1 with _ h3
          exact absurd h3 (by decide)
        have c3 : (wr.setCell ⟨g, k * 3 + 1, none⟩ (.int .i64 (S0 : Int))).cell? ⟨T, 1, none⟩ = some (.slice (some ⟨g, 0, none⟩) K.length cap) := (cell_setCells_ne g [.int .i64 (S0 : Int)] (k * 3 + 1) wr T 1 hTg).trans c1
        have c4 : (wr.setCell ⟨g, k * 3 + 1, none⟩ (.int .i64 (S0 : Int))).cell? ⟨g, k * 3 + 2, none⟩ = some (.slice (some ⟨dd, 0, none⟩) l0 l0) := by
          rw [World.cell?_setCell_other _ _ _ _ (by simp)]; exact d2
        clear HE HM HR
        go_wp2_with fail
        go_round
        case rel => exact ⟨k + 1, by omega, by go_num, by show _ = _; rw [HS.out]; simp, by show _ = _; rw [HM2.out]; simp, HN⟩
        case measure => simp [intOf] <;> omega
    · obtain rfl : k = K.length := by omega
      have HR2 : Hid (Rt wr B T size v (cmpB 0 K) ∧ Kept (RF T v K) w wr) := by have := HR.out; rw [cmpS_end] at this; exact this
      clear HR HCC
      go_wp2
      go_ret
      exact ⟨rfl, HR2.out.1, HR2.out.2⟩
end Go.Proofs.Ytdaklohfecinjaa
