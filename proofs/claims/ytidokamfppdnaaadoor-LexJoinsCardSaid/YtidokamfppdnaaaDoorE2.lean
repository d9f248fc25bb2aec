/- LexCovers. -/
import Derived.Test.YtidokamfppdnaaaDoorE1
namespace Go.Proofs.YtidokamfppdnaaaDoor
open Go.RowKit
set_option linter.unusedSimpArgs false
set_option linter.unusedVariables false

theorem Lx.err {s : ByteArray} {hs : s.size ≤ 8192} {k0 : Nat} {e : Option (Nat × Int)} {L : List Tk} (h : Lx s hs k0 e L) : ∀ k x, e = some (k, x) → k < s.size ∧ x ≠ 0 := by
  induction h with
  | done k h => intro k x e; cases e
  | bad k x h1 h2 h3 => intro k' x' e; cases e; exact ⟨h1, h3⟩
  | more k E X e L h1 h2 h3 h4 h5 h6 h7 ih => exact ih
theorem Lx.len {s : ByteArray} {hs : s.size ≤ 8192} {k0 : Nat} {e : Option (Nat × Int)} {L : List Tk} (h : Lx s hs k0 e L) : L.length ≤ s.size - k0 := by
  induction h with
  | done k h => simp
  | bad k x h1 h2 h3 => simp
  | more k E X e L h1 h2 h3 h4 h5 h6 h7 ih => simp; omega
/-- The tokens from p on, with what lies between them. -/
def Ch (s : ByteArray) : Nat → List Tk → Prop
  | p, [] => p ≤ s.size ∧ p + skipB false ((bl s).drop p) = s.size
  | p, X :: L => p ≤ s.size ∧ TkF s (p + skipB false ((bl s).drop p)) X ∧ Ch s X.e.toNat L
theorem Lx.ch {s : ByteArray} {hs : s.size ≤ 8192} {k : Nat} {e : Option (Nat × Int)} {L : List Tk} (h : Lx s hs k e L) : e = none → ∀ p, p ≤ s.size → k = p + skipB false ((bl s).drop p) → Ch s p L := by
  induction h with
  | done k h => intro _ p hp hk; exact ⟨hp, by have := skipB_le s hp; omega⟩
  | bad k x h1 h2 h3 => intro e; cases e
  | more k E X e L h1 h2 h3 h4 h5 h6 h7 ih =>
    intro he p hp hk
    subst hk
    refine ⟨hp, ?_, ?_⟩
    · rw [← h3]; exact tk_ok s h1 hs h2
    · rw [h4]; exact ih he E h6 rfl
theorem fl_at (L : List Tk) (j : Nat) (hj : j < L.length) (i : Nat) (hi : i < 7) : (fl L)[j * 7 + i]? = (tc L[j])[i]? := by
  induction L generalizing j with
  | nil => simp at hj
  | cons x r ih =>
    have e : fl (x :: r) = tc x ++ fl r := by simp [fl]
    have hl : (tc x).length = 7 := rfl
    rw [e]
    cases j with
    | zero => rw [List.getElem?_append_left (by rw [hl]; omega)]; simp
    | succ j =>
      rw [List.getElem?_append_right (by rw [hl]; omega), hl, show (j + 1) * 7 + i - 7 = j * 7 + i by omega, ih j (by simpa using hj)]
      simp
theorem TRow.any {w : World} {B : Nat} {v : Value} {L : List Tk} (h : TRow w B v L) : ∃ ao cap, v = .slice ao L.length cap ∧ ∀ j (hj : j < L.length), ∃ g, ao = some ⟨g, 0, none⟩ ∧ ∀ w', Kept No w w' → ∀ i, i < 7 → w'.cell? ⟨g, j * 7 + i, none⟩ = (tc L[j])[i]? := by
  by_cases hL : 0 < L.length
  · obtain ⟨g, cap, rfl, h1, h2, h3, h4⟩ := h.form hL
    refine ⟨_, cap, rfl, fun j hj => ⟨g, rfl, fun w' hk i hi => ?_⟩⟩
    have e := h4 (j * 7 + i) (by omega)
    rw [fl_at L j hj i hi] at e
    rw [← e]
    have : (tc L[j])[i]? = some ((tc L[j])[i]'(by show i < 7; exact hi)) := List.getElem?_eq_getElem _
    rw [this] at e
    rw [e]
    exact cell_kept e hk
  · obtain ⟨h1, ⟨h2, h2'⟩ | ⟨g, cap, cur, h3, h4⟩⟩ := h
    · exact ⟨none, 0, by rw [h2, h2'], fun j hj => by omega⟩
    · exact ⟨_, cap, h3, fun j hj => by omega⟩

set_option maxRecDepth 20000 in
set_option maxHeartbeats 2000000 in
theorem covers_err (s : ByteArray) (w : World) (he : ErrIs w) (hg : SgIs w) (k : Nat) (x : Int) (hx : x ≠ 0) (hk : k ≤ s.size) (hL : Calls Tryd.prog 13 #[.string s] w fun r w' => r = .returned (.tuple #[.slice none 0 0, .int .i64 (k : Int), .int .i64 x]) ∧ Kept No w w') :
    Calls Tryd.prog 4 #[.string s] w fun r w' => r = .returned (.bool true) ∧ Kept No w w' := by
  have HL : Hid (Calls Tryd.prog 13 #[.string s] w _) := hL
  have HA : Hid (∀ w', Kept No w w' → Calls Tryd.prog 8 #[] w' fun r w'' => r = .returned (.bool true) ∧ Kept No w' w'') := fun w' hk => alive_any w' (he.no hk) (hg.no hk)
  have HN : Hid (∀ (x : Int) w, Calls Tryd.prog 14 #[.int .i64 x] w fun e w' => e = .returned (.int .i64 x) ∧ w = w') := no_any
  have d1 : decide ((0 : Int) ≤ (k : Int)) = true := decide_eq_true (by omega)
  have d2 : decide ((k : Int) ≤ (s.size : Int)) = true := decide_eq_true (by omega)
  clear hL he hg
  go_enter Tryd.func4, Tryd.ntmps4
  go_wp2_with fail
  refine Calls.mono HL.out ?_
  rintro e W1 ⟨rfl, hk1⟩
  have HK : Hid (Kept No w W1) := hk1
  clear hk1 HL
  go_wp2_with (go_at_call 14; refine Calls.mono (HN.out _ _) ?_; rintro e w' ⟨rfl, rfl⟩)
  refine Calls.mono (HA.out _ HK.out) ?_
  rintro e W2 ⟨rfl, hk2⟩
  have HK2 : Hid (Kept No w W2) := HK.out.trans hk2
  clear hk2 HK HA
  go_wp2_with fail
  go_ret
  exact ⟨rfl, HK2.out⟩

set_option maxRecDepth 20000 in
set_option maxHeartbeats 4000000 in
theorem covers_ok (s : ByteArray) (w : World) (he : ErrIs w) (hg : SgIs w) (hs : s.size ≤ 8192) {L : List Tk} (hL : Lx s hs (skipB false (bl s)) none L) :
    Calls Tryd.prog 4 #[.string s] w fun r w' => r = .returned (.bool true) ∧ Kept No w w' := by
  have hch := hL.ch rfl 0 (by omega) (by simp)
  have hlen : L.length ≤ 8192 := by have := hL.len; omega
  have HCh : Hid (Ch s 0 L) := hch
  have HL : Hid (Calls Tryd.prog 13 #[.string s] w _) := Lex_is s w he hg hs hL
  have HA : Hid (∀ w', Kept No w w' → Calls Tryd.prog 8 #[] w' fun r w'' => r = .returned (.bool true) ∧ Kept No w' w'') := fun w' hk => alive_any w' (he.no hk) (hg.no hk)
  have HN : Hid (∀ (x : Int) w, Calls Tryd.prog 14 #[.int .i64 x] w fun e w' => e = .returned (.int .i64 x) ∧ w = w') := no_any
  clear hL he hg hch
  go_enter Tryd.func4, Tryd.ntmps4
  go_wp2_with fail
  refine Calls.mono HL.out ?_
  rintro e W1 ⟨⟨v, rfl, hr⟩, hk1⟩
  obtain ⟨ao, cap, rfl, hc⟩ := hr.any
  have HK : Hid (Kept No w W1) := hk1
  have HC : Hid (∀ j (hj : j < L.length), _) := hc
  clear hk1 HL hr hc
  go_wp2_with (go_at_call 14; refine Calls.mono (HN.out _ _) ?_; rintro e w' ⟨rfl, rfl⟩)
  go_loopw [6, 7] (fun p i wr => ∃ (j q : Nat), j ≤ L.length + 1 ∧ i = .int .i64 j ∧ p = .int .i64 q ∧ Hid (j ≤ L.length → Ch s q (L.drop j)) ∧ Hid (Kept No W1 wr)) (fun _ i _ => L.length + 1 - (intOf i).toNat)
  case atStart => exact ⟨0, 0, by omega, rfl, rfl, fun _ => HCh.out, Kept.refl _ _⟩
  case round =>
    clear HCh
    obtain ⟨j, q, hj, rfl, rfl, HJ, HKr⟩ := hrel
    by_cases hle : j ≤ L.length
    · have dle : decide ((j : Int) ≤ (L.length : Int)) = true := decide_eq_true (by omega)
      by_cases hlt : j < L.length
      · have dlt : decide ((j : Int) < (L.length : Int)) = true := decide_eq_true (by omega)
        have lt : (j : Int) < (L.length : Int) := by omega
        have hCh := HJ.out hle
        rw [List.drop_eq_getElem_cons hlt] at hCh
        obtain ⟨hq, ⟨n, K, vt, vn, sy, h1, h2, h3, h4, h5⟩, hrest⟩ := hCh
        obtain ⟨g, rfl, hcell⟩ := HC.out j hlt
        have hcell2 := hcell wr HKr.out
        rw [h5] at hcell2 hrest
        have hb := btw_skip false ((bl s).drop q)
        have hsl : (bl (s.extract q (q + skipB false ((bl s).drop q)))) = ((bl s).drop q).take (skipB false ((bl s).drop q)) := by
          rw [bl_ext, List.drop_take]; congr 1; omega
        generalize skipB false ((bl s).drop q) = m at hb hsl h2 hcell2 hrest
        have HBt : Hid (∀ w, Calls Tryd.prog 15 #[.string (s.extract q (q + m))] w fun r w' => r = .returned (.bool true) ∧ w = w') := fun w => by
          have := between_any (s.extract q (q + m)) (by rw [ByteArray.size_extract]; omega) w
          rw [hsl, hb] at this
          exact this
        have c0 := hcell2 0 (by omega)
        have c1 := hcell2 1 (by omega)
        have c2 := hcell2 2 (by omega)
        have c3 := hcell2 3 (by omega)
        have c4 := hcell2 4 (by omega)
        have c5 := hcell2 5 (by omega)
        have c6 := hcell2 6 (by omega)
        simp only [tc, List.getElem?_cons_zero, List.getElem?_cons_succ, Nat.add_zero] at c0 c1 c2 c3 c4 c5 c6
        have c7 : ∀ o, (wr.alloc o).cell? ⟨g, j * 7 + 6, none⟩ = some (.int .i64 ((q + m + n : Nat) : Int)) := fun o => cell_kept c6 ((Kept.refl No wr).alloc o)
        obtain ⟨A, HA1⟩ : ∃ A, Hid (q + m = A) := ⟨_, show _ = _ from rfl⟩
        obtain ⟨E, HE1⟩ : ∃ E, Hid (A + n = E) := ⟨_, show _ = _ from rfl⟩
        rw [HA1.out] at c1 c5 c6 c7 HBt
        rw [HA1.out] at hrest h2
        rw [HE1.out] at c1 c6 c7
        have hqA : q ≤ A := by have := HA1.out; omega
        have hAE : A < E := by have := HE1.out; omega
        have hEs : E ≤ s.size := by have := HE1.out; omega
        have d1 : decide ((A : Int) < (q : Int)) = false := decide_eq_false (by omega)
        have d2 : decide ((E : Int) ≤ (A : Int)) = false := decide_eq_false (by omega)
        have d3 : decide ((s.size : Int) < (E : Int)) = false := decide_eq_false (by omega)
        have d4 : decide (K < 1) = false := decide_eq_false (by omega)
        have d5 : decide (5 < K) = false := decide_eq_false (by omega)
        have e1 : (A : Int) ≤ (E : Int) := by omega
        have e2 : (E : Int) ≤ (s.size : Int) := by omega
        have e3 : (q : Int) ≤ (A : Int) := by omega
        have e4 : (A : Int) ≤ (s.size : Int) := by omega
        have HRs : Hid (Ch s E (L.drop (j + 1))) := by
          have h := hrest
          rw [HE1.out] at h
          exact h
        clear hcell hcell2 hrest HC hb hsl h5 HJ HA1 HE1 h2
        obtain ⟨W2, HW2⟩ : ∃ W2, Hid (wr.alloc (tb ⟨K, s.extract A E, vt, vn, sy, A, E⟩) = W2) := ⟨_, show _ = _ from rfl⟩
        have hT2 : W2.heap[wr.heap.size]? = some (tb ⟨K, s.extract A E, vt, vn, sy, A, E⟩) := by rw [← HW2.out]; exact World.alloc_heap_new wr _
        have HK2 : Hid (Kept No W1 W2) := by show Kept _ _ _; rw [← HW2.out]; exact HKr.out.alloc _
        have c8 : W2.cell? ⟨g, j * 7 + 6, none⟩ = some (.int .i64 (E : Int)) := by rw [← HW2.out]; exact c7 _
        obtain ⟨t3, t4, _, _, _, t8, t9⟩ := tb_cells hT2
        dsimp only at t3 t4 t8 t9
        unfold tb at HW2
        dsimp only at HW2
        clear c7 hT2
        go_wp2_with fail
        rw [HW2.out]
        clear HW2 c0 c1 c2 c3 c4 c5 c6
        generalize wr.heap.size = T at t3 t4 t8 t9 ⊢
        have hS0 : W2.cell? ⟨T, 0, none⟩ = some (.int .i64 K) ∧ W2.cell? ⟨T, 1, none⟩ = some (.string (s.extract A E)) ∧ W2.cell? ⟨T, 5, none⟩ = some (.int .i64 (A : Int)) ∧ W2.cell? ⟨T, 6, none⟩ = some (.int .i64 (E : Int)) := ⟨t3, t4, t8, t9⟩
        refine wp_region_held_drew (S := fun w' => w'.cell? ⟨T, 0, none⟩ = some (.int .i64 K) ∧ w'.cell? ⟨T, 1, none⟩ = some (.string (s.extract A E)) ∧ w'.cell? ⟨T, 5, none⟩ = some (.int .i64 (A : Int)) ∧ w'.cell? ⟨T, 6, none⟩ = some (.int .i64 (E : Int))) (by kernel_rfl) (by simpa using hS0) (fun hSS => ?_)
        have HK3 : Hid (Kept No W1 W2.drew) := HK2.out.drew
        have c9 : W2.drew.cell? ⟨g, j * 7 + 6, none⟩ = some (.int .i64 (E : Int)) := by simpa using c8
        clear t3 t4 t8 t9 hS0 HK2 c8
        generalize W2.drew = W3 at hSS HK3 c9 ⊢
        obtain ⟨s0, s1, s5, s6⟩ := hSS
        refine wpAnyH_take (i := 0) (v := ?vTk0) rfl (by kernel_rfl) (by kernel_rfl) (by kernel_rfl) (fun _ _ _ h => h) (Or.inl ⟨by rfl, ?yTk0⟩) ⟨s0, s1, s5, s6⟩ ?rTk0
        case yTk0 => (rintro w' ⟨f0, f1, f5, f6⟩; go_simp; try with_reducible rfl)
        case rTk0 =>
        try simp only [Act.put, List.setIfInBounds_toArray, List.set_cons_zero, List.set_cons_succ, List.getElem_toArray, List.getElem_cons_zero, List.getElem_cons_succ]
        refine wpAnyH_take (i := 1) (v := ?vTk1) rfl (by kernel_rfl) (by kernel_rfl) (by kernel_rfl) (fun _ _ _ h => h) (Or.inl ⟨by rfl, ?yTk1⟩) ⟨s0, s1, s5, s6⟩ ?rTk1
        case yTk1 => (rintro w' ⟨f0, f1, f5, f6⟩; go_simp; try with_reducible rfl)
        case rTk1 =>
        try simp only [Act.put, List.setIfInBounds_toArray, List.set_cons_zero, List.set_cons_succ, List.getElem_toArray, List.getElem_cons_zero, List.getElem_cons_succ]
        refine wpAnyH_take (i := 2) (v := ?vTk2) rfl (by kernel_rfl) (by kernel_rfl) (by kernel_rfl) (fun _ _ _ h => h) (Or.inl ⟨by rfl, ?yTk2⟩) ⟨s0, s1, s5, s6⟩ ?rTk2
        case yTk2 => (rintro w' ⟨f0, f1, f5, f6⟩; go_simp; try with_reducible rfl)
        case rTk2 =>
        try simp only [Act.put, List.setIfInBounds_toArray, List.set_cons_zero, List.set_cons_succ, List.getElem_toArray, List.getElem_cons_zero, List.getElem_cons_succ]
        refine wpAnyH_take (i := 3) (v := .bool false) rfl (by kernel_rfl) (by kernel_rfl) (by kernel_rfl) (fun _ _ _ h => h) (Or.inl ⟨by rfl, ?yTk3⟩) ⟨s0, s1, s5, s6⟩ ?rTk3
        case yTk3 => (rintro w' ⟨f0, f1, f5, f6⟩; go_simp; try simp [d1, d2, d3, d4, d5])
        case rTk3 =>
        try simp only [Act.put, List.setIfInBounds_toArray, List.set_cons_zero, List.set_cons_succ, List.getElem_toArray, List.getElem_cons_zero, List.getElem_cons_succ]
        refine wpAnyH_take (i := 4) (v := ?vTk4) rfl (by kernel_rfl) (by kernel_rfl) (by kernel_rfl) (fun _ _ _ h => h) (Or.inl ⟨by rfl, ?yTk4⟩) ⟨s0, s1, s5, s6⟩ ?rTk4
        case yTk4 => (rintro w' ⟨f0, f1, f5, f6⟩; go_simp; try with_reducible rfl)
        case rTk4 =>
        try simp only [Act.put, List.setIfInBounds_toArray, List.set_cons_zero, List.set_cons_succ, List.getElem_toArray, List.getElem_cons_zero, List.getElem_cons_succ]
        refine wpAnyH_take (i := 5) (v := ?vTk5) rfl (by kernel_rfl) (by kernel_rfl) (by kernel_rfl) (fun _ _ _ h => h) (Or.inl ⟨by rfl, ?yTk5⟩) ⟨s0, s1, s5, s6⟩ ?rTk5
        case yTk5 => (rintro w' ⟨f0, f1, f5, f6⟩; go_simp; try with_reducible rfl)
        case rTk5 =>
        try simp only [Act.put, List.setIfInBounds_toArray, List.set_cons_zero, List.set_cons_succ, List.getElem_toArray, List.getElem_cons_zero, List.getElem_cons_succ]
        refine wpAnyH_take (i := 6) (v := ?vTk6) rfl (by kernel_rfl) (by kernel_rfl) (by kernel_rfl) (fun _ _ _ h => h) (Or.inl ⟨by rfl, ?yTk6⟩) ⟨s0, s1, s5, s6⟩ ?rTk6
        case yTk6 => (rintro w' ⟨f0, f1, f5, f6⟩; go_simp; try with_reducible rfl)
        case rTk6 =>
        try simp only [Act.put, List.setIfInBounds_toArray, List.set_cons_zero, List.set_cons_succ, List.getElem_toArray, List.getElem_cons_zero, List.getElem_cons_succ]
        refine wpAnyH_take (i := 7) (v := ?vTk7) rfl (by kernel_rfl) (by kernel_rfl) (by kernel_rfl) (fun _ _ _ h => h) (Or.inl ⟨by rfl, ?yTk7⟩) ⟨s0, s1, s5, s6⟩ ?rTk7
        case yTk7 => (rintro w' ⟨f0, f1, f5, f6⟩; go_simp; try with_reducible rfl)
        case rTk7 =>
        try simp only [Act.put, List.setIfInBounds_toArray, List.set_cons_zero, List.set_cons_succ, List.getElem_toArray, List.getElem_cons_zero, List.getElem_cons_succ]
        refine wpAnyH_take (i := 8) (v := ?vTk8) rfl (by kernel_rfl) (by kernel_rfl) (by kernel_rfl) (fun _ _ _ h => h) (Or.inl ⟨by rfl, ?yTk8⟩) ⟨s0, s1, s5, s6⟩ ?rTk8
        case yTk8 => (rintro w' ⟨f0, f1, f5, f6⟩; go_simp; try with_reducible rfl)
        case rTk8 =>
        try simp only [Act.put, List.setIfInBounds_toArray, List.set_cons_zero, List.set_cons_succ, List.getElem_toArray, List.getElem_cons_zero, List.getElem_cons_succ]
        refine wpAnyH_take (i := 9) (v := .bool false) rfl (by kernel_rfl) (by kernel_rfl) (by kernel_rfl) (fun _ _ _ h => h) (Or.inl ⟨by rfl, ?yTk9⟩) ⟨s0, s1, s5, s6⟩ ?rTk9
        case yTk9 => (rintro w' ⟨f0, f1, f5, f6⟩; go_simp; try simp [d1, d2, d3, d4, d5])
        case rTk9 =>
        try simp only [Act.put, List.setIfInBounds_toArray, List.set_cons_zero, List.set_cons_succ, List.getElem_toArray, List.getElem_cons_zero, List.getElem_cons_succ]
        refine wpAnyH_take (i := 10) (v := ?vTk10) rfl (by kernel_rfl) (by kernel_rfl) (by kernel_rfl) (fun _ _ _ h => h) (Or.inl ⟨by rfl, ?yTk10⟩) ⟨s0, s1, s5, s6⟩ ?rTk10
        case yTk10 => (rintro w' ⟨f0, f1, f5, f6⟩; go_simp; try with_reducible rfl)
        case rTk10 =>
        try simp only [Act.put, List.setIfInBounds_toArray, List.set_cons_zero, List.set_cons_succ, List.getElem_toArray, List.getElem_cons_zero, List.getElem_cons_succ]
        refine wpAnyH_take (i := 11) (v := ?vTk11) rfl (by kernel_rfl) (by kernel_rfl) (by kernel_rfl) (fun _ _ _ h => h) (Or.inl ⟨by rfl, ?yTk11⟩) ⟨s0, s1, s5, s6⟩ ?rTk11
        case yTk11 => (rintro w' ⟨f0, f1, f5, f6⟩; go_simp; try with_reducible rfl)
        case rTk11 =>
        try simp only [Act.put, List.setIfInBounds_toArray, List.set_cons_zero, List.set_cons_succ, List.getElem_toArray, List.getElem_cons_zero, List.getElem_cons_succ]
        refine wpAnyH_take (i := 12) (v := ?vTk12) rfl (by kernel_rfl) (by kernel_rfl) (by kernel_rfl) (fun _ _ _ h => h) (Or.inl ⟨by rfl, ?yTk12⟩) ⟨s0, s1, s5, s6⟩ ?rTk12
        case yTk12 => (rintro w' ⟨f0, f1, f5, f6⟩; go_simp; try with_reducible rfl)
        case rTk12 =>
        try simp only [Act.put, List.setIfInBounds_toArray, List.set_cons_zero, List.set_cons_succ, List.getElem_toArray, List.getElem_cons_zero, List.getElem_cons_succ]
        refine wpAnyH_take (i := 13) (v := ?vTk13) rfl (by kernel_rfl) (by kernel_rfl) (by kernel_rfl) (fun _ _ _ h => h) (Or.inl ⟨by rfl, ?yTk13⟩) ⟨s0, s1, s5, s6⟩ ?rTk13
        case yTk13 => (rintro w' ⟨f0, f1, f5, f6⟩; go_simp; try with_reducible rfl)
        case rTk13 =>
        try simp only [Act.put, List.setIfInBounds_toArray, List.set_cons_zero, List.set_cons_succ, List.getElem_toArray, List.getElem_cons_zero, List.getElem_cons_succ]
        refine wpAnyH_take (i := 14) (v := ?vTk14) rfl (by kernel_rfl) (by kernel_rfl) (by kernel_rfl) (fun _ _ _ h => h) (Or.inl ⟨by rfl, ?yTk14⟩) ⟨s0, s1, s5, s6⟩ ?rTk14
        case yTk14 => (rintro w' ⟨f0, f1, f5, f6⟩; go_simp; try with_reducible rfl)
        case rTk14 =>
        try simp only [Act.put, List.setIfInBounds_toArray, List.set_cons_zero, List.set_cons_succ, List.getElem_toArray, List.getElem_cons_zero, List.getElem_cons_succ]
        refine wpAnyH_take (i := 15) (v := ?vTk15) rfl (by kernel_rfl) (by kernel_rfl) (by kernel_rfl) (fun _ _ _ h => h) (Or.inl ⟨by rfl, ?yTk15⟩) ⟨s0, s1, s5, s6⟩ ?rTk15
        case yTk15 => (rintro w' ⟨f0, f1, f5, f6⟩; go_simp; try with_reducible rfl)
        case rTk15 =>
        try simp only [Act.put, List.setIfInBounds_toArray, List.set_cons_zero, List.set_cons_succ, List.getElem_toArray, List.getElem_cons_zero, List.getElem_cons_succ]
        refine wpAnyH_take (i := 16) (v := .bool false) rfl (by kernel_rfl) (by kernel_rfl) (by kernel_rfl) (fun _ _ _ h => h) (Or.inl ⟨by rfl, ?yTk16⟩) ⟨s0, s1, s5, s6⟩ ?rTk16
        case yTk16 => (rintro w' ⟨f0, f1, f5, f6⟩; go_simp; try simp [d1, d2, d3, d4, d5])
        case rTk16 =>
        try simp only [Act.put, List.setIfInBounds_toArray, List.set_cons_zero, List.set_cons_succ, List.getElem_toArray, List.getElem_cons_zero, List.getElem_cons_succ]
        refine wpAnyH_take (i := 17) (v := ?vTk17) rfl (by kernel_rfl) (by kernel_rfl) (by kernel_rfl) (fun _ _ _ h => h) (Or.inl ⟨by rfl, ?yTk17⟩) ⟨s0, s1, s5, s6⟩ ?rTk17
        case yTk17 => (rintro w' ⟨f0, f1, f5, f6⟩; go_simp; try with_reducible rfl)
        case rTk17 =>
        try simp only [Act.put, List.setIfInBounds_toArray, List.set_cons_zero, List.set_cons_succ, List.getElem_toArray, List.getElem_cons_zero, List.getElem_cons_succ]
        refine wpAnyH_take (i := 18) (v := ?vTk18) rfl (by kernel_rfl) (by kernel_rfl) (by kernel_rfl) (fun _ _ _ h => h) (Or.inl ⟨by rfl, ?yTk18⟩) ⟨s0, s1, s5, s6⟩ ?rTk18
        case yTk18 => (rintro w' ⟨f0, f1, f5, f6⟩; go_simp; try with_reducible rfl)
        case rTk18 =>
        try simp only [Act.put, List.setIfInBounds_toArray, List.set_cons_zero, List.set_cons_succ, List.getElem_toArray, List.getElem_cons_zero, List.getElem_cons_succ]
        refine wpAnyH_take (i := 19) (v := ?vTk19) rfl (by kernel_rfl) (by kernel_rfl) (by kernel_rfl) (fun _ _ _ h => h) (Or.inl ⟨by rfl, ?yTk19⟩) ⟨s0, s1, s5, s6⟩ ?rTk19
        case yTk19 => (rintro w' ⟨f0, f1, f5, f6⟩; go_simp; try with_reducible rfl)
        case rTk19 =>
        try simp only [Act.put, List.setIfInBounds_toArray, List.set_cons_zero, List.set_cons_succ, List.getElem_toArray, List.getElem_cons_zero, List.getElem_cons_succ]
        refine wpAnyH_take (i := 20) (v := ?vTk20) rfl (by kernel_rfl) (by kernel_rfl) (by kernel_rfl) (fun _ _ _ h => h) (Or.inl ⟨by rfl, ?yTk20⟩) ⟨s0, s1, s5, s6⟩ ?rTk20
        case yTk20 => (rintro w' ⟨f0, f1, f5, f6⟩; go_simp; try with_reducible rfl)
        case rTk20 =>
        try simp only [Act.put, List.setIfInBounds_toArray, List.set_cons_zero, List.set_cons_succ, List.getElem_toArray, List.getElem_cons_zero, List.getElem_cons_succ]
        refine wpAnyH_take (i := 21) (v := ?vTk21) rfl (by kernel_rfl) (by kernel_rfl) (by kernel_rfl) (fun _ _ _ h => h) (Or.inl ⟨by rfl, ?yTk21⟩) ⟨s0, s1, s5, s6⟩ ?rTk21
        case yTk21 => (rintro w' ⟨f0, f1, f5, f6⟩; go_simp; try with_reducible rfl)
        case rTk21 =>
        try simp only [Act.put, List.setIfInBounds_toArray, List.set_cons_zero, List.set_cons_succ, List.getElem_toArray, List.getElem_cons_zero, List.getElem_cons_succ]
        refine wpAnyH_take (i := 22) (v := ?vTk22) rfl (by kernel_rfl) (by kernel_rfl) (by kernel_rfl) (fun _ _ _ h => h) (Or.inl ⟨by rfl, ?yTk22⟩) ⟨s0, s1, s5, s6⟩ ?rTk22
        case yTk22 => (rintro w' ⟨f0, f1, f5, f6⟩; go_simp; try with_reducible rfl)
        case rTk22 =>
        try simp only [Act.put, List.setIfInBounds_toArray, List.set_cons_zero, List.set_cons_succ, List.getElem_toArray, List.getElem_cons_zero, List.getElem_cons_succ]
        refine wpAnyH_take (i := 23) (v := ?vTk23) rfl (by kernel_rfl) (by kernel_rfl) (by kernel_rfl) (fun _ _ _ h => h) (Or.inl ⟨by rfl, ?yTk23⟩) ⟨s0, s1, s5, s6⟩ ?rTk23
        case yTk23 => (rintro w' ⟨f0, f1, f5, f6⟩; go_simp; try with_reducible rfl)
        case rTk23 =>
        try simp only [Act.put, List.setIfInBounds_toArray, List.set_cons_zero, List.set_cons_succ, List.getElem_toArray, List.getElem_cons_zero, List.getElem_cons_succ]
        refine wpAnyH_take (i := 24) (v := ?vTk24) rfl (by kernel_rfl) (by kernel_rfl) (by kernel_rfl) (fun _ _ _ h => h) (Or.inl ⟨by rfl, ?yTk24⟩) ⟨s0, s1, s5, s6⟩ ?rTk24
        case yTk24 => (rintro w' ⟨f0, f1, f5, f6⟩; go_simp; try with_reducible rfl)
        case rTk24 =>
        try simp only [Act.put, List.setIfInBounds_toArray, List.set_cons_zero, List.set_cons_succ, List.getElem_toArray, List.getElem_cons_zero, List.getElem_cons_succ]
        refine wpAnyH_take (i := 25) (v := ?vTk25) rfl (by kernel_rfl) (by kernel_rfl) (by kernel_rfl) (fun _ _ _ h => h) (Or.inl ⟨by rfl, ?yTk25⟩) ⟨s0, s1, s5, s6⟩ ?rTk25
        case yTk25 => (rintro w' ⟨f0, f1, f5, f6⟩; go_simp; try with_reducible rfl)
        case rTk25 =>
        try simp only [Act.put, List.setIfInBounds_toArray, List.set_cons_zero, List.set_cons_succ, List.getElem_toArray, List.getElem_cons_zero, List.getElem_cons_succ]
        refine wpAnyH_take (i := 26) (v := ?vTk26) rfl (by kernel_rfl) (by kernel_rfl) (by kernel_rfl) (fun _ _ _ h => h) (Or.inl ⟨by rfl, ?yTk26⟩) ⟨s0, s1, s5, s6⟩ ?rTk26
        case yTk26 => (rintro w' ⟨f0, f1, f5, f6⟩; go_simp; try with_reducible rfl)
        case rTk26 =>
        try simp only [Act.put, List.setIfInBounds_toArray, List.set_cons_zero, List.set_cons_succ, List.getElem_toArray, List.getElem_cons_zero, List.getElem_cons_succ]
        refine wpAnyH_take (i := 27) (v := .bool false) rfl (by kernel_rfl) (by kernel_rfl) (by kernel_rfl) (fun _ _ _ h => h) (Or.inl ⟨by rfl, ?yTk27⟩) ⟨s0, s1, s5, s6⟩ ?rTk27
        case yTk27 => (rintro w' ⟨f0, f1, f5, f6⟩; go_simp; try simp [d1, d2, d3, d4, d5])
        case rTk27 =>
        try simp only [Act.put, List.setIfInBounds_toArray, List.set_cons_zero, List.set_cons_succ, List.getElem_toArray, List.getElem_cons_zero, List.getElem_cons_succ]
        refine wpAnyH_take (i := 28) (v := ?vTk28) rfl (by kernel_rfl) (by kernel_rfl) (by kernel_rfl) (fun _ _ _ h => h) (Or.inl ⟨by rfl, ?yTk28⟩) ⟨s0, s1, s5, s6⟩ ?rTk28
        case yTk28 => (rintro w' ⟨f0, f1, f5, f6⟩; go_simp; try with_reducible rfl)
        case rTk28 =>
        try simp only [Act.put, List.setIfInBounds_toArray, List.set_cons_zero, List.set_cons_succ, List.getElem_toArray, List.getElem_cons_zero, List.getElem_cons_succ]
        refine wpAnyH_take (i := 29) (v := ?vTk29) rfl (by kernel_rfl) (by kernel_rfl) (by kernel_rfl) (fun _ _ _ h => h) (Or.inl ⟨by rfl, ?yTk29⟩) ⟨s0, s1, s5, s6⟩ ?rTk29
        case yTk29 => (rintro w' ⟨f0, f1, f5, f6⟩; go_simp; try with_reducible rfl)
        case rTk29 =>
        try simp only [Act.put, List.setIfInBounds_toArray, List.set_cons_zero, List.set_cons_succ, List.getElem_toArray, List.getElem_cons_zero, List.getElem_cons_succ]
        refine wpAnyH_take (i := 30) (v := ?vTk30) rfl (by kernel_rfl) (by kernel_rfl) (by kernel_rfl) (fun _ _ _ h => h) (Or.inl ⟨by rfl, ?yTk30⟩) ⟨s0, s1, s5, s6⟩ ?rTk30
        case yTk30 => (rintro w' ⟨f0, f1, f5, f6⟩; go_simp; try with_reducible rfl)
        case rTk30 =>
        try simp only [Act.put, List.setIfInBounds_toArray, List.set_cons_zero, List.set_cons_succ, List.getElem_toArray, List.getElem_cons_zero, List.getElem_cons_succ]
        refine wpAnyH_take (i := 31) (v := ?vTk31) rfl (by kernel_rfl) (by kernel_rfl) (by kernel_rfl) (fun _ _ _ h => h) (Or.inl ⟨by rfl, ?yTk31⟩) ⟨s0, s1, s5, s6⟩ ?rTk31
        case yTk31 => (rintro w' ⟨f0, f1, f5, f6⟩; go_simp; try with_reducible rfl)
        case rTk31 =>
        try simp only [Act.put, List.setIfInBounds_toArray, List.set_cons_zero, List.set_cons_succ, List.getElem_toArray, List.getElem_cons_zero, List.getElem_cons_succ]
        refine wpAnyH_take (i := 32) (v := .bool false) rfl (by kernel_rfl) (by kernel_rfl) (by kernel_rfl) (fun _ _ _ h => h) (Or.inl ⟨by rfl, ?yTk32⟩) ⟨s0, s1, s5, s6⟩ ?rTk32
        case yTk32 => (rintro w' ⟨f0, f1, f5, f6⟩; go_simp; try simp [d1, d2, d3, d4, d5])
        case rTk32 =>
        try simp only [Act.put, List.setIfInBounds_toArray, List.set_cons_zero, List.set_cons_succ, List.getElem_toArray, List.getElem_cons_zero, List.getElem_cons_succ]
        refine wpAnyH_take (i := 33) (v := ?vTk33) rfl (by kernel_rfl) (by kernel_rfl) (by kernel_rfl) (fun _ _ _ h => h) (Or.inl ⟨by rfl, ?yTk33⟩) ⟨s0, s1, s5, s6⟩ ?rTk33
        case yTk33 => (rintro w' ⟨f0, f1, f5, f6⟩; go_simp; try with_reducible rfl)
        case rTk33 =>
        try simp only [Act.put, List.setIfInBounds_toArray, List.set_cons_zero, List.set_cons_succ, List.getElem_toArray, List.getElem_cons_zero, List.getElem_cons_succ]
        refine wpAnyH_take (i := 34) (v := ?vTk34) rfl (by kernel_rfl) (by kernel_rfl) (by kernel_rfl) (fun _ _ _ h => h) (Or.inl ⟨by rfl, ?yTk34⟩) ⟨s0, s1, s5, s6⟩ ?rTk34
        case yTk34 => (rintro w' ⟨f0, f1, f5, f6⟩; go_simp; try with_reducible rfl)
        case rTk34 =>
        try simp only [Act.put, List.setIfInBounds_toArray, List.set_cons_zero, List.set_cons_succ, List.getElem_toArray, List.getElem_cons_zero, List.getElem_cons_succ]
        refine wpAnyH_take (i := 35) (v := ?vTk35) rfl (by kernel_rfl) (by kernel_rfl) (by kernel_rfl) (fun _ _ _ h => h) (Or.inl ⟨by rfl, ?yTk35⟩) ⟨s0, s1, s5, s6⟩ ?rTk35
        case yTk35 => (rintro w' ⟨f0, f1, f5, f6⟩; go_simp; try with_reducible rfl)
        case rTk35 =>
        try simp only [Act.put, List.setIfInBounds_toArray, List.set_cons_zero, List.set_cons_succ, List.getElem_toArray, List.getElem_cons_zero, List.getElem_cons_succ]
        refine wpAnyH_take (i := 36) (v := ?vTk36) rfl (by kernel_rfl) (by kernel_rfl) (by kernel_rfl) (fun _ _ _ h => h) (Or.inl ⟨by rfl, ?yTk36⟩) ⟨s0, s1, s5, s6⟩ ?rTk36
        case yTk36 => (rintro w' ⟨f0, f1, f5, f6⟩; go_simp; try with_reducible rfl)
        case rTk36 =>
        try simp only [Act.put, List.setIfInBounds_toArray, List.set_cons_zero, List.set_cons_succ, List.getElem_toArray, List.getElem_cons_zero, List.getElem_cons_succ]
        refine wpAnyH_take (i := 37) (v := .bool false) rfl (by kernel_rfl) (by kernel_rfl) (by kernel_rfl) (fun _ _ _ h => h) (Or.inl ⟨by rfl, ?yTk37⟩) ⟨s0, s1, s5, s6⟩ ?rTk37
        case yTk37 => (rintro w' ⟨f0, f1, f5, f6⟩; go_simp; try simp [d1, d2, d3, d4, d5])
        case rTk37 =>
        try simp only [Act.put, List.setIfInBounds_toArray, List.set_cons_zero, List.set_cons_succ, List.getElem_toArray, List.getElem_cons_zero, List.getElem_cons_succ]
        refine wpAnyH_take (i := 38) (v := ?vTk38) rfl (by kernel_rfl) (by kernel_rfl) (by kernel_rfl) (fun _ _ _ h => h) (Or.inl ⟨by rfl, ?yTk38⟩) ⟨s0, s1, s5, s6⟩ ?rTk38
        case yTk38 => (rintro w' ⟨f0, f1, f5, f6⟩; go_simp; try with_reducible rfl)
        case rTk38 =>
        try simp only [Act.put, List.setIfInBounds_toArray, List.set_cons_zero, List.set_cons_succ, List.getElem_toArray, List.getElem_cons_zero, List.getElem_cons_succ]
        refine wpAnyH_done (by kernel_rfl) ?_ _
        go_wp2_with fail
        refine Calls.mono (HBt.out _) ?_
        rintro e w' ⟨rfl, rfl⟩
        clear s0 s1 s5 s6 HBt d1 d2 d3 d4 d5
        go_wp2_with fail
        go_roundw
        case rel => exact ⟨j + 1, E, by omega, by go_num, rfl, fun _ => HRs.out, HK3.out⟩
        case measure => simp [intOf] <;> omega
      · obtain rfl : j = L.length := by omega
        have dlt : decide ((L.length : Int) < (L.length : Int)) = false := decide_eq_false (by omega)
        have hCh := HJ.out hle
        rw [List.drop_eq_nil_of_le (Nat.le_refl _)] at hCh
        obtain ⟨hq, hqs⟩ := hCh
        have hb := btw_skip false ((bl s).drop q)
        have hsl : bl (s.extract q s.size) = ((bl s).drop q).take (skipB false ((bl s).drop q)) := by
          rw [bl_from, List.take_of_length_le (by rw [List.length_drop, bl_len]; omega)]
        have HBt : Hid (∀ w, Calls Tryd.prog 15 #[.string (s.extract q s.size)] w fun r w' => r = .returned (.bool true) ∧ w = w') := fun w => by
          have := between_any (s.extract q s.size) (by rw [ByteArray.size_extract]; omega) w
          rw [hsl, hb] at this
          exact this
        have e3 : (q : Int) ≤ (s.size : Int) := by omega
        have HJ2 : Hid (L.length + 1 ≤ L.length → Ch s q (L.drop (L.length + 1))) := fun h => absurd h (by omega)
        clear hb hsl HJ HC hqs
        go_wp2_with (go_at_call 15; refine Calls.mono (HBt.out _) ?_; rintro e w' ⟨rfl, rfl⟩)
        go_roundw
        case rel => exact ⟨L.length + 1, q, by omega, by go_num, rfl, HJ2, HKr.out⟩
        case measure => simp [intOf] <;> omega
    · obtain rfl : j = L.length + 1 := by omega
      have dle : decide (((L.length + 1 : Nat) : Int) ≤ (L.length : Int)) = false := decide_eq_false (by omega)
      have HKw : Hid (Kept No w wr) := HK.out.trans HKr.out
      clear HJ HC HKr HK
      go_wp2_with fail
      refine Calls.mono (HA.out _ HKw.out) ?_
      rintro e W2 ⟨rfl, hk2⟩
      have HK2 : Hid (Kept No w W2) := HKw.out.trans hk2
      clear hk2 HKw HA
      go_wp2_with fail
      go_ret
      exact ⟨rfl, HK2.out⟩

theorem covers_any (s : ByteArray) (w : World) (he : ErrIs w) (hg : SgIs w) :
    Calls Tryd.prog 4 #[.string s] w fun r w' => r = .returned (.bool true) ∧ Kept No w w' := by
  by_cases hs : s.size ≤ 8192
  · obtain ⟨e, L, hL⟩ := Lx.all s hs _ (skipB false (bl s)) (Nat.le_refl _)
    cases e with
    | none => exact covers_ok s w he hg hs hL
    | some p =>
      obtain ⟨k, x⟩ := p
      obtain ⟨h1, h2⟩ := hL.err k x rfl
      exact covers_err s w he hg k x h2 (by omega) (Lex_is s w he hg hs hL)
  · exact covers_err s w he hg 0 3 (by decide) (by omega) (Lex_long s w hs)
theorem LexCovers_any (s : ByteArray) (w : World) (hz : s.size ≤ 140737488351232) (he : ErrIs w) (hg : SgIs w) :
    Calls Tryd.prog 4 #[.string s] w fun r w' => r = .returned (.bool true) ∧ Kept No w w' := covers_any s w he hg
end Go.Proofs.YtidokamfppdnaaaDoor
