/- The document's Lex. -/
import Derived.Test.YtidokamfppdnaaaGreatDoorQ7
namespace Go.Proofs.YtidokamfppdnaaaGreatDoor
open Go.RowKit
set_option linter.unusedSimpArgs false
set_option linter.unusedVariables false

set_option maxRecDepth 20000 in
set_option maxHeartbeats 2000000 in
theorem RLex_long (s : ByteArray) (w : World) (hs : ¬ s.size ≤ 8192) :
    Calls Tryz.prog 5 #[.string s] w fun r w' => r = .returned (.tuple #[.slice none 0 0, .int .i64 0, .int .i64 3]) ∧ Kept No w w' := by
  have q1 : (8192 : Int) < (s.size : Int) := by omega
  go_enter Tryz.func5, Tryz.ntmps5
  go_wp2
  refine bodyPost_ret (v := .tuple #[.slice none 0 0, .int .i64 0, .int .i64 3]) (by simp [results, Tryz.results5, go_sem]) rfl ⟨rfl, ?_⟩
  exact Kept.refl _ _

set_option maxRecDepth 20000 in
set_option maxHeartbeats 4000000 in
theorem RLex_is (s : ByteArray) (w : World) (hs : s.size ≤ 8192) {e : Option (Nat × Int)} {L : List Tk} (hL : Lx s hs (skipB false (bl s)) e L) :
    Calls Tryz.prog 5 #[.string s] w fun r w' => LexR w e L r w' ∧ Kept No w w' := by
  have q1 : ¬ (8192 : Int) < (s.size : Int) := by omega
  obtain ⟨i0, hi, hz0, hz1, hz2⟩ := info_parts info26
  have HI : Hid (Tryz.prog.info? 38 = some i0 ∧ _ ∧ _ ∧ _) := ⟨hi, hz0, hz1, hz2⟩
  have HL : Hid (Lx s hs (skipB false (bl s)) e L) := hL
  have H1 : Hid (Kept No w w) := Kept.refl _ _
  have HB : Hid (w.heap.size ≤ w.heap.size) := Nat.le_refl _
  clear hL hi hz0 hz1 hz2
  go_enter Tryz.func5, Tryz.ntmps5
  go_wp2_with fail
  refine Calls.mono (blanks_any s 0 (by omega) (by omega) _) ?_
  rintro e' W2 ⟨rfl, rfl⟩
  go_wp2_with fail
  have hk0 : skipB false (bl s) ≤ s.size := by have := skipB_le s (Nat.zero_le s.size); simpa using this
  have hk1 : (0 : Nat) ≤ skipB false (bl s) := Nat.zero_le _
  generalize skipB false (bl s) = k0 at HL hk0 hk1 ⊢
  go_loopw [5, 6] (fun v i wr => ∃ (k : Nat) (D T : List Tk), k ≤ s.size ∧ i = .int .i64 k ∧ D.length ≤ k ∧ Hid (Lx s hs k e T ∧ L = D ++ T) ∧ Hid (TRow wr w.heap.size v D) ∧ Hid (Kept No w wr)) (fun _ i _ => s.size - (intOf i).toNat)
  case atStart => exact ⟨k0, [], L, hk0, rfl, by simp, ⟨HL.out, rfl⟩, World.ownsRow_nil _ _ _ _, Kept.refl _ _⟩
  case round =>
    clear HL hk0 hk1
    obtain ⟨k, D, T, hk, rfl, hD, HT, HR, HK⟩ := hrel
    by_cases hlt : k < s.size
    · have dlt : decide ((k : Int) < (s.size : Int)) = true := decide_eq_true (by omega)
      have HTo : Hid _ := one_any s k hlt hs wr
      generalize hp : tkAt s k hs = p at HTo
      obtain ⟨⟨pk, pt, pvt, pvn, psy, pa, pe⟩, x⟩ := p
      unfold OneR at HTo
      dsimp only at HTo
      by_cases hx : x = 0
      · subst hx
        obtain ⟨E, T', hkE, hEs, HX⟩ : ∃ (E : Nat) (T' : List Tk), k < E ∧ E ≤ s.size ∧ Hid (pe = (E : Int) ∧ T = ⟨pk, pt, pvt, pvn, psy, pa, pe⟩ :: T' ∧ Lx s hs (E + skipB false ((bl s).drop E)) e T') := by
          have h0 := HT.out.1
          cases h0 with
          | done _ h => omega
          | bad _ x h1 h2 h3 => rw [hp] at h2; exact absurd h2.symm h3
          | more _ E X e L' h1 h2 h3 h4 h5 h6 h7 =>
            rw [hp] at h3
            dsimp only at h3
            subst h3
            exact ⟨E, L', h5, h6, h4, rfl, h7⟩
        obtain rfl : pe = (E : Int) := HX.out.1
        have HTT : Hid (L = (D ++ [⟨pk, pt, pvt, pvn, psy, pa, E⟩]) ++ T') := by show _ = _; rw [HT.out.2, HX.out.2.1]; simp
        have HX2 : Hid (Lx s hs (E + skipB false ((bl s).drop E)) e T') := HX.out.2.2
        have hsk := skipB_le s hEs
        clear HT HX hp
        go_wp2_with fail
        refine Calls.mono HTo.out ?_
        rintro e' W1 ⟨⟨X, rfl, hX⟩, hk1⟩
        obtain rfl := hX trivial
        clear hX
        have HK1 : Hid (Kept No w W1 ∧ TRow W1 w.heap.size u5 D) := ⟨HK.out.trans hk1, HR.out.no hk1⟩
        clear HTo hk1 HR HK
        unfold tv
        dsimp only
        go_wp2_with (at_builtin; refine wpList_append_own _ rfl _ _ 22 rfl w.heap.size 38 i0 (.agg #[.int .i64 0, .string ⟨#[]⟩, .int .i64 0, .int .i64 0, .string ⟨#[]⟩, .int .i64 0, .int .i64 0]) 7 72 Tryz.underlying22 HI.out.1 HI.out.2.1 HI.out.2.2.1 HI.out.2.2.2 rfl (by decide) u5 D.length (fl D) rfl (HK1.out.2.no (((Kept.refl No W1).alloc _).alloc _)) ⟨W1.heap.size + 1, 0, none⟩ 1 1 (tc ⟨pk, pt, pvt, pvn, psy, pa, E⟩) rfl ?qc1 ?qc2 ?qc3 ?qc4 ?qc5 ?qc6 ?_)
        case qc1 => rfl
        case qc2 =>
          have e1 : ∀ o, (W1.alloc o).heap.size = W1.heap.size + 1 := fun o => by simp
          have := World.alloc_heap_new (W1.alloc (tb ⟨pk, pt, pvt, pvn, psy, pa, E⟩)) (tb ⟨pk, pt, pvt, pvn, psy, pa, E⟩)
          rw [e1] at this
          exact tc_cells this
        case qc3 => exact tc_one _
        case qc4 => unfold maxLen; omega
        case qc5 => omega
        case qc6 => have := HK1.out.1.size; simp; omega
        intro v' W3 hown hgrow hnil
        obtain ⟨W2, HW2⟩ : ∃ W2, Hid ((W1.alloc (tb ⟨pk, pt, pvt, pvn, psy, pa, E⟩)).alloc (tb ⟨pk, pt, pvt, pvn, psy, pa, E⟩) = W2) := ⟨_, show _ = _ from rfl⟩
        have hk2 : Kept No W1 W2 := by rw [← HW2.out]; exact ((Kept.refl No W1).alloc _).alloc _
        have ht2 : W2.heap[W1.heap.size]? = some (tb ⟨pk, pt, pvt, pvn, psy, pa, E⟩) := by rw [← HW2.out]; exact ((Kept.refl No (W1.alloc _)).alloc _).heap (World.alloc_heap_new W1 _) id
        have hg2 : W2.grownBy W3 u5.ownBlock := by rw [← HW2.out]; exact hgrow
        have hlt2 := fun k e => World.ownsRow.lt HK1.out.2 k e
        have hk3 : Kept (fun b => u5.ownBlock = some b) W2 W3 := (Kept.refl _ W2).grown hg2 (fun k e => .inl e)
        have ht3 : W3.heap[W1.heap.size]? = some (tb ⟨pk, pt, pvt, pvn, psy, pa, E⟩) := hk3.heap ht2 (fun e => by have := (hlt2 _ e).2; omega)
        have HK3 : Hid (Kept No w W3 ∧ TRow W3 w.heap.size v' (D ++ [⟨pk, pt, pvt, pvn, psy, pa, E⟩])) := by
          refine ⟨(HK1.out.1.trans hk2).grown hg2 (fun k e => .inr (hlt2 k e).1), ?_⟩
          unfold TRow
          rw [fl_snoc, List.length_append]
          exact hown
        have t9 := (tb_cells ht3).2.2.2.2.2.2
        dsimp only at t9
        clear hown hgrow hnil HW2 hk2 ht2 hg2 hlt2 hk3 ht3 HK1
        go_wp2_with fail
        refine Calls.mono (blanks_any s E hEs (by omega) _) ?_
        rintro e' W4 ⟨rfl, rfl⟩
        go_wp2_with fail
        go_roundw
        case rel => exact ⟨E + skipB false ((bl s).drop E), D ++ [(⟨pk, pt, pvt, pvn, psy, pa, E⟩ : Tk)], T', hsk, rfl, by simp; omega, ⟨HX2.out, HTT.out⟩, HK3.out.2, HK3.out.1⟩
        case measure => simp [intOf] <;> omega
      · have HX : Hid (e = some (k, x)) := by
          have h0 := HT.out.1
          cases h0 with
          | done _ h => omega
          | bad _ x h1 h2 h3 => rw [hp] at h2; dsimp only at h2; show _ = _; rw [h2]
          | more _ E X e L' h1 h2 h3 h4 h5 h6 h7 => rw [hp] at h2; exact absurd h2 hx
        have bx : (x == 0) = false := by simp [hx]
        clear hp HT hx
        go_wp2_with fail
        refine Calls.mono HTo.out ?_
        rintro e' W1 ⟨⟨⟨xk, xt, xvt, xvn, xsy, xa, xe⟩, rfl, hX⟩, hk1⟩
        clear hX
        have HK1 : Hid (Kept No w W1) := HK.out.trans hk1
        clear HTo hk1 HR HK
        unfold tv
        dsimp only
        go_wp2_with fail
        refine bodyPost_ret (v := .tuple #[.slice none 0 0, .int .i64 (k : Int), .int .i64 x]) (by simp [results, Tryz.results5, go_sem]) rfl ⟨by rw [HX.out]; exact rfl, ?_⟩
        exact HK1.out.alloc _
    · have hkk : k = s.size := by omega
      have dlt : decide ((k : Int) < (s.size : Int)) = false := decide_eq_false (by omega)
      have HX : Hid (e = none ∧ L = D) := by
        obtain ⟨h0, h1⟩ := HT.out
        cases h0 with
        | done _ h => exact ⟨rfl, by rw [h1]; simp⟩
        | bad _ x h1 h2 h3 => omega
        | more _ E X e L' h1 h2 h3 h4 h5 h6 h7 => omega
      have HRF : Hid (TRow wr w.heap.size u5 L) := by
        show TRow _ _ _ _
        rw [HX.out.2]
        obtain ⟨r1, r2 | ⟨g, cap, cur, r3, r4, r5⟩⟩ := HR.out
        · exact ⟨r1, .inl r2⟩
        · exact ⟨r1, .inr ⟨g, cap, cur, r3, Nat.le_trans HB.out r4, r5⟩⟩
      clear HT HR
      go_wp2_with fail
      refine bodyPost_ret (v := .tuple #[u5, .int .i64 0, .int .i64 0]) (by simp [results, Tryz.results5, go_sem]) rfl ⟨by rw [HX.out.1]; exact ⟨u5, rfl, HRF.out⟩, ?_⟩
      exact HK.out
end Go.Proofs.YtidokamfppdnaaaGreatDoor
