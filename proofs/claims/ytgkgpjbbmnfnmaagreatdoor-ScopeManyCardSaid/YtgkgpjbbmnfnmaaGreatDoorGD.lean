/- Joined: D1 D0 D2 D3. -/
import Derived.Test.YtgkgpjbbmnfnmaaGreatDoorGC
import Derived.Maps.AppendAt
/- A new cutter. -/
namespace Go.Proofs.YtgkgpjbbmnfnmaaGreatDoor
open Go.RowKit
set_option linter.unusedSimpArgs false
set_option linter.unusedVariables false

set_option maxRecDepth 20000 in
set_option maxHeartbeats 2000000 in
theorem newCutter_any (s : ByteArray) (w : World) :
    Calls Tryz.prog 13 #[.string s] w fun r w' => ∃ c, r = .returned (.pointer (some ⟨c, 0, none⟩)) ∧ Cu w' c s ∧ Kept No w w' := by
  have HWd : Hid (∀ w, Calls Tryz.prog 22 #[] w fun e w' => e = .returned (.map (some w.heap.size)) ∧ WIs w' w.heap.size 18 wordsL ∧ Kept No w w') := words_any
  go_enter Tryz.func13, Tryz.ntmps13
  go_wp2_with fail
  refine Calls.mono (HWd.out _) ?_
  rintro e W1 ⟨rfl, h1, k1⟩
  have H1 : Hid (WIs W1 w.heap.size 18 wordsL ∧ Kept No w W1) := ⟨h1, k1⟩
  clear h1 k1 HWd
  go_wp2_with fail
  go_ret
  refine ⟨W1.heap.size, rfl, ⟨w.heap.size, W1.heap.size + 1, ?_, ?_, ?_⟩, ?_⟩
  · exact ((Kept.refl No (W1.alloc _)).alloc _).heap (World.alloc_heap_new W1 _) id
  · have := World.alloc_heap_new (W1.alloc (Obj.cells #[Value.string s, Value.map (some w.heap.size), Value.slice (some { block := W1.heap.size + 1, off := 0 }) 4 4] 75)) (Obj.cells #[mth 23 W1.heap.size, mth 24 W1.heap.size, mth 25 W1.heap.size, mth 26 W1.heap.size] 50)
    have e : ∀ o, (W1.alloc o).heap.size = W1.heap.size + 1 := fun o => by simp
    rw [e] at this
    exact this
  · exact H1.out.1.no (((Kept.refl No W1).alloc _).alloc _)
  · exact (H1.out.2.alloc _).alloc _
end Go.Proofs.YtgkgpjbbmnfnmaaGreatDoor

/- What a token is; a source's tokens. -/
namespace Go.Proofs.YtgkgpjbbmnfnmaaGreatDoor
open Go.RowKit
set_option linter.unusedSimpArgs false
set_option linter.unusedVariables false

/-- A token at k. -/
def TkF (s : ByteArray) (k : Nat) (X : Tk) : Prop := ∃ n K vt vn sy, 0 < n ∧ k + n ≤ s.size ∧ 1 ≤ K ∧ K ≤ 5 ∧ X = ⟨K, s.extract k (k + n), vt, vn, sy, k, (k + n : Nat)⟩
theorem isLt_nm {c : UInt8} (h : isLt c = true) : isNm c = true := by unfold isNm; rw [h]; rfl
theorem isDg_nm {c : UInt8} (h : isDg c = true) : isNm c = true := by unfold isNm; rw [h]; simp
theorem name_pos (s : ByteArray) {k : Nat} (hk : k < s.size) (h : isLt s[k] = true) : 0 < nameL ((bl s).drop k) ∧ k + nameL ((bl s).drop k) ≤ s.size := by
  have hl := nameL_le ((bl s).drop k)
  rw [List.length_drop, bl_len] at hl
  refine ⟨?_, by omega⟩
  rw [bl_drop s hk, nameL, if_pos (isLt_nm h)]; omega
theorem numL_pos {c : UInt8} (h : isNm c = true) : ∀ l, 0 < numL (c :: l)
  | [] => by simp [numL, h]
  | d :: r => by rw [numL, if_pos h]; omega
theorem num_pos (s : ByteArray) {k : Nat} (hk : k < s.size) (h : isDg s[k] = true) : 0 < numL ((bl s).drop k) ∧ k + numL ((bl s).drop k) ≤ s.size := by
  have hl := numL_le ((bl s).drop k)
  rw [List.length_drop, bl_len] at hl
  refine ⟨?_, by omega⟩
  rw [bl_drop s hk]; exact numL_pos (isDg_nm h) _
theorem ask_ok (s : ByteArray) {k : Nat} (hk : k < s.size) (hs : s.size ≤ 8192) (p : Tk × Int) (hp : p ∈ asks s k hs) (h2 : p.2 = 0) (h1 : p.1.k ≠ 0) : TkF s k p.1 := by
  unfold asks at hp
  simp only [List.mem_cons, List.not_mem_nil, or_false] at hp
  rcases hp with rfl | rfl | rfl | rfl
  · dsimp only at h1 ⊢
    unfold nmT at h1 ⊢
    rw [bl_getD s hk] at h1 ⊢
    cases hl : isLt s[k] with
    | false => rw [hl] at h1; exact absurd rfl h1
    | true =>
      obtain ⟨a, b⟩ := name_pos s hk hl
      rw [if_pos rfl]
      refine ⟨_, nmK s k, _, _, _, a, b, ?_, ?_, rfl⟩
      · unfold nmK; split <;> decide
      · unfold nmK; split <;> decide
  · unfold nuX at h1 h2 ⊢
    rw [bl_getD s hk] at h1 h2 ⊢
    cases hl : isDg s[k] with
    | false => rw [hl] at h1; exact absurd rfl h1
    | true =>
      obtain ⟨a, b⟩ := num_pos s hk hl
      rw [hl, if_pos rfl] at h2
      dsimp only at h2
      rw [if_pos rfl]
      dsimp only
      rw [if_pos h2]
      exact ⟨_, 3, _, _, _, a, b, by decide, by decide, rfl⟩
  · unfold quX at h1 h2 ⊢
    by_cases hl : ((bl s).getD k 0).toNat = 34
    · rw [if_pos hl] at h1 h2 ⊢
      rcases qL_index ((bl s).drop (k + 1)) with ⟨q1, q2⟩ | ⟨n, q1, q2, q3⟩
      · rw [q1] at h1; exact absurd rfl h1
      · rw [List.length_drop, bl_len] at q3
        rw [q1] at h1 h2 ⊢
        dsimp only at h1 h2 ⊢
        cases hu : uq (s.extract k (k + n + 2)) with
        | none => rw [hu] at h1; exact absurd rfl h1
        | some u => exact ⟨n + 2, 4, _, _, _, by omega, by omega, by decide, by decide, rfl⟩
    · rw [if_neg hl] at h1; exact absurd rfl h1
  · dsimp only at h1 ⊢
    unfold sgX at h1 ⊢
    cases hg : sgF ((bl s).drop k) sgs with
    | none => rw [hg] at h1; exact absurd rfl h1
    | some g =>
      have hm := List.mem_of_find?_eq_some hg
      have hp := List.find?_some hg
      have := hp_len hp
      rw [List.length_drop, bl_len] at this
      exact ⟨g.length, 5, _, _, _, (sgs_le g hm).2, by have := (sgs_le g hm).2; omega, by decide, by decide, rfl⟩
theorem tk_ok (s : ByteArray) {k : Nat} (hk : k < s.size) (hs : s.size ≤ 8192) (h : (tkAt s k hs).2 = 0) : TkF s k (tkAt s k hs).1 := by
  unfold tkAt pick at h ⊢
  cases hf : (asks s k hs).find? hit with
  | none => rw [hf] at h; exact absurd h (by decide)
  | some p =>
    rw [hf] at h
    have hm := List.mem_of_find?_eq_some hf
    have hh := List.find?_some hf
    refine ask_ok s hk hs p hm h ?_
    unfold hit at hh
    have h' : p.2 = 0 := h
    rw [h'] at hh
    simpa using hh

/-- The tokens from k on, and the first error. -/
inductive Lx (s : ByteArray) (hs : s.size ≤ 8192) : Nat → Option (Nat × Int) → List Tk → Prop
  | done (k : Nat) : s.size ≤ k → Lx s hs k none []
  | bad (k : Nat) (x : Int) : k < s.size → (tkAt s k hs).2 = x → x ≠ 0 → Lx s hs k (some (k, x)) []
  | more (k E : Nat) (X : Tk) (e : Option (Nat × Int)) (L : List Tk) : k < s.size → (tkAt s k hs).2 = 0 → (tkAt s k hs).1 = X → X.e = (E : Int) → k < E → E ≤ s.size → Lx s hs (E + skipB false ((bl s).drop E)) e L → Lx s hs k e (X :: L)
theorem skipB_len : ∀ b l, skipB b l ≤ l.length
  | _, [] => by simp [skipB]
  | true, c :: r => by
    have h1 := skipB_len false r
    have h2 := skipB_len true r
    unfold skipB; split <;> simp <;> omega
  | false, c :: r => by
    have h1 := skipB_len false r
    have h2 := skipB_len true r
    unfold skipB; split
    · simp; omega
    · split <;> simp <;> omega
theorem skipB_le (s : ByteArray) {k : Nat} (hk : k ≤ s.size) : k + skipB false ((bl s).drop k) ≤ s.size := by
  have hl := skipB_len false ((bl s).drop k)
  rw [List.length_drop, bl_len] at hl
  omega
theorem Lx.all (s : ByteArray) (hs : s.size ≤ 8192) : ∀ n k, s.size - k ≤ n → ∃ e L, Lx s hs k e L := by
  intro n
  induction n with
  | zero => exact fun k hn => ⟨_, _, .done k (by omega)⟩
  | succ n ih =>
    intro k hn
    by_cases hk : k < s.size
    · by_cases hx : (tkAt s k hs).2 = 0
      · obtain ⟨m, K, vt, vn, sy, h1, h2, h3, h4, h5⟩ := tk_ok s hk hs hx
        obtain ⟨e, L, hL⟩ := ih (k + m + skipB false ((bl s).drop (k + m))) (by omega)
        exact ⟨e, _, .more k (k + m) _ e L hk hx h5 rfl (by omega) h2 hL⟩
      · exact ⟨_, _, .bad k _ hk rfl hx⟩
    · exact ⟨_, _, .done k (by omega)⟩
end Go.Proofs.YtgkgpjbbmnfnmaaGreatDoor

/- Lex. -/
namespace Go.Proofs.YtgkgpjbbmnfnmaaGreatDoor
open Go.RowKit
set_option linter.unusedSimpArgs false
set_option linter.unusedVariables false

/-- A token's cells. -/
def tc (x : Tk) : List Value := [.int .i64 x.k, .string x.t, .int .i64 x.vt, .int .i64 x.vn, .string x.sy, .int .i64 x.a, .int .i64 x.e]
def fl (L : List Tk) : List Value := L.flatMap tc
theorem fl_snoc (L : List Tk) (x : Tk) : fl (L ++ [x]) = fl L ++ tc x := by simp [fl]
/-- A row of tokens. -/
def TRow (w : World) (B : Nat) (v : Value) (L : List Tk) : Prop := w.ownsRow B 34 7 v L.length (fl L)
set_option maxRecDepth 20000 in
theorem info26 : (Tryz.prog.info? 34).map (fun i => (i.zero, i.size, i.bytes)) = some (some (.agg #[.int .i64 0, .string ⟨#[]⟩, .int .i64 0, .int .i64 0, .string ⟨#[]⟩, .int .i64 0, .int .i64 0]), 7, 72) := by kernel_rfl

set_option maxRecDepth 20000 in
set_option maxHeartbeats 2000000 in
theorem Lex_long (s : ByteArray) (w : World) (hs : ¬ s.size ≤ 8192) :
    Calls Tryz.prog 10 #[.string s] w fun r w' => r = .returned (.tuple #[.slice none 0 0, .int .i64 0, .int .i64 3]) ∧ Kept No w w' := by
  have q1 : (8192 : Int) < (s.size : Int) := by omega
  go_enter Tryz.func10, Tryz.ntmps10
  go_wp2
  refine bodyPost_ret (v := .tuple #[.slice none 0 0, .int .i64 0, .int .i64 3]) (by simp [results, Tryz.results10, go_sem]) rfl ⟨rfl, ?_⟩
  exact Kept.refl _ _

theorem TRow.no {w w' : World} {B : Nat} {v : Value} {L : List Tk} (h : TRow w B v L) (hk : Kept No w w') : TRow w' B v L := by
  obtain ⟨h1, h2 | ⟨g, cap, cur, h3, h4, h5, h6⟩⟩ := h
  · exact ⟨h1, .inl h2⟩
  · exact ⟨h1, .inr ⟨g, cap, cur, h3, h4, hk.heap h5 id, h6⟩⟩
theorem tc_cells {w : World} {b : Nat} {x : Tk} (h : w.heap[b]? = some (tb x)) (j : Nat) (u : Value) (hj : (tc x)[j]? = some u) : w.cell? ((⟨b, 0, none⟩ : Addr).add j) = some u := by
  rw [Addr.add_mid, cell_of h, ← hj]
  simp [tc]
theorem tc_one (x : Tk) : ∀ u ∈ tc x, u.oneCell' = true := by simp [tc, Value.oneCell']

/-- What Lex gives. -/
def LexR (w : World) (e : Option (Nat × Int)) (L : List Tk) (r : Ending) (w' : World) : Prop := match e with
  | none => ∃ v, r = .returned (.tuple #[v, .int .i64 0, .int .i64 0]) ∧ TRow w' w.heap.size v L
  | some (k, x) => r = .returned (.tuple #[.slice none 0 0, .int .i64 (k : Int), .int .i64 x])

set_option maxRecDepth 20000 in
set_option maxHeartbeats 4000000 in
theorem Lex_is (s : ByteArray) (w : World) (he : ErrIs w) (hg : SgIs w) (hs : s.size ≤ 8192) {e : Option (Nat × Int)} {L : List Tk} (hL : Lx s hs (skipB false (bl s)) e L) :
    Calls Tryz.prog 10 #[.string s] w fun r w' => LexR w e L r w' ∧ Kept No w w' := by
  have q1 : ¬ (8192 : Int) < (s.size : Int) := by omega
  obtain ⟨i0, hi, hz0, hz1, hz2⟩ := info_parts info26
  have HI : Hid (Tryz.prog.info? 34 = some i0 ∧ _ ∧ _ ∧ _) := ⟨hi, hz0, hz1, hz2⟩
  have HL : Hid (Lx s hs (skipB false (bl s)) e L) := hL
  have HE : Hid (ErrIs w ∧ SgIs w) := ⟨he, hg⟩
  clear hL he hg hi hz0 hz1 hz2
  go_enter Tryz.func10, Tryz.ntmps10
  go_wp2_with fail
  refine Calls.mono (newCutter_any s w) ?_
  rintro e' C1 ⟨c, rfl, h1, k1⟩
  have H1 : Hid (Cu C1 c s ∧ Kept No w C1 ∧ ErrIs C1 ∧ SgIs C1) := ⟨h1, k1, HE.out.1.no k1, HE.out.2.no k1⟩
  have HB : Hid (w.heap.size ≤ C1.heap.size) := k1.size
  clear h1 k1 HE
  go_wp2_with fail
  refine Calls.mono (passOver_any s 0 (by omega) (by omega) _) ?_
  rintro e' W2 ⟨rfl, rfl⟩
  go_wp2_with fail
  have hk0 : skipB false (bl s) ≤ s.size := by have := skipB_le s (Nat.zero_le s.size); simpa using this
  have hk1 : (0 : Nat) ≤ skipB false (bl s) := Nat.zero_le _
  generalize skipB false (bl s) = k0 at HL hk0 hk1 ⊢
  go_loopw [6, 7] (fun v i wr => ∃ (k : Nat) (D T : List Tk), k ≤ s.size ∧ i = .int .i64 k ∧ D.length ≤ k ∧ Hid (Lx s hs k e T ∧ L = D ++ T) ∧ Hid (TRow wr C1.heap.size v D) ∧ Hid (Kept No C1 wr)) (fun _ i _ => s.size - (intOf i).toNat)
  case atStart => exact ⟨k0, [], L, hk0, rfl, by simp, ⟨HL.out, rfl⟩, World.ownsRow_nil _ _ _ _, Kept.refl _ _⟩
  case round =>
    clear HL hk0 hk1
    obtain ⟨k, D, T, hk, rfl, hD, HT, HR, HK⟩ := hrel
    by_cases hlt : k < s.size
    · have dlt : decide ((k : Int) < (s.size : Int)) = true := decide_eq_true (by omega)
      have HTo : Hid _ := token_any (H1.out.1.no HK.out) (H1.out.2.2.1.no HK.out) (H1.out.2.2.2.no HK.out) k hlt hs
      generalize hp : tkAt s k hs = p at HTo
      obtain ⟨⟨pk, pt, pvt, pvn, psy, pa, pe⟩, x⟩ := p
      by_cases hx : x = 0
      · subst hx
        obtain ⟨E, T', hkE, hEs, HX⟩ : ∃ (E : Nat) (T' : List Tk), k < E ∧ E ≤ s.size ∧ Hid (pe = (E : Int) ∧ T = ⟨pk, pt, pvt, pvn, psy, pa, pe⟩ :: T' ∧ Lx s hs (E + skipB false ((bl s).drop E)) e T') := by
          have h0 := HT.out.1
          cases h0 with
          | done _ h => omega
          | bad _ x h1 h2 h3 => rw [hp] at h2; exact absurd h2.symm h3
          | more _ E X e L' h1 h2 h3 h4 h5 h6 h7 =>
            rw [hp] at h3
            dsimp only at h3
            subst h3
            exact ⟨E, L', h5, h6, h4, rfl, h7⟩
        obtain rfl : pe = (E : Int) := HX.out.1
        have HTT : Hid (L = (D ++ [⟨pk, pt, pvt, pvn, psy, pa, E⟩]) ++ T') := by show _ = _; rw [HT.out.2, HX.out.2.1]; simp
        have HX2 : Hid (Lx s hs (E + skipB false ((bl s).drop E)) e T') := HX.out.2.2
        have hsk := skipB_le s hEs
        clear HT HX hp
        go_wp2_with fail
        refine Calls.mono HTo.out ?_
        rintro e' W1 ⟨rfl, hk1⟩
        have HK1 : Hid (Kept No C1 W1 ∧ TRow W1 C1.heap.size u6 D) := ⟨HK.out.trans hk1, HR.out.no hk1⟩
        clear HTo hk1 HR HK
        unfold tv
        dsimp only
        go_wp2_with (at_builtin; refine wpList_append_own _ rfl _ _ 28 rfl C1.heap.size 34 i0 (.agg #[.int .i64 0, .string ⟨#[]⟩, .int .i64 0, .int .i64 0, .string ⟨#[]⟩, .int .i64 0, .int .i64 0]) 7 72 Tryz.underlying28 HI.out.1 HI.out.2.1 HI.out.2.2.1 HI.out.2.2.2 rfl (by decide) u6 D.length (fl D) rfl (HK1.out.2.no (((Kept.refl No W1).alloc _).alloc _)) ⟨W1.heap.size + 1, 0, none⟩ 1 1 (tc ⟨pk, pt, pvt, pvn, psy, pa, E⟩) rfl ?qc1 ?qc2 ?qc3 ?qc4 ?qc5 ?qc6 ?_)
        case qc1 => rfl
        case qc2 =>
          have e1 : ∀ o, (W1.alloc o).heap.size = W1.heap.size + 1 := fun o => by simp
          have := World.alloc_heap_new (W1.alloc (tb ⟨pk, pt, pvt, pvn, psy, pa, E⟩)) (tb ⟨pk, pt, pvt, pvn, psy, pa, E⟩)
          rw [e1] at this
          exact tc_cells this
        case qc3 => exact tc_one _
        case qc4 => unfold maxLen; omega
        case qc5 => omega
        case qc6 => have := HK1.out.1.size; simp; omega
        intro v' W3 hown hgrow hnil
        obtain ⟨W2, HW2⟩ : ∃ W2, Hid ((W1.alloc (tb ⟨pk, pt, pvt, pvn, psy, pa, E⟩)).alloc (tb ⟨pk, pt, pvt, pvn, psy, pa, E⟩) = W2) := ⟨_, show _ = _ from rfl⟩
        have hk2 : Kept No W1 W2 := by rw [← HW2.out]; exact ((Kept.refl No W1).alloc _).alloc _
        have ht2 : W2.heap[W1.heap.size]? = some (tb ⟨pk, pt, pvt, pvn, psy, pa, E⟩) := by rw [← HW2.out]; exact ((Kept.refl No (W1.alloc _)).alloc _).heap (World.alloc_heap_new W1 _) id
        have hg2 : W2.grownBy W3 u6.ownBlock := by rw [← HW2.out]; exact hgrow
        have hlt2 := fun k e => World.ownsRow.lt HK1.out.2 k e
        have hk3 : Kept (fun b => u6.ownBlock = some b) W2 W3 := (Kept.refl _ W2).grown hg2 (fun k e => .inl e)
        have ht3 : W3.heap[W1.heap.size]? = some (tb ⟨pk, pt, pvt, pvn, psy, pa, E⟩) := hk3.heap ht2 (fun e => by have := (hlt2 _ e).2; omega)
        have HK3 : Hid (Kept No C1 W3 ∧ TRow W3 C1.heap.size v' (D ++ [⟨pk, pt, pvt, pvn, psy, pa, E⟩])) := by
          refine ⟨(HK1.out.1.trans hk2).grown hg2 (fun k e => .inr (hlt2 k e).1), ?_⟩
          unfold TRow
          rw [fl_snoc, List.length_append]
          exact hown
        have t9 := (tb_cells ht3).2.2.2.2.2.2
        dsimp only at t9
        clear hown hgrow hnil HW2 hk2 ht2 hg2 hlt2 hk3 ht3 HK1
        go_wp2_with fail
        refine Calls.mono (passOver_any s E hEs (by omega) _) ?_
        rintro e' W4 ⟨rfl, rfl⟩
        go_wp2_with fail
        go_roundw
        case rel => exact ⟨E + skipB false ((bl s).drop E), D ++ [(⟨pk, pt, pvt, pvn, psy, pa, E⟩ : Tk)], T', hsk, rfl, by simp; omega, ⟨HX2.out, HTT.out⟩, HK3.out.2, HK3.out.1⟩
        case measure => simp [intOf] <;> omega
      · have HX : Hid (e = some (k, x)) := by
          have h0 := HT.out.1
          cases h0 with
          | done _ h => omega
          | bad _ x h1 h2 h3 => rw [hp] at h2; dsimp only at h2; show _ = _; rw [h2]
          | more _ E X e L' h1 h2 h3 h4 h5 h6 h7 => rw [hp] at h2; exact absurd h2 hx
        have bx : (x == 0) = false := by simp [hx]
        clear hp HT hx
        go_wp2_with fail
        refine Calls.mono HTo.out ?_
        rintro e' W1 ⟨rfl, hk1⟩
        have HK1 : Hid (Kept No w W1) := (H1.out.2.1.trans HK.out).trans hk1
        clear HTo hk1 HR HK
        unfold tv
        dsimp only
        go_wp2_with fail
        refine bodyPost_ret (v := .tuple #[.slice none 0 0, .int .i64 (k : Int), .int .i64 x]) (by simp [results, Tryz.results10, go_sem]) rfl ⟨by rw [HX.out]; exact rfl, ?_⟩
        exact HK1.out.alloc _
    · have hkk : k = s.size := by omega
      have dlt : decide ((k : Int) < (s.size : Int)) = false := decide_eq_false (by omega)
      have HX : Hid (e = none ∧ L = D) := by
        obtain ⟨h0, h1⟩ := HT.out
        cases h0 with
        | done _ h => exact ⟨rfl, by rw [h1]; simp⟩
        | bad _ x h1 h2 h3 => omega
        | more _ E X e L' h1 h2 h3 h4 h5 h6 h7 => omega
      have HRF : Hid (TRow wr w.heap.size u6 L) := by
        show TRow _ _ _ _
        rw [HX.out.2]
        obtain ⟨r1, r2 | ⟨g, cap, cur, r3, r4, r5⟩⟩ := HR.out
        · exact ⟨r1, .inl r2⟩
        · exact ⟨r1, .inr ⟨g, cap, cur, r3, Nat.le_trans HB.out r4, r5⟩⟩
      clear HT HR
      go_wp2_with fail
      refine bodyPost_ret (v := .tuple #[u6, .int .i64 0, .int .i64 0]) (by simp [results, Tryz.results10, go_sem]) rfl ⟨by rw [HX.out.1]; exact ⟨u6, rfl, HRF.out⟩, ?_⟩
      exact H1.out.2.1.trans HK.out
end Go.Proofs.YtgkgpjbbmnfnmaaGreatDoor

/- Tokens by their forms; the chapter's examples. -/
namespace Go.Proofs.YtgkgpjbbmnfnmaaGreatDoor
open Go.RowKit
set_option linter.unusedSimpArgs false
set_option linter.unusedVariables false

theorem nmK_ne (s : ByteArray) (k : Nat) : nmK s k ≠ 0 := by unfold nmK; split <;> decide
theorem tk_name {s : ByteArray} {k : Nat} (hk : k < s.size) (hs : s.size ≤ 8192) (h : isLt s[k] = true) : tkAt s k hs = (nmT s k, 0) := by
  have hh : hit (nmT s k, 0) = true := by
    unfold nmT hit
    rw [bl_getD s hk, h, if_pos rfl]
    have := nmK_ne s k
    simp [this]
  unfold tkAt pick asks
  rw [List.find?_cons, hh]
theorem nm_not {s : ByteArray} {k : Nat} (hk : k < s.size) (h : isLt s[k] = false) : hit (nmT s k, 0) = false := by
  unfold nmT hit
  rw [bl_getD s hk, h]
  rfl
theorem tk_num {s : ByteArray} {k : Nat} (hk : k < s.size) (hs : s.size ≤ 8192) (h1 : isLt s[k] = false) (h2 : isDg s[k] = true) : tkAt s k hs = nuX s k hs ∨ (nuX s k hs).2 = 0 ∧ (nuX s k hs).1.k = 0 := by
  cases hh : hit (nuX s k hs) with
  | true =>
    left
    unfold tkAt pick asks
    rw [List.find?_cons, nm_not hk h1, List.find?_cons, hh]
  | false =>
    right
    unfold hit at hh
    simpa using hh
theorem nu_not {s : ByteArray} {k : Nat} (hk : k < s.size) (hs : s.size ≤ 8192) (h : isDg s[k] = false) : hit (nuX s k hs) = false := by
  unfold nuX hit
  rw [bl_getD s hk, h]
  rfl
theorem tk_quote {s : ByteArray} {k : Nat} (hk : k < s.size) (hs : s.size ≤ 8192) (h1 : isLt s[k] = false) (h2 : isDg s[k] = false) (h3 : s[k].toNat = 34) : tkAt s k hs = quX s k := by
  have hh : hit (quX s k) = true := by
    unfold quX hit
    rw [bl_getD s hk, if_pos h3]
    rcases qL_index ((bl s).drop (k + 1)) with ⟨q1, q2⟩ | ⟨n, q1, q2, q3⟩
    · rw [q1]; rfl
    · rw [q1]
      dsimp only
      cases uq (s.extract k (k + n + 2)) <;> rfl
  unfold tkAt pick asks
  rw [List.find?_cons, nm_not hk h1, List.find?_cons, nu_not hk hs h2, List.find?_cons, hh]
theorem tk_sign {s : ByteArray} {k : Nat} (hk : k < s.size) (hs : s.size ≤ 8192) (h1 : isLt s[k] = false) (h2 : isDg s[k] = false) (h3 : ¬ s[k].toNat = 34) :
    tkAt s k hs = match sgF ((bl s).drop k) sgs with | some g => (⟨5, s.extract k (k + g.length), 0, 0, ⟨#[]⟩, k, (k + g.length : Nat)⟩, 0) | none => (t0, 15) := by
  have hq : hit (quX s k) = false := by
    unfold quX hit
    rw [bl_getD s hk, if_neg h3]; rfl
  unfold tkAt pick asks
  rw [List.find?_cons, nm_not hk h1, List.find?_cons, nu_not hk hs h2, List.find?_cons, hq]
  unfold sgX
  cases sgF ((bl s).drop k) sgs <;> rfl

def s1 : ByteArray := ⟨#[97, 61, 49, 46, 46, 50]⟩
def s2 : ByteArray := ⟨#[120, 45, 45, 121]⟩
def s3 : ByteArray := ⟨#[97, 32, 36]⟩
def s4 : ByteArray := ⟨#[34, 97]⟩
theorem hs1 : s1.size ≤ 8192 := by decide
theorem hs2 : s2.size ≤ 8192 := by decide
theorem hs3 : s3.size ≤ 8192 := by decide
theorem hs4 : s4.size ≤ 8192 := by decide
theorem lx_more {s : ByteArray} {hs : s.size ≤ 8192} {k E k' : Nat} {X : Tk} {e : Option (Nat × Int)} {L : List Tk} (hk : k < s.size) (ht : tkAt s k hs = (X, 0)) (hE : X.e = (E : Int)) (h5 : k < E) (h6 : E ≤ s.size) (hk' : E + skipB false ((bl s).drop E) = k') (hL : Lx s hs k' e L) : Lx s hs k e (X :: L) :=
  .more k E X e L hk (by rw [ht]) (by rw [ht]) hE h5 h6 (by rw [hk']; exact hL)
end Go.Proofs.YtgkgpjbbmnfnmaaGreatDoor
