/- A text in quotes. -/
import Derived.Test.YtidokamfppdnaaaGreatDoorC6
namespace Go.Proofs.YtidokamfppdnaaaGreatDoor
open Go.RowKit
set_option linter.unusedSimpArgs false
set_option linter.unusedVariables false

/-- Where the next quote stands. -/
def qL : List UInt8 → Option Nat
  | [] => none
  | c :: r => if c.toNat = 34 then some 0 else (qL r).map (· + 1)
theorem qL_index : ∀ l, (qL l = none ∧ Lib.indexByte l 34 = -1) ∨ ∃ n : Nat, qL l = some n ∧ Lib.indexByte l 34 = (n : Int) ∧ n < l.length
  | [] => .inl ⟨rfl, rfl⟩
  | c :: r => by
    unfold Lib.indexByte qL
    by_cases h : c = 34
    · subst h
      exact .inr ⟨0, rfl, rfl, by simp⟩
    · have h' : ¬ c.toNat = 34 := fun e => h (UInt8.toNat_inj.1 (by rw [e]; rfl))
      rcases qL_index r with ⟨h1, h2⟩ | ⟨n, h1, h2, h3⟩
      · left
        simp [h, h', h1, h2]
      · right
        refine ⟨n + 1, by simp [h', h1], ?_, by simp; omega⟩
        have : ¬ (n : Int) = -1 := by omega
        simp [h, h2, this]
/-- What Unquote makes of a text. -/
def uq (t : ByteArray) : Option ByteArray := if Tx.unquoteB t then (Tx.unqL (Tx.bl (t.extract 1 (t.size - 1)))).map Tx.str else none
theorem uq_some {t u : ByteArray} (h : uq t = some u) : Tx.unquoteT t = .tuple #[.string u, .int .i64 0] := by
  unfold uq at h
  unfold Tx.unquoteT
  split at h
  · rename_i hb
    rw [if_pos hb]
    cases hu : Tx.unqL (Tx.bl (t.extract 1 (t.size - 1))) with
    | none => rw [hu] at h; cases h
    | some l => rw [hu] at h; simp at h; simp [h]
  · cases h
theorem uq_none {t : ByteArray} (h : uq t = none) : Tx.unquoteT t = .tuple #[.string ⟨#[]⟩, .int .i64 6] := by
  unfold uq at h
  unfold Tx.unquoteT
  split at h
  · rename_i hb
    rw [if_pos hb]
    cases hu : Tx.unqL (Tx.bl (t.extract 1 (t.size - 1))) with
    | none => rfl
    | some l => rw [hu] at h; cases h
  · rename_i hb
    rw [if_neg hb]

set_option maxRecDepth 20000 in
set_option maxHeartbeats 2000000 in
theorem quoted_not {w : World} {c : Nat} {s : ByteArray} (h : Cu w c s) (k : Nat) (hk : k < s.size) (hs : s.size ≤ 8192) (hl : ¬ s[k].toNat = 34) :
    Calls Tryz.prog 18 #[.pointer (some ⟨c, 0, none⟩), .int .i64 (k : Int)] w fun r w' => r = .returned (.tuple #[tv t0, .int .i64 0]) ∧ Kept No w w' := by
  have c1 : ∀ o, (w.alloc o).cell? ⟨c, 0, none⟩ = some (.string s) := fun o => (h.no ((Kept.refl No w).alloc o)).src
  have b34 : ((s[k].toNat : Int) == 34) = false := by rw [beq_eq_false_iff_ne]; omega
  clear h hl
  go_enter Tryz.func18, Tryz.ntmps18
  go_wp2_with fail
  refine bodyPost_ret (v := .tuple #[tv t0, .int .i64 0]) (by simp [results, Tryz.results18, go_sem, tv, t0]) rfl ⟨rfl, ?_⟩
  exact (Kept.refl No w).alloc _

set_option maxRecDepth 20000 in
set_option maxHeartbeats 2000000 in
theorem quoted_open {w : World} {c : Nat} {s : ByteArray} (h : Cu w c s) (k : Nat) (hk : k < s.size) (hs : s.size ≤ 8192) (hl : s[k].toNat = 34) (hq : Lib.indexByte ((bl s).drop (k + 1)) 34 = -1) :
    Calls Tryz.prog 18 #[.pointer (some ⟨c, 0, none⟩), .int .i64 (k : Int)] w fun r w' => r = .returned (.tuple #[tv t0, .int .i64 16]) ∧ Kept No w w' := by
  obtain ⟨W, HW⟩ : ∃ W, Hid (W = w.alloc (.cells #[.int .i64 0, .string ⟨#[]⟩, .int .i64 0, .int .i64 0, .string ⟨#[]⟩, .int .i64 0, .int .i64 0] 38)) := ⟨_, show _ = _ from rfl⟩
  have HC : Hid (Cu W c s) := by show Cu _ _ _; rw [HW.out]; exact h.no ((Kept.refl No w).alloc _)
  have HK : Hid (Kept No w W) := by show Kept _ _ _; rw [HW.out]; exact (Kept.refl No w).alloc _
  have HR0 : Hid (W.heap[w.heap.size]? = some (tb t0)) := by show _ = _; rw [HW.out]; exact World.alloc_heap_new w _
  have HI : Hid (∀ w, Calls Tryz.prog 35 #[.string (s.extract (k + 1) s.size), .int .u8 34] w fun e w' => e = .returned (.int .i64 (Lib.indexByte ((bl s).drop (k + 1)) 34)) ∧ w = w') := fun w => by
    have := Tryz.strings_IndexByte (s.extract (k + 1) s.size) 34 w
    refine this.mono ?_
    rintro e w' ⟨he, hw⟩
    refine ⟨?_, hw.symm⟩
    rw [he, ← bl_from]; rfl
  have c1 : ∀ o, (w.alloc o).cell? ⟨c, 0, none⟩ = some (.string s) := fun o => (h.no ((Kept.refl No w).alloc o)).src
  have c0 := HC.out.src
  have q1 : (k : Int) + 1 ≤ (s.size : Int) := by omega
  have u1 : IntKind.i64.wrap ((k : Int) + 1) = (k : Int) + 1 := by rw [IntKind.wrap_i64]; omega
  have b34 : ((s[k].toNat : Int) == 34) = true := by rw [hl]; rfl
  rw [hq] at HI
  clear h hl hq c0 HW HC HK HR0
  go_enter Tryz.func18, Tryz.ntmps18
  go_wp2_with (go_at_call 35; refine Calls.mono (HI.out _) ?_; rintro e w' ⟨rfl, rfl⟩)
  refine bodyPost_ret (v := .tuple #[tv t0, .int .i64 16]) (by simp [results, Tryz.results18, go_sem, tv, t0]) rfl ⟨rfl, ?_⟩
  exact (Kept.refl No w).alloc _

set_option maxRecDepth 20000 in
set_option maxHeartbeats 4000000 in
theorem quoted_is {w : World} {c : Nat} {s : ByteArray} (h : Cu w c s) (k : Nat) (hk : k < s.size) (hs : s.size ≤ 8192) (hl : s[k].toNat = 34) (n : Nat) (hq : Lib.indexByte ((bl s).drop (k + 1)) 34 = (n : Int)) (hn : k + n + 2 ≤ s.size)
    (X : Tk) (x : Int) (hX : (X, x) = match uq (s.extract k (k + n + 2)) with | some u => (⟨4, s.extract k (k + n + 2), 0, 0, u, k, (k + n + 2 : Nat)⟩, 0) | none => (t0, 16)) :
    Calls Tryz.prog 18 #[.pointer (some ⟨c, 0, none⟩), .int .i64 (k : Int)] w fun r w' => r = .returned (.tuple #[tv X, .int .i64 x]) ∧ Kept No w w' := by
  obtain ⟨W, HW⟩ : ∃ W, Hid (W = w.alloc (.cells #[.int .i64 0, .string ⟨#[]⟩, .int .i64 0, .int .i64 0, .string ⟨#[]⟩, .int .i64 0, .int .i64 0] 38)) := ⟨_, show _ = _ from rfl⟩
  have HC : Hid (Cu W c s) := by show Cu _ _ _; rw [HW.out]; exact h.no ((Kept.refl No w).alloc _)
  have HK : Hid (Kept No w W) := by show Kept _ _ _; rw [HW.out]; exact (Kept.refl No w).alloc _
  have HR0 : Hid (W.heap[w.heap.size]? = some (tb t0)) := by show _ = _; rw [HW.out]; exact World.alloc_heap_new w _
  have HI : Hid (∀ w, Calls Tryz.prog 35 #[.string (s.extract (k + 1) s.size), .int .u8 34] w fun e w' => e = .returned (.int .i64 (Lib.indexByte ((bl s).drop (k + 1)) 34)) ∧ w = w') := fun w => by
    have := Tryz.strings_IndexByte (s.extract (k + 1) s.size) 34 w
    refine this.mono ?_
    rintro e w' ⟨he, hw⟩
    refine ⟨?_, hw.symm⟩
    rw [he, ← bl_from]; rfl
  have c1 : ∀ o, (w.alloc o).cell? ⟨c, 0, none⟩ = some (.string s) := fun o => (h.no ((Kept.refl No w).alloc o)).src
  have c0 := HC.out.src
  have q1 : (k : Int) + 1 ≤ (s.size : Int) := by omega
  have u1 : IntKind.i64.wrap ((k : Int) + 1) = (k : Int) + 1 := by rw [IntKind.wrap_i64]; omega
  have b34 : ((s[k].toNat : Int) == 34) = true := by rw [hl]; rfl
  rw [hq] at HI
  have u2 : IntKind.i64.wrap ((k : Int) + (n : Int)) = (k : Int) + (n : Int) := by rw [IntKind.wrap_i64]; omega
  have u3 : IntKind.i64.wrap ((k : Int) + (n : Int) + 2) = (k : Int) + (n : Int) + 2 := by rw [IntKind.wrap_i64]; omega
  have h1 : ¬ (n : Int) < 0 := by omega
  obtain ⟨E, HE⟩ : ∃ E, Hid (k + n + 2 = E) := ⟨_, show _ = _ from rfl⟩
  have HEi : Hid ((k : Int) + (n : Int) + 2 = (E : Int)) := by show _ = _; rw [← HE.out]; omega
  rw [HE.out] at hX hn
  have hkE : k ≤ E := by rw [← HE.out]; omega
  have HX : Hid ((X, x) = _) := hX
  clear hX h hl hq HE
  obtain ⟨R, HRR⟩ : ∃ R, Hid (w.heap.size = R) := ⟨_, show _ = _ from rfl⟩
  rw [HRR.out] at HR0
  go_enter Tryz.func18, Tryz.ntmps18
  go_wp2_with fail
  refine Calls.mono (HI.out _) ?_
  rintro e w' ⟨rfl, rfl⟩
  rw [← HW.out]
  clear c1
  go_wp2_with fail
  rw [HEi.out]
  refine (cut_any HC.out 4 k E hkE (by omega) (by omega)).mono ?_
  rintro e W1 ⟨rfl, hk1⟩
  have H1 : Hid (Kept No w W1 ∧ W1.heap[R]? = some (tb t0)) := ⟨HK.out.trans hk1, hk1.heap HR0.out id⟩
  clear hk1 c0
  obtain ⟨W2, HW2⟩ : ∃ W2, Hid (W1.alloc (tb ⟨4, s.extract k E, 0, 0, ⟨#[]⟩, k, E⟩) = W2) := ⟨_, show _ = _ from rfl⟩
  have HT : Hid (W2.heap[W1.heap.size]? = some (tb ⟨4, s.extract k E, 0, 0, ⟨#[]⟩, k, E⟩)) := by show _ = _; rw [← HW2.out]; exact World.alloc_heap_new W1 _
  have HK2 : Hid (Kept No W1 W2) := by show Kept _ _ _; rw [← HW2.out]; exact (Kept.refl No W1).alloc _
  unfold tb at HW2
  dsimp only at HW2
  unfold tv
  dsimp only
  go_wp2_with fail
  rw [HW2.out]
  clear HW2
  obtain ⟨T, HTT⟩ : ∃ T, Hid (W1.heap.size = T) := ⟨_, show _ = _ from rfl⟩
  rw [HTT.out] at HT ⊢
  rw [HRR.out]
  have HF : Hid (Kept No w W2 ∧ W2.heap[R]? = some (tb t0) ∧ R < T ∧ T < W2.heap.size ∧ w.heap.size ≤ R) := ⟨H1.out.1.trans HK2.out, HK2.out.heap H1.out.2 id, by rw [← HTT.out]; exact hp_lt H1.out.2, hp_lt HT.out, by rw [HRR.out]; exact Nat.le_refl _⟩
  clear H1 HK2 HTT
  refine (Tx.Unquote_any (s.extract k E) _ (by rw [ByteArray.size_extract]; omega)).mono ?_
  cases hu : uq (s.extract k E) with
  | none =>
    have HXX : Hid (X = t0 ∧ x = 16) := by
      have := HX.out
      rw [hu] at this
      injection this with a b
      exact ⟨a, b⟩
    rw [uq_none hu]
    clear hu HX
    rintro e W3 ⟨rfl, hb3⟩
    have hSS : Kept No W2 W3 := Kept.of_below hb3
    obtain ⟨t3, t4, t5, t6, t7, t8, t9⟩ := tb_cells (hSS.heap HT.out id)
    obtain ⟨r3, r4, r5, r6, r7, r8, r9⟩ := tb_cells (hSS.heap HF.out.2.1 id)
    have t1' := fun o => tb_frozen (hSS.heap HT.out id) o
    have t2' := fun o => tb_frozen (hSS.heap HF.out.2.1 id) o
    dsimp only [t0] at t3 t4 t5 t6 t7 t8 t9 r3 r4 r5 r6 r7 r8 r9
    have nRT : R ≠ T := by have := HF.out.2.2.1; omega
    have nTR : T ≠ R := by have := HF.out.2.2.1; omega
    have HKf : Hid (Kept No w W3 ∧ w.heap.size ≤ R ∧ w.heap.size ≤ T) := ⟨HF.out.1.trans hSS, HF.out.2.2.2.2, by have := HF.out.2.2; omega⟩
    clear hSS hb3 HT HF HI HC HK HR0
    go_wp2_with fail
    refine bodyPost_ret (v := .tuple #[tv t0, .int .i64 16]) (by simp [results, Tryz.results18, go_sem, tv, t0, t3, t4, t5, t6, t7, t8, t9, r3, r4, r5, r6, r7, r8, r9, nRT, nTR]) rfl ⟨by rw [HXX.out.1, HXX.out.2], ?_⟩
    exact HKf.out.1.set _ _ _ (Or.inr HKf.out.2.1)|>.set _ _ _ (Or.inr HKf.out.2.1)|>.set _ _ _ (Or.inr HKf.out.2.1)|>.set _ _ _ (Or.inr HKf.out.2.1)|>.set _ _ _ (Or.inr HKf.out.2.1)|>.set _ _ _ (Or.inr HKf.out.2.1)|>.set _ _ _ (Or.inr HKf.out.2.1)
  | some u =>
    have HXX : Hid (X = ⟨4, s.extract k E, 0, 0, u, k, E⟩ ∧ x = 0) := by
      have := HX.out
      rw [hu] at this
      injection this with a b
      exact ⟨a, b⟩
    rw [uq_some hu]
    clear hu HX
    rintro e W3 ⟨rfl, hb3⟩
    have hSS : Kept No W2 W3 := Kept.of_below hb3
    obtain ⟨t3, t4, t5, t6, t7, t8, t9⟩ := tb_cells (hSS.heap HT.out id)
    obtain ⟨r3, r4, r5, r6, r7, r8, r9⟩ := tb_cells (hSS.heap HF.out.2.1 id)
    have t1' := fun o => tb_frozen (hSS.heap HT.out id) o
    have t2' := fun o => tb_frozen (hSS.heap HF.out.2.1 id) o
    dsimp only [t0] at t3 t4 t5 t6 t7 t8 t9 r3 r4 r5 r6 r7 r8 r9
    have nRT : R ≠ T := by have := HF.out.2.2.1; omega
    have nTR : T ≠ R := by have := HF.out.2.2.1; omega
    have HKf : Hid (Kept No w W3 ∧ w.heap.size ≤ R ∧ w.heap.size ≤ T) := ⟨HF.out.1.trans hSS, HF.out.2.2.2.2, by have := HF.out.2.2; omega⟩
    clear hSS hb3 HT HF HI HC HK HR0
    go_wp2_with fail
    refine bodyPost_ret (v := .tuple #[tv ⟨4, s.extract k E, 0, 0, u, k, E⟩, .int .i64 0]) (by simp [results, Tryz.results18, go_sem, tv, t0, t3, t4, t5, t6, t7, t8, t9, r3, r4, r5, r6, r7, r8, r9, nRT, nTR]) rfl ⟨by rw [HXX.out.1, HXX.out.2], ?_⟩
    exact HKf.out.1.set _ _ _ (Or.inr HKf.out.2.2)|>.set _ _ _ (Or.inr HKf.out.2.1)|>.set _ _ _ (Or.inr HKf.out.2.1)|>.set _ _ _ (Or.inr HKf.out.2.1)|>.set _ _ _ (Or.inr HKf.out.2.1)|>.set _ _ _ (Or.inr HKf.out.2.1)|>.set _ _ _ (Or.inr HKf.out.2.1)|>.set _ _ _ (Or.inr HKf.out.2.1)

/-- What quoted tells. -/
def quX (s : ByteArray) (k : Nat) : Tk × Int :=
  if ((bl s).getD k 0).toNat = 34 then
    match qL ((bl s).drop (k + 1)) with
    | none => (t0, 16)
    | some n => match uq (s.extract k (k + n + 2)) with
      | some u => (⟨4, s.extract k (k + n + 2), 0, 0, u, k, (k + n + 2 : Nat)⟩, 0)
      | none => (t0, 16)
  else (t0, 0)
theorem quoted_any {w : World} {c : Nat} {s : ByteArray} (h : Cu w c s) (k : Nat) (hk : k < s.size) (hs : s.size ≤ 8192) :
    Calls Tryz.prog 18 #[.pointer (some ⟨c, 0, none⟩), .int .i64 (k : Int)] w fun r w' => r = .returned (.tuple #[tv (quX s k).1, .int .i64 (quX s k).2]) ∧ Kept No w w' := by
  unfold quX
  rw [bl_getD s hk]
  by_cases hl : s[k].toNat = 34
  · rw [if_pos hl]
    rcases qL_index ((bl s).drop (k + 1)) with ⟨h1, h2⟩ | ⟨n, h1, h2, h3⟩
    · rw [h1]
      exact quoted_open h k hk hs hl h2
    · rw [List.length_drop, bl_len] at h3
      rw [h1]
      exact quoted_is h k hk hs hl n h2 (by omega) _ _ rfl
  · rw [if_neg hl]
    exact quoted_not h k hk hs hl
end Go.Proofs.YtidokamfppdnaaaGreatDoor
