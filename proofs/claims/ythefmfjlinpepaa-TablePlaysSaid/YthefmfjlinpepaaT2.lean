/- Values compared; keys told; slots set; a store resized. -/
import Derived.Test.YthefmfjlinpepaaT1
namespace Go.Proofs.Ythefmfjlinpepaa
open Go.RowKit
set_option linter.unusedSimpArgs false
set_option linter.unusedVariables false

theorem guard33 : Try.prog.eqGuardType Try.prog.depth 33 = false := by kernel_rfl
theorem stood33 : Try.prog.stoodInHeld 33 = false := by kernel_rfl
theorem fields33 : Try.prog.underlying 33 = some (.struct (Try.prog.fieldsOf 33)) := by kernel_rfl

theorem eqFields_ints {d : Nat} {xs ys : Array Value} {X Y : Nat → Int} : ∀ (fs : List Field), (∀ f ∈ fs, f.name ≠ "_") → (∀ f ∈ fs, ∀ w, (part f.type xs f.offset).run Try.prog w = .ok (.int .i64 (X f.offset)) w) →
    (∀ f ∈ fs, ∀ w, (part f.type ys f.offset).run Try.prog w = .ok (.int .i64 (Y f.offset)) w) → (∀ f ∈ fs, ∀ (x y : Int) (w : World), (Op.equalIn d f.type (.int .i64 x) (.int .i64 y)).run Try.prog w = .ok (x == y) w) →
    ∀ w, (Op.eqFields d xs ys fs).run Try.prog w = .ok ((fs.map (·.offset)).all fun k => X k == Y k) w := by
  intro fs
  induction fs with
  | nil => intro _ _ _ _ w; simp [Op.eqFields]
  | cons f fs ih =>
    intro hn hx hy hq w
    have ih' := ih (fun g hg => hn g (List.mem_cons_of_mem _ hg)) (fun g hg => hx g (List.mem_cons_of_mem _ hg)) (fun g hg => hy g (List.mem_cons_of_mem _ hg)) (fun g hg => hq g (List.mem_cons_of_mem _ hg))
    have h1 := hx f List.mem_cons_self
    have h2 := hy f List.mem_cons_self
    have h3 := hq f List.mem_cons_self
    simp only [Op.eqFields, hn f List.mem_cons_self, ne_eq, not_false_eq_true, if_true, Sem.run_bind, h1, h2, h3, Result.andThen_ok, List.map_cons, List.all_cons]
    cases X f.offset == Y f.offset
    · simp
    · simpa using ih' w

theorem fields33_facts : (Try.prog.fieldsOf 33).toList.map (fun f => (f.name != "_", f.type, f.offset)) = [(true, 3, 0), (true, 2, 1)] := by kernel_rfl

def vl (t n : Int) : Nat → Int
  | 0 => t
  | _ => n

set_option maxRecDepth 20000 in
theorem eq33 (t n t' n' : Int) (w : World) : (Op.equalIn 10000 33 (.agg #[.int .i64 t, .int .i64 n]) (.agg #[.int .i64 t', .int .i64 n'])).run Try.prog w = .ok (decide ((t, n) = (t', n'))) w := by
  rw [show (10000 : Nat) = 9999 + 1 from rfl, run_equalIn_agg w 9999 33 _ _ fields33 stood33]
  have hf : ∀ f ∈ (Try.prog.fieldsOf 33).toList, f.name ≠ "_" ∧ ((f.type = 3 ∧ f.offset = 0) ∨ (f.type = 2 ∧ f.offset = 1)) := by
    intro f hm
    have h := fields33_facts
    have hmm : (f.name != "_", f.type, f.offset) ∈ [(true, 3, 0), (true, 2, 1)] := by rw [← h]; exact List.mem_map.2 ⟨f, hm, rfl⟩
    simp only [List.mem_cons, Prod.mk.injEq, List.not_mem_nil, or_false, bne_iff_ne, ne_eq] at hmm
    rcases hmm with ⟨a, b, c⟩ | ⟨a, b, c⟩
    · exact ⟨a, Or.inl ⟨b, c⟩⟩
    · exact ⟨a, Or.inr ⟨b, c⟩⟩
  have hp : ∀ (t n : Int), ∀ f ∈ (Try.prog.fieldsOf 33).toList, ∀ w : World, (part f.type #[.int .i64 t, .int .i64 n] f.offset).run Try.prog w = .ok (.int .i64 (vl t n f.offset)) w := by
    intro t n f hm w
    rcases (hf f hm).2 with ⟨a, b⟩ | ⟨a, b⟩ <;> rw [a, b] <;> kernel_rfl
  have ho : (Try.prog.fieldsOf 33).toList.map (·.offset) = [0, 1] := by kernel_rfl
  rw [eqFields_ints (X := vl t n) (Y := vl t' n') _ (fun f hm => (hf f hm).1) (hp t n) (hp t' n')
    (fun f hm x y w => by
      rcases (hf f hm).2 with ⟨a, _⟩ | ⟨a, _⟩ <;> rw [a]
      · exact run_equalIn_int w 9998 3 .i64 .i64 x y Try.underlying3
      · exact run_equalIn_int w 9998 2 .i64 .i64 x y Try.underlying2) w, ho]
  congr 1
  rw [Bool.eq_iff_iff]; simp [vl]


/-- May it be a key? -/
def keyB (t n : Int) : Bool := if t = 3 then (isNum 3 n && !Fm.nanB (B n)) else (t != 0 && t != 11)
/-- An int64. -/
def I64 (n : Int) : Prop := -9223372036854775808 ≤ n ∧ n ≤ 9223372036854775807

set_option maxHeartbeats 1000000 in
theorem isKey_any (t n : Int) (w : World) (h : I64 n) : Calls Try.prog 42 #[AV t n] w fun e w' => e = .returned (.bool (keyB t n)) ∧ Below w.heap.size w w' := by
  by_cases ht : t = 3
  · subst ht
    have HOf : Hid (∀ W, Calls Try.prog 71 #[AV 3 n] W fun e w' => e = .returned (.tuple #[.float .f64 (if isNum 3 n then ofX 3 n else 0), .bool (isNum 3 n)]) ∧ Below W.heap.size W w') := fun W => Of_any 3 n W h.1 h.2
    have HE : Hid (keyB 3 n = (isNum 3 n && !Fm.nanB (B n))) := by show _ = _; simp [keyB]
    rw [HE.out]
    cases hi : isNum 3 n
    · rw [hi] at HOf
      go_enter Try.func42, Try.ntmps42
      go_wp2_with fail
      refine (HOf.out _).mono ?_
      rintro e w1 ⟨rfl, hb1⟩
      have HB : Hid (Below w.heap.size w w1) := ((Below.refl _ _).alloc (Nat.le_refl _) _).trans (hb1.mono (by simp))
      clear hb1
      go_wp2
      go_ret
      exact ⟨rfl, HB.out⟩
    · rw [hi] at HOf
      have HX : Hid (ofX 3 n = B n) := by show _ = _; simp [ofX]
      simp only [if_true, HX.out] at HOf
      obtain ⟨x, hx⟩ : ∃ x, x = B n := ⟨_, rfl⟩
      rw [← hx] at HOf ⊢
      rw [Bool.true_and]
      clear hx
      go_enter Try.func42, Try.ntmps42
      go_wp2_with fail
      refine (HOf.out _).mono ?_
      rintro e w1 ⟨rfl, hb1⟩
      have HB : Hid (Below w.heap.size w w1) := ((Below.refl _ _).alloc (Nat.le_refl _) _).trans (hb1.mono (by simp))
      clear hb1
      go_wp2_with (go_at_call 51; refine (IsNaN_any _ _).mono ?_; rintro e w' ⟨rfl, rfl⟩)
      go_ret
      exact ⟨rfl, HB.out⟩
  · have h3 : (t == 3) = false := by simp [ht]
    have HE : Hid (keyB t n = (t != 0 && t != 11)) := by show _ = _; simp [keyB, ht]
    rw [HE.out]
    clear ht
    cases h0 : (t == 0)
    · have h0' : (t != 0) = true := by rw [bne, h0]; rfl
      rw [h0', Bool.true_and]
      go_enter Try.func42, Try.ntmps42
      go_wp2_with fail
      refine (isNil_any _ _ _).mono ?_
      rintro e w1 ⟨rfl, hb1⟩
      have c0 : w1.cell? ⟨w.heap.size, 0, none⟩ = some (.int .i64 t) := cell_later hb1 (by rw [World.cell?_alloc_at _ _ _ _ rfl]; rfl)
      have HB : Hid (Below w.heap.size w w1) := ((Below.refl _ _).alloc (Nat.le_refl _) _).trans (hb1.mono (by simp))
      clear hb1
      go_wp2
      go_ret
      exact ⟨rfl, HB.out⟩
    · have h0' : (t != 0) = false := by rw [bne, h0]; rfl
      rw [h0', Bool.false_and]
      go_enter Try.func42, Try.ntmps42
      go_wp2_with fail
      refine (isNil_any _ _ _).mono ?_
      rintro e w1 ⟨rfl, hb1⟩
      have HB : Hid (Below w.heap.size w w1) := ((Below.refl _ _).alloc (Nat.le_refl _) _).trans (hb1.mono (by simp))
      clear hb1
      go_wp2
      go_ret
      exact ⟨rfl, HB.out⟩

/-- A store's own blocks alone have turned, and what are its own now were its own or are new. -/
structure Own (w : World) (P : Nat) (w' : World) : Prop where
  kp : Kept (FP w P) w w'
  fp : ∀ k, FP w' P k → FP w P k ∨ w.heap.size ≤ k
theorem Own.of_same {w w' : World} {P m : Nat} {most : Int} {a n : Nat} (hk : Kept (FP w P) w w') (h1 : w.heap[P]? = some (mb most a n (some m))) (h2 : w'.heap[P]? = some (mb most a n (some m))) : Own w P w' :=
  ⟨hk, fun k h => by
    rcases h with rfl | ⟨most', a', n', e⟩
    · exact .inl (.inl rfl)
    · rw [h2, ← h1] at e; exact .inl (.inr ⟨_, _, _, e⟩)⟩
theorem Own.of_no {w w' : World} {P : Nat} (hk : Kept No w w') (hP : P < w.heap.size) : Own w P w' :=
  ⟨hk.no, fun k h => by
    rcases h with rfl | ⟨most', a', n', e⟩
    · exact .inl (.inl rfl)
    · rw [hk.block P hP id] at e; exact .inl (.inr ⟨_, _, _, e⟩)⟩
theorem Own.trans {a b c : World} {P : Nat} (h : Own a P b) (k : Own b P c) : Own a P c :=
  ⟨h.kp.trans' k.kp h.fp, fun i hi => by
    rcases k.fp i hi with h1 | h1
    · exact h.fp i h1
    · exact .inr (Nat.le_trans h.kp.size h1)⟩

theorem sput_rng {sl : Sl} {i : Int} {x : Int × Int} {a n : Nat} (h : ∀ i, sl i ≠ (0, 0) → 0 ≤ i ∧ i < (a : Int) + 2 * (n : Int)) (hi : 0 ≤ i ∧ i < (a : Int) + 2 * (n : Int)) : ∀ j, sput sl i x j ≠ (0, 0) → 0 ≤ j ∧ j < (a : Int) + 2 * (n : Int) := by
  intro j hj
  unfold sput at hj
  split at hj
  · subst j; exact hi
  · exact h j hj

set_option maxHeartbeats 1000000 in
theorem SetSlot_out {w : World} {P : Nat} {most : Int} {a n nn : Nat} {sl : Sl} (h : Tb w P most a n nn sl) (i t x : Int) (hi : i < 0 ∨ (a : Int) + 2 * (n : Int) ≤ i) :
    Calls Try.prog 31 #[MP P, .int .i64 i, AV t x] w fun e w' => e = .returned (.tuple #[]) ∧ Below w.heap.size w w' := by
  have HT : Hid (Tb (w.alloc (.cells #[.int .i64 t, .int .i64 x] 33)) P most a n nn sl) := h.no ((Kept.refl _ _).alloc _)
  obtain ⟨b1, b2⟩ := h.bd
  clear h
  rcases hi with hi | hi
  · go_enter Try.func31, Try.ntmps31
    go_wp2
    refine bodyPost_ret (results_none rfl _ _ _) rfl ?_
    exact ⟨rfl, (Below.refl _ _).alloc (Nat.le_refl _) _⟩
  · have h0 : ¬ i < 0 := by omega
    go_enter Try.func31, Try.ntmps31
    go_wp2_with (first | (go_at_call 25; refine (Array_any HT.out).mono ?_; rintro e w' ⟨rfl, rfl⟩) | (go_at_call 26; refine (Nodes_any HT.out).mono ?_; rintro e w' ⟨rfl, rfl⟩))
    refine bodyPost_ret (results_none rfl _ _ _) rfl ?_
    exact ⟨rfl, (Below.refl _ _).alloc (Nat.le_refl _) _⟩

set_option maxRecDepth 20000 in
set_option maxHeartbeats 2000000 in
theorem SetSlot_in {w : World} {P : Nat} {most : Int} {a n nn : Nat} {sl : Sl} (h : Tb w P most a n nn sl) (i t x : Int) (hi : 0 ≤ i ∧ i < (a : Int) + 2 * (n : Int)) (hn : nn ≤ 1000000) :
    Calls Try.prog 31 #[MP P, .int .i64 i, AV t x] w fun e w' => e = .returned (.tuple #[]) ∧ Tb w' P most a n (nn + 1) (sput sl i (t, x)) ∧ Own w P w' := by
  have k0 : Kept No w (w.alloc (.cells #[.int .i64 t, .int .i64 x] 33)) := (Kept.refl _ _).alloc _
  have HT : Hid (Tb (w.alloc (.cells #[.int .i64 t, .int .i64 x] 33)) P most a n nn sl) := h.no k0
  obtain ⟨b1, b2⟩ := h.bd
  obtain ⟨M, h1, h2, h3⟩ := h.ex
  cases M with
  | none => have := (h2 rfl).1; have := (h2 rfl).2.1; omega
  | some m =>
  have hM := h3 m rfl
  have HF : Hid (FP w P m ∧ FP w P P ∧ m ≠ P) := ⟨Or.inr ⟨most, a, n, h1⟩, Or.inl rfl, hM.not_cells h1⟩
  have HR : Hid (∀ j, sput sl i (t, x) j ≠ (0, 0) → 0 ≤ j ∧ j < (a : Int) + 2 * (n : Int)) := sput_rng h.rng hi
  have hw : wf i := wf_of (by omega) (by omega)
  have H1 : Hid (w.heap[P]? = some (mb most a n (some m))) := h1
  have hA1 := k0.heap h1 id
  have hM1 : MapIs (w.alloc (.cells #[.int .i64 t, .int .i64 x] 33)) m nn sl := hM.kept k0 id
  obtain ⟨c0, c1, c2, c3⟩ := mb_cells hA1
  have HK0 : Hid (Kept No w (w.alloc (.cells #[.int .i64 t, .int .i64 x] 33)) ∧ (w.alloc (.cells #[.int .i64 t, .int .i64 x] 33)).heap[P]? = some (mb most a n (some m))) := ⟨k0, hA1⟩
  have d0 : (w.alloc (.cells #[.int .i64 t, .int .i64 x] 33)).cell? ⟨w.heap.size, 0, none⟩ = some (.int .i64 t) := by rw [World.cell?_alloc_at _ _ _ _ rfl]; rfl
  have d1 : (w.alloc (.cells #[.int .i64 t, .int .i64 x] 33)).cell? ⟨w.heap.size, 1, none⟩ = some (.int .i64 x) := by rw [World.cell?_alloc_at _ _ _ _ rfl]; rfl
  have hlt := hp_lt h1
  have he := eq33 t x 0 0
  have hg := guard33
  have HML : Hid (m < w.heap.size) := hM.lt
  clear h h1 h2 h3 k0 hA1 hM
  have h0 : ¬ i < 0 := by omega
  have h4 : ¬ ((a : Int) + 2 * (n : Int) ≤ i) := by omega
  by_cases hz : (t, x) = ((0, 0) : Int × Int)
  · have hz' : decide ((t, x) = ((0, 0) : Int × Int)) = true := decide_eq_true hz
    rw [hz'] at he
    have HZ : Hid ((t, x) = ((0, 0) : Int × Int)) := hz
    clear hz hz'
    obtain ⟨D, ho, hD⟩ := hM1
    have HD : Hid ((w.alloc (.cells #[.int .i64 t, .int .i64 x] 33)).ownsMap Try.prog 3 iR m nn D ∧ (∀ h, D.atKey (.int .i64 h) (iD (0, 0)) = iD (sl h)) ∧ wf i) := ⟨ho, hD, hw⟩
    clear ho hD
    go_enter Try.func31, Try.ntmps31
    go_wp2_with (first | (go_at_call 25; refine (Array_any HT.out).mono ?_; rintro e w' ⟨rfl, rfl⟩) | (go_at_call 26; refine (Nodes_any HT.out).mono ?_; rintro e w' ⟨rfl, rfl⟩) | (at_delete; refine wpList_delete_own _ rfl _ _ 65 3 rfl 33 keyed3 Try.underlying65 iR m nn D rfl HD.out.1 _ (.int .i64 i) rfl (Maps.keyOf_int_mk Try.underlying3 HD.out.2.2) ?_; intro w2 hown2 hturn2))
    have hk2 : Kept (fun k => k = m) (w.alloc (.cells #[.int .i64 t, .int .i64 x] 33)) w2 := (Kept.refl _ _).grown hturn2.grown (fun j e => by cases e; exact Or.inl rfl)
    have HE : Hid (Tb w2 P most a n (nn + 1) (sput sl i (t, x)) ∧ Own w P w2) := by
      have hm2 := MapIs.del HD.out.2.1 HD.out.1 hown2
      have hm3 : MapIs w2 m (nn + 1) (sput sl i (t, x)) := by rw [HZ.out]; exact hm2.more
      exact ⟨⟨⟨some m, hk2.heap HK0.out.2 (fun e => HF.out.2.2 e.symm), fun e => (by cases e), fun m' e => by cases e; exact hm3⟩, HR.out, by omega⟩, Own.of_same (HK0.out.1.no.trans (hk2.mono (fun k e => by subst e; exact HF.out.1))) H1.out (hk2.heap HK0.out.2 (fun e => HF.out.2.2 e.symm))⟩
    clear hown2 hturn2 hk2
    go_wp2
    refine bodyPost_ret (results_none rfl _ _ _) rfl ?_
    exact ⟨rfl, HE.out⟩
  · have hz' : decide ((t, x) = ((0, 0) : Int × Int)) = false := decide_eq_false hz
    rw [hz'] at he
    clear hz hz'
    obtain ⟨W, hW⟩ : ∃ W, W = w.alloc (.cells #[.int .i64 t, .int .i64 x] 33) := ⟨_, rfl⟩
    go_enter Try.func31, Try.ntmps31
    go_wp2_with (first | (go_at_call 25; refine (Array_any HT.out).mono ?_; rintro e w' ⟨rfl, rfl⟩) | (go_at_call 26; refine (Nodes_any HT.out).mono ?_; rintro e w' ⟨rfl, rfl⟩))
    rw [← hW] at hM1 HK0 c3 d0 d1 ⊢
    have S0 : Hid (W.drew.cell? ⟨P, 3, none⟩ = some (.map (some m)) ∧ W.drew.cell? ⟨w.heap.size, 0, none⟩ = some (.int .i64 t) ∧ W.drew.cell? ⟨w.heap.size, 1, none⟩ = some (.int .i64 x)) := ⟨c3, d0, d1⟩
    have HK1 : Hid (Kept No w W.drew ∧ W.drew.heap[P]? = some (mb most a n (some m))) := ⟨HK0.out.1.drew, HK0.out.2⟩
    have hM2 : MapIs W.drew m nn sl := hM1
    refine wp_region_held_drew (S := fun w' => w'.cell? ⟨P, 3, none⟩ = some (.map (some m)) ∧ w'.cell? ⟨w.heap.size, 0, none⟩ = some (.int .i64 t) ∧ w'.cell? ⟨w.heap.size, 1, none⟩ = some (.int .i64 x)) (by kernel_rfl) S0.out (fun _ => ?_)
    generalize W.drew = w2 at S0 HK1 hM2 ⊢
    clear hM1 HK0 c0 c1 c2 c3 d0 d1 HT hW he
    obtain ⟨D, ho, hD⟩ := hM2
    obtain ⟨w3, hrun, ho3, hturn⟩ := ho.store keyed3 Try.underlying65 (by unfold maxLen; omega) (Maps.keyOf_int_mk Try.underlying3 hw) (iR_mk (t, x))
    have hrun' : (Instr.mapUpdate 65 (.map (some m)) (.int .i64 i) (.agg #[.int .i64 t, .int .i64 x])).run Try.prog w2 = .ok () w3 := hrun
    have hk2 : Kept (fun k => k = m) w2 w3 := (Kept.refl _ _).grown hturn.grown (fun j e => by cases e; exact Or.inl rfl)
    have HE : Hid (Tb w3 P most a n (nn + 1) (sput sl i (t, x)) ∧ Own w P w3) := by
      have hm3 := MapIs.put hD ho hw (t, x) ho3
      exact ⟨⟨⟨some m, hk2.heap HK1.out.2 (fun e => HF.out.2.2 e.symm), fun e => (by cases e), fun m' e => by cases e; exact hm3⟩, HR.out, by omega⟩, Own.of_same (HK1.out.1.no.trans (hk2.mono (fun k e => by subst e; exact HF.out.1))) H1.out (hk2.heap HK1.out.2 (fun e => HF.out.2.2 e.symm))⟩
    have S3 : Hid (w3.cell? ⟨P, 3, none⟩ = some (.map (some m)) ∧ w3.cell? ⟨w.heap.size, 0, none⟩ = some (.int .i64 t) ∧ w3.cell? ⟨w.heap.size, 1, none⟩ = some (.int .i64 x)) := by
      have hkc : ∀ (b o : Nat) (v : Value), b ≠ m → w2.cell? ⟨b, o, none⟩ = some v → w3.cell? ⟨b, o, none⟩ = some v := by
        intro b o v hb hc
        have hbl : b < w2.heap.size := by
          rcases Nat.lt_or_ge b w2.heap.size with h | h
          · exact h
          · rw [show w2.cell? ⟨b, o, none⟩ = none by simp [World.cell?, Array.getElem?_eq_none h]] at hc; cases hc
        rw [← hc]; simp [World.cell?, hk2.block b hbl hb]
      have hml : m < w.heap.size := HML.out
      exact ⟨hkc P 3 _ (fun e => HF.out.2.2 e.symm) S0.out.1, hkc w.heap.size 0 _ (by omega) S0.out.2.1, hkc w.heap.size 1 _ (by omega) S0.out.2.2⟩
    clear hrun ho ho3 hD hturn hk2
    refine wpAnyH_take (i := 0) (v := MP P) rfl (by kernel_rfl) (by kernel_rfl) (by kernel_rfl) (fun _ _ _ h => h) (Or.inl ⟨by kernel_rfl, ?_⟩) S0.out ?_
    · intro w' _; rfl
    try simp only [Act.put, List.setIfInBounds_toArray, List.set_cons_zero, List.set_cons_succ, List.getElem_toArray, List.getElem_cons_zero, List.getElem_cons_succ]
    refine wpAnyH_take (i := 1) (v := MP P) rfl (by kernel_rfl) (by kernel_rfl) (by kernel_rfl) (fun _ _ _ h => h) (Or.inl ⟨by kernel_rfl, ?_⟩) S0.out ?_
    · intro w' _; simp [go_sem]
    try simp only [Act.put, List.setIfInBounds_toArray, List.set_cons_zero, List.set_cons_succ, List.getElem_toArray, List.getElem_cons_zero, List.getElem_cons_succ]
    refine wpAnyH_take (i := 2) (v := Value.pointer (some ⟨P, 3, none⟩)) rfl (by kernel_rfl) (by kernel_rfl) (by kernel_rfl) (fun _ _ _ h => h) (Or.inl ⟨by kernel_rfl, ?_⟩) S0.out ?_
    · intro w' _; simp [go_sem]
    try simp only [Act.put, List.setIfInBounds_toArray, List.set_cons_zero, List.set_cons_succ, List.getElem_toArray, List.getElem_cons_zero, List.getElem_cons_succ]
    refine wpAnyH_take (i := 3) (v := Value.map (some m)) rfl (by kernel_rfl) (by kernel_rfl) (by kernel_rfl) (fun _ _ _ h => h) (Or.inl ⟨by kernel_rfl, ?_⟩) S0.out ?_
    · rintro w' ⟨r0, r1, r2⟩; simp [go_sem, r0]
    try simp only [Act.put, List.setIfInBounds_toArray, List.set_cons_zero, List.set_cons_succ, List.getElem_toArray, List.getElem_cons_zero, List.getElem_cons_succ]
    refine wpAnyH_take (i := 4) (v := Value.int .i64 i) rfl (by kernel_rfl) (by kernel_rfl) (by kernel_rfl) (fun _ _ _ h => h) (Or.inl ⟨by kernel_rfl, ?_⟩) S0.out ?_
    · intro w' _; rfl
    try simp only [Act.put, List.setIfInBounds_toArray, List.set_cons_zero, List.set_cons_succ, List.getElem_toArray, List.getElem_cons_zero, List.getElem_cons_succ]
    refine wpAnyH_take (i := 5) (v := AV t x) rfl (by kernel_rfl) (by kernel_rfl) (by kernel_rfl) (fun _ _ _ h => h) (Or.inl ⟨by kernel_rfl, ?_⟩) S0.out ?_
    · rintro w' ⟨r0, r1, r2⟩; simp [go_sem, r1, r2]
    try simp only [Act.put, List.setIfInBounds_toArray, List.set_cons_zero, List.set_cons_succ, List.getElem_toArray, List.getElem_cons_zero, List.getElem_cons_succ]
    refine wpAnyH_ready (rs := [6]) (by kernel_rfl) (by simp) ?_
    refine AllReadyH.cons rfl (fun K hK => ?_) AllReadyH.nil
    go_simp
    refine hK.out _ _ S3.out (fun _ => ?_)
    clear hK
    try simp only [Act.put, List.setIfInBounds_toArray, List.set_cons_zero, List.set_cons_succ, List.getElem_toArray, List.getElem_cons_zero, List.getElem_cons_succ]
    refine wpAnyH_done (by kernel_rfl) ?_ _
    go_wp2
    go_end0
    exact ⟨rfl, HE.out⟩
end Go.Proofs.Ythefmfjlinpepaa
