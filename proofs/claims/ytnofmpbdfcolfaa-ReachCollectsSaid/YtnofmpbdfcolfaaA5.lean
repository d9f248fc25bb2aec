/- need and what calls it. -/
import Derived.Test.YtnofmpbdfcolfaaA4
import Derived.Test.YtnofmpbdfcolfaaQ0
namespace Go.Proofs.Ytnofmpbdfcolfaa
open Go.RowKit
set_option linter.unusedSimpArgs false
set_option linter.unusedVariables false

/-- A value is needed. -/
def need (T : List Th) (s : St) (v : V) : St := if obj T v then needH T.length s v.2 else s
/-- .. if it is a text. -/
def needT (T : List Th) (s : St) (v : V) : St := if v.1 = 4 then need T s v else s
/-- .. and a pair of a table with weak keys. -/
def needP (T : List Th) (s : St) (k v : V) : St :=
  if held T k && !(s.nd.getD (k.2.toNat - 1) true) then { s with wt := s.wt.set (k.2.toNat - 1) (s.wt.getD (k.2.toNat - 1) [] ++ [v]) } else need T (need T s k) v
def needK (T : List Th) (s : St) (k v : V) : St := needT T (need T s k) v
def needTT (T : List Th) (s : St) (k v : V) : St := needT T (needT T s k) v

/-- What a call of the walk does. -/
abbrev Does (E : Ev) (c nb wb kb : Nat) (ts : List Nat) (w : World) (s : St) : Ending → World → Prop :=
  fun e w' => (∃ v, e = .returned v) ∧ Wk E c nb wb kb w' s ∧ Tn ts E.B w w'
theorem Does.of {E : Ev} {c nb wb kb : Nat} {ts : List Nat} {w W w2 : World} {s : St} {r : Ending} (h : Tn ts E.B w W) (hd : Does E c nb wb kb ts W s r w2) : Does E c nb wb kb ts w s r w2 := ⟨hd.1, hd.2.1, h.trans hd.2.2⟩

theorem mixed : Try.prog.follows .mixedOrders = true := by kernel_rfl
theorem box_cells {w : World} {k : Nat} {t n : Int} (h : w.heap[k]? = some (.cells #[.int .i64 t, .int .i64 n] 40 (0, 0))) : w.cell? ⟨k, 0, none⟩ = some (.int .i64 t) ∧ w.cell? ⟨k, 1, none⟩ = some (.int .i64 n) :=
  ⟨by rw [cell_of h]; rfl, by rw [cell_of h]; rfl⟩
/-- What a walk's record has. -/
theorem Wk.cells {E : Ev} {c nb wb kb : Nat} {w : World} {s : St} (h : Wk E c nb wb kb w s) : w.cell? ⟨c, 0, none⟩ = some E.tv ∧ w.cell? ⟨c, 1, none⟩ = some (SLN nb E.T.length) ∧ w.cell? ⟨c, 2, none⟩ = some (SLN wb E.T.length) ∧ w.cell? ⟨c, 3, none⟩ = some (PUSH kb) ∧ w.cell? ⟨c, 4, none⟩ = some (POP kb) :=
  ⟨by rw [cell_of h.cc]; rfl, by rw [cell_of h.cc]; rfl, by rw [cell_of h.cc]; rfl, by rw [cell_of h.cc]; rfl, by rw [cell_of h.cc]; rfl⟩

set_option maxRecDepth 20000 in
set_option maxHeartbeats 4000000 in
theorem need_any {E : Ev} (hE : E.Ok) {c nb wb kb : Nat} {w : World} {s : St} (h : Wk E c nb wb kb w s) (v : V) :
    Calls Try.prog 28 #[PT c, AV v] w (Does E c nb wb kb [3, 4, 26] w (need E.T s v)) := by
  obtain ⟨t, n⟩ := v
  have HE : Hid E.Ok := hE
  obtain ⟨W, HWd⟩ : ∃ W, Hid (W = w.alloc (.cells #[.int .i64 t, .int .i64 n] 40)) := ⟨_, rfl⟩
  have HK : Hid (Kept No w W) := by show Kept _ _ _; rw [HWd.out]; exact (Kept.refl _ _).alloc _
  have HB : Hid (W.heap[w.heap.size]? = some (.cells #[.int .i64 t, .int .i64 n] 40 (0, 0))) := by show _ = _; rw [HWd.out]; exact World.alloc_heap_new w _
  have HW : Hid (Wk E c nb wb kb W s) := h.no hE HK.out
  obtain ⟨ao, cap, htv, hrd⟩ := HW.out.rd hE
  have HC : Hid (∀ W1, Kept No W W1 → Wk E c nb wb kb W1 s ∧ W1.cell? ⟨w.heap.size, 0, none⟩ = some (.int .i64 t) ∧ W1.cell? ⟨w.heap.size, 1, none⟩ = some (.int .i64 n) ∧ W1.cell? ⟨c, 0, none⟩ = some (.slice ao E.T.length cap)) := fun W1 hW1 => by
    have b := box_cells (hW1.heap HB.out id)
    have k := HW.out.no HE.out hW1
    exact ⟨k, b.1, b.2, by rw [← htv]; exact k.cells.1⟩
  have HI : Hid (∀ W1, Kept No W W1 → Calls Try.prog 41 #[.slice ao E.T.length cap, AV (t, n)] W1 fun e w' => e = .returned (.bool (obj E.T (t, n))) ∧ Kept No W w') := fun W1 hW1 => by
    have := isObject_any ((HC.out W1 hW1).1.rd HE.out) (by have := hE.sm; omega) (t, n)
    rw [htv] at this
    exact this.mono (fun e w2 ⟨he, hk⟩ => ⟨he, hW1.trans hk⟩)
  clear hrd htv h
  obtain ⟨s', HS'⟩ : ∃ s', Hid (need E.T s (t, n) = s') := ⟨_, rfl⟩
  rw [HS'.out]
  obtain ⟨ob, HO⟩ : ∃ ob, Hid (obj E.T (t, n) = ob) := ⟨_, rfl⟩
  rw [HO.out] at HI
  go_enter Try.func28, Try.ntmps28
  go_wp2_with fail
  rw [← HWd.out]
  clear HWd
  refine region_quiet_class (C := fun w' => Kept No W w') mixed (by kernel_rfl) (Kept.refl _ _).drew ?_
  refine q_op (PT c) (by kernel_rfl) (fun W1 hW1 => by simp [go_sem]) ?_
  try simp only [Act.put, List.setIfInBounds_toArray, List.set_cons_zero, List.set_cons_succ]
  refine q_op (.pointer (some ⟨c, 0, none⟩)) (by kernel_rfl) (fun W1 hW1 => by simp [go_sem]) ?_
  try simp only [Act.put, List.setIfInBounds_toArray, List.set_cons_zero, List.set_cons_succ]
  refine q_op (.pointer (some ⟨c, 0, none⟩)) (by kernel_rfl) (fun W1 hW1 => by simp [go_sem]) ?_
  try simp only [Act.put, List.setIfInBounds_toArray, List.set_cons_zero, List.set_cons_succ]
  refine q_op (.slice ao E.T.length cap) (by kernel_rfl) (fun W1 hW1 => by obtain ⟨-, r0, r1, r2⟩ := HC.out W1 hW1; simp [go_sem, r2]) ?_
  try simp only [Act.put, List.setIfInBounds_toArray, List.set_cons_zero, List.set_cons_succ]
  refine q_op (AV (t, n)) (by kernel_rfl) (fun W1 hW1 => by obtain ⟨-, r0, r1, r2⟩ := HC.out W1 hW1; simp [go_sem, r0, r1]) ?_
  try simp only [Act.put, List.setIfInBounds_toArray, List.set_cons_zero, List.set_cons_succ]
  refine q_call 41 #[.slice ao E.T.length cap, AV (t, n)] (.bool ob) (by kernel_rfl) (fun W1 hW1 => by simp [go_sem]) (fun W1 hW1 => HI.out W1 hW1) ?_
  try simp only [Act.put, List.setIfInBounds_toArray, List.set_cons_zero, List.set_cons_succ]
  refine wpQuiet_nil ?_
  intro W3 H3
  obtain ⟨HW3, r0, r1, r2⟩ := HC.out W3 H3
  have HW3 : Hid (Wk E c nb wb kb W3 s) := HW3
  have HT3 : Hid (Tn [3, 4, 26] E.B w W3) := Tn.no (HK.out.trans H3)
  clear HC HI H3 HW HB HK
  cases ob
  case true =>
    have ho := HO.out
    have hne : need E.T s (t, n) = needH E.T.length s n := by unfold need; rw [if_pos ho]
    rw [hne] at HS'
    clear hne HO ho
    go_wp2_with fail
    go_at_call 29
    refine (needHandle_any HE.out HW3.out n).mono ?_
    rintro e w2 ⟨⟨v, rfl⟩, h2, h3⟩
    have HD : Hid (Does E c nb wb kb [3, 4, 26] w s' (.returned (.tuple #[])) w2) := ⟨⟨_, rfl⟩, by rw [← HS'.out]; exact h2, HT3.out.trans h3⟩
    clear h2 h3 HT3 HW3
    go_wp2
    go_end0
    exact ⟨⟨_, rfl⟩, HD.out.2⟩
  case false =>
    have ho' := HO.out
    have hne : need E.T s (t, n) = s := by unfold need; rw [ho']; rfl
    rw [hne] at HS'
    clear hne HO ho'
    go_wp2
    go_end0
    exact ⟨⟨_, rfl⟩, by rw [← HS'.out]; exact HW3.out, HT3.out⟩

set_option maxRecDepth 20000 in
set_option maxHeartbeats 4000000 in
theorem needText_any {E : Ev} (hE : E.Ok) {c nb wb kb : Nat} {w : World} {s : St} (h : Wk E c nb wb kb w s) (v : V) :
    Calls Try.prog 66 #[PT c, AV v] w (Does E c nb wb kb [3, 4, 26] w (needT E.T s v)) := by
  obtain ⟨t, n⟩ := v
  have HE : Hid E.Ok := hE
  have HK : Hid (∀ o, Kept No w (w.alloc o)) := fun o => (Kept.refl _ _).alloc _
  have HW : Hid (∀ o, Wk E c nb wb kb (w.alloc o) s) := fun o => h.no hE (HK.out o)
  clear h
  by_cases ht : t = 4
  · subst ht
    have hne : needT E.T s (4, n) = need E.T s (4, n) := by unfold needT; rw [if_pos rfl]
    rw [hne]
    clear hne
    go_enter Try.func66, Try.ntmps66
    go_wp2_with fail
    go_at_call 28
    refine (need_any HE.out (HW.out _) (4, n)).mono ?_
    rintro e w2 ⟨⟨v, rfl⟩, h2, h3⟩
    have HD : Hid (Wk E c nb wb kb w2 (need E.T s (4, n)) ∧ Tn [3, 4, 26] E.B w w2) := ⟨h2, (Tn.no (HK.out _)).trans h3⟩
    clear h2 h3
    go_wp2
    go_end0
    exact ⟨⟨_, rfl⟩, HD.out⟩
  · have hne : needT E.T s (t, n) = s := by unfold needT; rw [if_neg ht]
    rw [hne]
    clear hne
    go_enter Try.func66, Try.ntmps66
    go_wp2
    go_end0
    exact ⟨⟨_, rfl⟩, HW.out _, Tn.no (HK.out _)⟩

set_option maxRecDepth 20000 in
set_option maxHeartbeats 4000000 in
theorem needKey_any {E : Ev} (hE : E.Ok) {c nb wb kb : Nat} {w : World} {s : St} (h : Wk E c nb wb kb w s) (k v : V) :
    Calls Try.prog 58 #[PT c, AV k, AV v] w (Does E c nb wb kb [3, 4, 26] w (needK E.T s k v)) := by
  obtain ⟨t, n⟩ := k
  obtain ⟨t', n'⟩ := v
  have hne : needK E.T s (t, n) (t', n') = needT E.T (need E.T s (t, n)) (t', n') := rfl
  rw [hne]
  clear hne
  have HE : Hid E.Ok := hE
  obtain ⟨W, HWd⟩ : ∃ W, Hid (W = (w.alloc (.cells #[.int .i64 t, .int .i64 n] 40)).alloc (.cells #[.int .i64 t', .int .i64 n'] 40)) := ⟨_, rfl⟩
  have HK : Hid (Kept No w W) := by show Kept _ _ _; rw [HWd.out]; exact ((Kept.refl _ _).alloc _).alloc _
  have b1 : W.heap[w.heap.size]? = some (.cells #[.int .i64 t, .int .i64 n] 40 (0, 0)) := by rw [HWd.out]; exact (Below.heap_alloc _ _ _ (by simp)).trans (World.alloc_heap_new w _)
  have b2 : W.heap[w.heap.size + 1]? = some (.cells #[.int .i64 t', .int .i64 n'] 40 (0, 0)) := by rw [HWd.out]; have := World.alloc_heap_new (w.alloc (.cells #[.int .i64 t, .int .i64 n] 40)) (.cells #[.int .i64 t', .int .i64 n'] 40); rwa [World.size_alloc] at this
  have HW : Hid (Wk E c nb wb kb W s) := h.no hE HK.out
  obtain ⟨r0, r1⟩ := box_cells b1
  have HB2 : Hid (W.heap[w.heap.size + 1]? = some (.cells #[.int .i64 t', .int .i64 n'] 40 (0, 0))) := b2
  clear h b1 b2
  go_enter Try.func58, Try.ntmps58
  go_wp2_with (first | rw [← HWd.out])
  go_at_call 28
  refine (need_any HE.out HW.out (t, n)).mono ?_
  rintro e w2 ⟨⟨v, rfl⟩, h2, h3⟩
  obtain ⟨r2, r3⟩ := box_cells (h3.cells HB2.out (by simp))
  have HD : Hid (Wk E c nb wb kb w2 (need E.T s (t, n)) ∧ Tn [3, 4, 26] E.B w w2) := ⟨h2, (Tn.no HK.out).trans h3⟩
  clear h2 h3 HW HB2 HWd
  go_wp2_with fail
  go_at_call 66
  refine (needText_any HE.out HD.out.1 (t', n')).mono ?_
  rintro e w3 ⟨⟨v, rfl⟩, h2, h3⟩
  have HD2 : Hid (Wk E c nb wb kb w3 (needT E.T (need E.T s (t, n)) (t', n')) ∧ Tn [3, 4, 26] E.B w w3) := ⟨h2, HD.out.2.trans h3⟩
  clear h2 h3
  go_wp2
  go_end0
  exact ⟨⟨_, rfl⟩, HD2.out⟩

set_option maxRecDepth 20000 in
set_option maxHeartbeats 4000000 in
theorem needTexts_any {E : Ev} (hE : E.Ok) {c nb wb kb : Nat} {w : World} {s : St} (h : Wk E c nb wb kb w s) (k v : V) :
    Calls Try.prog 59 #[PT c, AV k, AV v] w (Does E c nb wb kb [3, 4, 26] w (needTT E.T s k v)) := by
  obtain ⟨t, n⟩ := k
  obtain ⟨t', n'⟩ := v
  have hne : needTT E.T s (t, n) (t', n') = needT E.T (needT E.T s (t, n)) (t', n') := rfl
  rw [hne]
  clear hne
  have HE : Hid E.Ok := hE
  obtain ⟨W, HWd⟩ : ∃ W, Hid (W = (w.alloc (.cells #[.int .i64 t, .int .i64 n] 40)).alloc (.cells #[.int .i64 t', .int .i64 n'] 40)) := ⟨_, rfl⟩
  have HK : Hid (Kept No w W) := by show Kept _ _ _; rw [HWd.out]; exact ((Kept.refl _ _).alloc _).alloc _
  have b1 : W.heap[w.heap.size]? = some (.cells #[.int .i64 t, .int .i64 n] 40 (0, 0)) := by rw [HWd.out]; exact (Below.heap_alloc _ _ _ (by simp)).trans (World.alloc_heap_new w _)
  have b2 : W.heap[w.heap.size + 1]? = some (.cells #[.int .i64 t', .int .i64 n'] 40 (0, 0)) := by rw [HWd.out]; have := World.alloc_heap_new (w.alloc (.cells #[.int .i64 t, .int .i64 n] 40)) (.cells #[.int .i64 t', .int .i64 n'] 40); rwa [World.size_alloc] at this
  have HW : Hid (Wk E c nb wb kb W s) := h.no hE HK.out
  obtain ⟨r0, r1⟩ := box_cells b1
  have HB2 : Hid (W.heap[w.heap.size + 1]? = some (.cells #[.int .i64 t', .int .i64 n'] 40 (0, 0))) := b2
  clear h b1 b2
  go_enter Try.func59, Try.ntmps59
  go_wp2_with (first | rw [← HWd.out])
  go_at_call 66
  refine (needText_any HE.out HW.out (t, n)).mono ?_
  rintro e w2 ⟨⟨v, rfl⟩, h2, h3⟩
  obtain ⟨r2, r3⟩ := box_cells (h3.cells HB2.out (by simp))
  have HD : Hid (Wk E c nb wb kb w2 (needT E.T s (t, n)) ∧ Tn [3, 4, 26] E.B w w2) := ⟨h2, (Tn.no HK.out).trans h3⟩
  clear h2 h3 HW HB2 HWd
  go_wp2_with fail
  go_at_call 66
  refine (needText_any HE.out HD.out.1 (t', n')).mono ?_
  rintro e w3 ⟨⟨v, rfl⟩, h2, h3⟩
  have HD2 : Hid (Wk E c nb wb kb w3 (needT E.T (needT E.T s (t, n)) (t', n')) ∧ Tn [3, 4, 26] E.B w w3) := ⟨h2, HD.out.2.trans h3⟩
  clear h2 h3
  go_wp2
  go_end0
  exact ⟨⟨_, rfl⟩, HD2.out⟩

end Go.Proofs.Ytnofmpbdfcolfaa
