/- Scope: push, size, cut, last. -/
import Derived.Test.YtgkgpjbbmnfnmaaGreatDoorS0
namespace Go.Proofs.YtgkgpjbbmnfnmaaGreatDoor
open Go.RowKit
set_option linter.unusedSimpArgs false
set_option linter.unusedVariables false

/-- The stack goes on. -/
structure PassK (sb : Nat) (v : Value) (w : World) (v' : Value) (w' : World) : Prop where
  kept : Kept (OutK sb v) w w'
  own : v'.ownBlock = v.ownBlock ∨ ∀ k, v'.ownBlock = some k → w.heap.size ≤ k
theorem Sk.no {w w' : World} {B sb : Nat} {v : Value} {l : List Ent} (h : Sk w B sb v l) (hk : Kept No w w') : Sk w' B sb v l := by
  refine ⟨hk.heap h.box id, ?_, h.lt, Nat.le_trans h.le hk.size⟩
  obtain ⟨o1, o2 | ⟨g, cap, cur, o3, o4, o5, o6⟩⟩ := h.row
  · exact ⟨o1, .inl o2⟩
  · exact ⟨o1, .inr ⟨g, cap, cur, o3, o4, hk.heap o5 id, o6⟩⟩
theorem Sk.ne {w : World} {B sb : Nat} {v : Value} {l : List Ent} (h : Sk w B sb v l) : v.ownBlock ≠ some sb := by
  intro e
  have := h.row.lt sb e
  have := h.lt
  omega

set_option maxRecDepth 20000 in
set_option maxHeartbeats 2000000 in
theorem push_any {w : World} {B sb : Nat} {v : Value} {l : List Ent} (h : Sk w B sb v l) (t : ByteArray) (o n : Int) (hl : l.length ≤ 100000) :
    Calls Tryz.prog 63 #[.string t, .agg #[.int .i64 o, .int .i64 n], .pointer (some ⟨sb, 0, none⟩)] w fun r w' => r = .returned (.tuple #[]) ∧ ∃ v', Sk w' B sb v' (l ++ [⟨t, o, n⟩]) ∧ PassK sb v w v' w' := by
  obtain ⟨ao, cap, rfl, hcap⟩ := h.slice
  have HS : Hid _ := h
  obtain ⟨W0, HW0⟩ : ∃ W0, Hid (w.alloc (.cells #[.int .i64 o, .int .i64 n] 89) = W0) := ⟨_, show _ = _ from rfl⟩
  have k0 : Kept No w W0 := by rw [← HW0.out]; exact (Kept.refl No w).alloc _
  have b0 := HW0.out ▸ World.alloc_heap_new w (.cells #[.int .i64 o, .int .i64 n] 89)
  have h0 := h.no k0
  have c0 := cell_of b0 0
  have c1 := cell_of b0 1
  have s0 := cell_of h0.box 0
  have sf := frozen_of h0.box 0
  simp only [List.getElem?_toArray, List.getElem?_cons_zero, List.getElem?_cons_succ] at c0 c1 s0
  have hw0 : W0.heap.size = w.heap.size + 1 := by rw [← HW0.out]; simp
  obtain ⟨W1, HW1⟩ : ∃ W1, Hid (W0.alloc (.cells #[.string t, .int .i64 o, .int .i64 n] 124) = W1) := ⟨_, show _ = _ from rfl⟩
  have k1 : Kept No W0 W1 := by rw [← HW1.out]; exact (Kept.refl No W0).alloc _
  have h1 := h0.no k1
  have b1 := HW1.out ▸ World.alloc_heap_new W0 (.cells #[.string t, .int .i64 o, .int .i64 n] 124)
  have H1 : Hid (Sk W1 B sb (.slice ao l.length cap) l ∧ W1.heap[W0.heap.size]? = some (.cells (entC ⟨t, o, n⟩).toArray 124 (0, 0)) ∧ Kept No w W1 ∧ l.length ≤ 100000) := ⟨h1, b1, k0.trans k1, hl⟩
  clear h h0 h1 k0 k1 b0 b1 hl HS
  go_enter Tryz.func63, Tryz.ntmps63
  go_wp2_with (first
    | (
       refine app_e rfl (.tmp 5) (.tmp 9) rfl B (.slice ao l.length cap) l rfl H1.out.1.row (w.heap.size + 1) ⟨t, o, n⟩ rfl (by rw [← hw0]; exact H1.out.2.1) (by have := H1.out.2.2.2; omega) H1.out.1.le ?_
       intro v2 w2 h2 h3 h5 h6
       obtain ⟨ao2, n2, cp2, rfl⟩ := h6
       have HK2 : Hid (Kept (fun b => (Value.slice ao l.length cap).ownBlock = some b) W1 w2) := Kept.grown (Kept.refl _ W1) h3.out (fun k e => .inl e)
       have hb2 := HK2.out.heap H1.out.1.box H1.out.1.ne
       have b2 := cell_of hb2 0
       have bf2 := frozen_of hb2 0
       have HB2 : Hid _ := hb2
       clear hb2)
    | rw [HW0.out] | rw [HW1.out])
  refine bodyPost_end (results_none Tryz.results63 _ _ _) rfl ⟨rfl, .slice ao2 n2 cp2, ⟨set_same (c := #[.slice ao l.length cap]) HB2.out 0 _, ?_, H1.out.1.lt, Nat.le_trans H1.out.1.le (by have := HK2.out.size; simpa using this)⟩, ?_, ?_⟩
  · obtain ⟨o1, o2 | ⟨g, cp, cur, o3, o4, o5, o6⟩⟩ := h2.out
    · exact ⟨o1, .inl o2⟩
    · exact ⟨o1, .inr ⟨g, cp, cur, o3, o4, set_other o5 _ _ (by have := H1.out.1.lt; omega), o6⟩⟩
  · exact (H1.out.2.2.1.no.trans (HK2.out.mono (fun b hb => .inr hb))).set sb 0 _ (.inl (.inl rfl))
  · rcases h5.out with e | e
    · exact .inl e
    · refine .inr (fun k hk => ?_)
      rw [e] at hk
      simp only [Option.some.injEq] at hk
      have := H1.out.2.2.1.size
      omega
end Go.Proofs.YtgkgpjbbmnfnmaaGreatDoor
