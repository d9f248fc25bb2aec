/- The stack: push, pop. -/
import Derived.Test.YtnofmpbdfcolfaaA2
namespace Go.Proofs.Ytnofmpbdfcolfaa
open Go.RowKit
set_option linter.unusedSimpArgs false
set_option linter.unusedVariables false

/-- A stack in memory. -/
structure Stk (W : World) (B kb : Nat) (l : List Int) : Prop where
  ex : ∃ sv, W.heap[kb]? = some (.cells #[sv] 26 (0, 0)) ∧ IRow W B sv l
  le : B ≤ kb
theorem Stk.tn {ts : List Nat} {B B' kb : Nat} {w w' : World} {l : List Int} (h : Stk w B kb l) (hk : Tn ts B' w w') (h3 : 3 ∉ ts) (h26 : 26 ∉ ts) : Stk w' B kb l := by
  obtain ⟨sv, h1, h2⟩ := h.ex
  exact ⟨⟨sv, hk.cells h1 h26, h2.tn hk h3⟩, h.le⟩

abbrev PT (b : Nat) : Value := .pointer (some ⟨b, 0, none⟩)

set_option maxRecDepth 20000 in
set_option maxHeartbeats 2000000 in
theorem push_any {w : World} {B kb : Nat} {l : List Int} (h : Stk w B kb l) (hl : l.length + 1 ≤ 1000000) (hB : B ≤ w.heap.size) (x : Int) :
    Calls Try.prog 54 #[.int .i64 x, PT kb] w fun e w' => (∃ v, e = .returned v) ∧ Stk w' B kb (l ++ [x]) ∧ Tn [3, 26] B w w' := by
  obtain ⟨sv, h1, h2⟩ := h.ex
  have hle := h.le
  clear h
  obtain ⟨ao, cap, rfl⟩ := h2.form
  have c0 : w.cell? ⟨kb, 0, none⟩ = some (.slice ao l.length cap) := by rw [cell_of h1]; rfl
  have H1 : Hid (w.heap[kb]? = some (.cells #[.slice ao l.length cap] 26 (0, 0))) := h1
  have H2 : Hid (IRow w B (.slice ao l.length cap) l) := h2
  clear h1 h2
  go_enter Try.func54, Try.ntmps54
  go_wp2_with (refine app_int rfl (.tmp 3) (.tmp 5) rfl B (.slice ao l.length cap) l rfl (World.ownsRow.alloc H2.out _) w.heap.size x rfl (World.alloc_heap_new w _) hl (by simp; omega) ?_)
  intro v' w' HR HG
  obtain ⟨ao', cap', rfl⟩ := HR.out.form
  rw [show (l ++ [x]).length = l.length + 1 by simp] at HR ⊢
  have hlt := hp_lt H1.out
  have hk1 : w'.heap[kb]? = some (.cells #[.slice ao l.length cap] 26 (0, 0)) := by
    rw [HG.out.block kb (by rw [World.size_alloc]; omega) (fun e => ?_)]
    · exact (Below.heap_alloc w _ _ hlt).trans H1.out
    · obtain ⟨_, c, hc⟩ := H2.out.block e.symm
      rw [H1.out] at hc; cases hc
  have f0 : ∀ o, w'.frozen? ⟨kb, o, none⟩ = false := frozen_of hk1
  have c1 : w'.cell? ⟨kb, 0, none⟩ = some (.slice ao l.length cap) := by rw [cell_of hk1]; rfl
  have HK : Hid (w'.heap[kb]? = some (.cells #[.slice ao l.length cap] 26 (0, 0))) := hk1
  clear hk1
  go_wp2
  go_end0
  refine ⟨⟨_, rfl⟩, ⟨⟨.slice ao' (l.length + 1) cap', ?_, ?_⟩, hle⟩, ?_⟩
  · exact hp_set_same HK.out 0 _
  · refine HR.out.turn (fun k hk => Below.heap_setCell _ _ _ _ ?_)
    rintro rfl
    obtain ⟨_, c, hc⟩ := HR.out.block hk
    rw [HK.out] at hc; cases hc
  · have t1 : Tn [3, 26] B w w' := Kept.grown ((Kept.refl _ _).alloc _) HG.out (fun k hk => by
      obtain ⟨hb, c, hc⟩ := H2.out.block hk
      exact .inl ⟨hb, c, 3, _, hc, by simp⟩)
    refine Kept.set t1 kb 0 _ (.inl ⟨hle, _, 26, _, H1.out, by simp⟩)

set_option maxRecDepth 20000 in
set_option maxHeartbeats 2000000 in
theorem pop_nil {w : World} {B kb : Nat} (h : Stk w B kb []) :
    Calls Try.prog 55 #[PT kb] w fun e w' => e = .returned (.tuple #[.int .i64 0, .bool false]) ∧ w = w' := by
  obtain ⟨sv, h1, h2⟩ := h.ex
  obtain ⟨ao, c, rfl⟩ : ∃ ao c, sv = .slice ao 0 c := by
    rcases h2.2 with ⟨rfl, h0⟩ | ⟨g, cap, cur, rfl, _⟩
    · exact ⟨_, _, rfl⟩
    · exact ⟨_, _, rfl⟩
  have c0 : w.cell? ⟨kb, 0, none⟩ = some (.slice ao 0 c) := by rw [cell_of h1]; rfl
  clear h h1 h2
  go_enter Try.func55, Try.ntmps55
  go_wp2
  exact bodyPost_ret (v := .tuple #[.int .i64 0, .bool false]) (by simp [results, Try.results55, go_sem]) rfl ⟨rfl, rfl⟩

set_option maxRecDepth 20000 in
set_option maxHeartbeats 2000000 in
theorem pop_one {w : World} {B kb : Nat} {l : List Int} (h : Stk w B kb l) (hl : l.length ≤ 1000000) (h0 : l ≠ []) :
    Calls Try.prog 55 #[PT kb] w fun e w' => e = .returned (.tuple #[.int .i64 (l.getLast h0), .bool true]) ∧ Stk w' B kb l.dropLast ∧ Tn [26] B w w' := by
  obtain ⟨sv, h1, h2⟩ := h.ex
  have hle := h.le
  have hp : 0 < l.length := List.length_pos_iff.2 h0
  obtain ⟨b, c, rfl, hc, h3⟩ := h2.at (j := l.length - 1) (by omega)
  have c0 : w.cell? ⟨kb, 0, none⟩ = some (.slice (some ⟨b, 0, none⟩) l.length c) := by rw [cell_of h1]; rfl
  have f0 : ∀ o, w.frozen? ⟨kb, o, none⟩ = false := frozen_of h1
  have hg : l[l.length - 1] = l.getLast h0 := (List.getLast_eq_getElem h0).symm
  rw [hg] at h3
  have H1 : Hid (w.heap[kb]? = some (.cells #[.slice (some ⟨b, 0, none⟩) l.length c] 26 (0, 0))) := h1
  have H2 : Hid (IRow w B (.slice (some ⟨b, 0, none⟩) (l.length - 1) c) l.dropLast) := by
    have := h2.pop (n := l.length - 1) (by omega)
    rwa [← List.dropLast_eq_take] at this
  clear h h1 h2 hg
  generalize l.getLast h0 = x at h3 ⊢
  generalize l.dropLast = d at H2 ⊢
  obtain ⟨m, hm⟩ : ∃ m, l.length = m + 1 := ⟨l.length - 1, by omega⟩
  rw [hm] at c0 H1 H2 h3 hc hl
  simp only [Nat.add_sub_cancel] at h3 H2
  have e1 : ((m + 1 : Nat) : Int) - 1 = (m : Int) := by omega
  have e2 : (m : Int) + 1 - 1 = (m : Int) := by omega
  clear hm hp h0
  go_enter Try.func55, Try.ntmps55
  go_wp2
  refine bodyPost_ret (v := .tuple #[.int .i64 x, .bool true]) (by simp [results, Try.results55, go_sem]) rfl ⟨rfl, ⟨⟨_, hp_set_same H1.out 0 _, H2.out.turn (fun k hk => Below.heap_setCell _ _ _ _ ?_)⟩, hle⟩, ?_⟩
  · rintro rfl
    obtain ⟨_, c, hc⟩ := H2.out.block hk
    rw [H1.out] at hc; cases hc
  · exact Kept.set (Kept.refl _ _) kb 0 _ (.inl ⟨hle, _, 26, _, H1.out, by simp⟩)
end Go.Proofs.Ytnofmpbdfcolfaa
