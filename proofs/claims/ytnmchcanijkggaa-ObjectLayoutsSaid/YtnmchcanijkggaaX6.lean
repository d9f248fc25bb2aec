/- The document's fits, of texts. -/
import Derived.Test.YtnmchcanijkggaaX5
namespace Go.Proofs.Ytnmchcanijkggaa
open Go.RowKit Go.Lib
set_option linter.unusedVariables false
set_option linter.unusedSimpArgs false

set_option maxRecDepth 20000 in
set_option maxHeartbeats 4000000 in
theorem RfitsText_no (h : Hd) (ao so : Option Addr) (na ca ns cs : Nat) (w : World) (hk : h.k = 4) (hn : na = 0 ∨ ns ≠ 0) :
    Calls Try.prog 50 #[AO h (.slice ao na ca) (.slice so ns cs)] w fun e w' => e = .returned (.bool false) ∧ Below w.heap.size w w' := by
  obtain ⟨k, c, a, ww, s, f, x, l⟩ := h
  simp only at hk
  subst hk
  by_cases h1 : ns = 0
  · have h2 : na = 0 := by omega
    subst h1 h2
    go_enter Try.func50, Try.ntmps50
    go_wp2
    go_ret
    exact ⟨rfl, (Below.refl _ _).alloc (Nat.le_refl _) _⟩
  · have e2 : ((ns : Int) != 0) = true := by simp; omega
    clear h1 hn
    go_enter Try.func50, Try.ntmps50
    go_wp2
    go_ret
    exact ⟨rfl, (Below.refl _ _).alloc (Nat.le_refl _) _⟩

set_option maxRecDepth 20000 in
set_option maxHeartbeats 4000000 in
theorem RfitsText_out (h : Hd) (b off na ca cs : Nat) (so : Option Addr) (x : Int) (w : World) (hk : h.k = 4) (h0 : 0 < na) (hx : x < 0 ∨ 32768 < x) (c0 : w.cell? ⟨b, off, none⟩ = some (.int .i64 x)) :
    Calls Try.prog 50 #[AO h (.slice (some ⟨b, off, none⟩) na ca) (.slice so 0 cs)] w fun e w' => e = .returned (.bool false) ∧ Below w.heap.size w w' := by
  have hlt : b < w.heap.size := by
    rcases Nat.lt_or_ge b w.heap.size with h | h
    · exact h
    · rw [show w.cell? ⟨b, off, none⟩ = none by simp [World.cell?, Array.getElem?_eq_none h]] at c0; cases c0
  obtain ⟨k, c, a, ww, s, f, x', l⟩ := h
  simp only at hk
  subst hk
  have e1 : ((na : Int) == 0) = false := by simp; omega
  have n1 : (0 : Int) < (na : Int) := by omega
  by_cases h1 : x < 0
  · go_enter Try.func50, Try.ntmps50
    go_wp2
    go_ret
    exact ⟨rfl, (Below.refl _ _).alloc (Nat.le_refl _) _⟩
  · have h2 : 32768 < x := by omega
    go_enter Try.func50, Try.ntmps50
    go_wp2
    go_ret
    exact ⟨rfl, (Below.refl _ _).alloc (Nat.le_refl _) _⟩

set_option maxRecDepth 20000 in
set_option maxHeartbeats 4000000 in
theorem RfitsText_some (h : Hd) (x : Int) (zs : List Int) (b off ca cs : Nat) (so : Option Addr) (w : World) (hz : zs.length ≤ 400) (hk : h.k = 4) (hx0 : 0 ≤ x) (hx : x ≤ 32768) (hca : zs.length + 1 ≤ ca)
    (c0 : w.cell? ⟨b, off, none⟩ = some (.int .i64 x)) (c1 : ∀ i, i < zs.length → w.cell? ⟨b, off + 1 + i, none⟩ = some (.int .i64 (zs.getD i 0))) :
    Calls Try.prog 50 #[AO h (.slice (some ⟨b, off, none⟩) (zs.length + 1) ca) (.slice so 0 cs)] w fun e w' => e = .returned (.bool (txE zs x == 0)) ∧ Below w.heap.size w w' := by
  obtain ⟨sa, hsa⟩ : ∃ sa : Option Addr, sa = if ca = 1 then some ⟨b, off, none⟩ else some ⟨b, off + 1, none⟩ := ⟨_, rfl⟩
  have HU : Hid (∀ W, Below w.heap.size w W → Calls Try.prog 63 #[.slice sa zs.length (ca - 1), .int .i64 x] W fun e w' => e = .returned (.tuple #[.string (txS zs x), .int .i64 (txE zs x)]) ∧ Below W.heap.size W w') := by
    intro W hW
    rw [← tx_eq]
    refine Tx.RUnpack_any _ zs x W ⟨sa, ca - 1, rfl, fun h0 => ⟨b, off + 1, ?_, fun i hi => cell_later hW (c1 i hi)⟩⟩ hz
    rw [hsa, if_neg (by omega)]
  have e1 : (((zs.length + 1 : Nat) : Int) == 0) = false := by simp; omega
  generalize zs.length = m at hz hca HU e1 c1 ⊢
  obtain ⟨u, hu⟩ : ∃ u, u = txE zs x := ⟨_, rfl⟩
  obtain ⟨s, hs⟩ : ∃ s, s = txS zs x := ⟨_, rfl⟩
  rw [← hu, ← hs] at HU
  rw [← hu]
  clear hu hs c1
  have hlt : b < w.heap.size := by
    rcases Nat.lt_or_ge b w.heap.size with h | h
    · exact h
    · rw [show w.cell? ⟨b, off, none⟩ = none by simp [World.cell?, Array.getElem?_eq_none h]] at c0; cases c0
  have x1 : ¬ x < 0 := by omega
  have x2 : ¬ 32768 < x := by omega
  have x3 : decide (x < 0) = false := by simp; omega
  have x4 : decide (32768 < x) = false := by simp; omega
  obtain ⟨k, c, a, ww, s', f, x', l⟩ := h
  simp only at hk
  subst hk
  go_enter Try.func50, Try.ntmps50
  go_wp2_with fail
  obtain ⟨G, hG⟩ : ∃ G, G = w.heap.size := ⟨_, rfl⟩
  have HB0 : Hid (Below w.heap.size w (w.alloc (.cells #[.int .i64 4, .int .i64 c, .int .i64 a, .int .i64 ww, .int .i64 s', .int .i64 f, .int .i64 x', .int .i64 l, (.slice (some ⟨b, off, none⟩) (m + 1) ca), .slice so 0 cs] 43))) := (Below.refl _ _).alloc (Nat.le_refl _) _
  have d8 : (w.alloc (.cells #[.int .i64 4, .int .i64 c, .int .i64 a, .int .i64 ww, .int .i64 s', .int .i64 f, .int .i64 x', .int .i64 l, (.slice (some ⟨b, off, none⟩) (m + 1) ca), .slice so 0 cs] 43)).cell? ⟨w.heap.size, 8, none⟩ = some (.slice (some ⟨b, off, none⟩) (m + 1) ca) := by rw [World.cell?_alloc_at _ _ _ _ rfl]; rfl
  generalize w.alloc (.cells #[.int .i64 4, .int .i64 c, .int .i64 a, .int .i64 ww, .int .i64 s', .int .i64 f, .int .i64 x', .int .i64 l, (.slice (some ⟨b, off, none⟩) (m + 1) ca), .slice so 0 cs] 43) = W at HB0 d8 ⊢
  have d0 : W.cell? ⟨b, off, none⟩ = some (.int .i64 x) := cell_later HB0.out c0
  have HU' : Hid (∀ w2, Below W.heap.size W w2 → Calls Try.prog 63 #[.slice sa m (ca - 1), .int .i64 x] w2 fun e w' => e = .returned (.tuple #[.string s, .int .i64 u]) ∧ Below w2.heap.size w2 w') := fun w2 h2 => HU.out w2 (HB0.out.trans (Below.mono h2 HB0.out.size))
  rw [← hG] at d8 ⊢
  clear HU c0
  refine region_quiet_class (C := fun w' => Below W.heap.size W w') (by kernel_rfl) (by kernel_rfl) (Below.refl _ _).drew ?_
  refine q_op (.pointer (some ⟨G, 8, none⟩)) (by kernel_rfl) (fun w2 hw2 => by simp [go_sem]) ?_
  simp only [Act.put, List.setIfInBounds_toArray, List.set_cons_zero, List.set_cons_succ]
  refine q_op (.slice (some ⟨b, off, none⟩) (m + 1) ca) (by kernel_rfl) (fun w2 hw2 => by simp [go_sem, cell_later hw2 d8]) ?_
  simp only [Act.put, List.setIfInBounds_toArray, List.set_cons_zero, List.set_cons_succ]
  refine q_op (.slice sa m (ca - 1)) (by kernel_rfl) (fun w2 hw2 => by rw [hsa]; simp [go_sem]; intro h1; omega) ?_
  simp only [Act.put, List.setIfInBounds_toArray, List.set_cons_zero, List.set_cons_succ]
  refine q_op (.pointer (some ⟨G, 8, none⟩)) (by kernel_rfl) (fun w2 hw2 => by simp [go_sem]) ?_
  simp only [Act.put, List.setIfInBounds_toArray, List.set_cons_zero, List.set_cons_succ]
  refine q_op (.slice (some ⟨b, off, none⟩) (m + 1) ca) (by kernel_rfl) (fun w2 hw2 => by simp [go_sem, cell_later hw2 d8]) ?_
  simp only [Act.put, List.setIfInBounds_toArray, List.set_cons_zero, List.set_cons_succ]
  refine q_op (.pointer (some ⟨b, off, none⟩)) (by kernel_rfl) (fun w2 hw2 => by simp [go_sem]) ?_
  simp only [Act.put, List.setIfInBounds_toArray, List.set_cons_zero, List.set_cons_succ]
  refine q_op (.int .i64 x) (by kernel_rfl) (fun w2 hw2 => by simp [go_sem, cell_later hw2 d0]) ?_
  simp only [Act.put, List.setIfInBounds_toArray, List.set_cons_zero, List.set_cons_succ]
  refine q_call 63 #[.slice sa m (ca - 1), .int .i64 x] (.tuple #[.string s, .int .i64 u]) (by kernel_rfl) (fun w2 hw2 => by simp [go_sem]) (fun w2 hw2 => (HU'.out w2 hw2).mono (fun e w3 ⟨he, hb⟩ => ⟨he, Below.trans hw2 (hb.mono (Below.size hw2))⟩)) ?_
  simp only [Act.put, List.setIfInBounds_toArray, List.set_cons_zero, List.set_cons_succ]
  refine q_op (.tuple #[.string s, .int .i64 u]) (by kernel_rfl) (fun w2 hw2 => by simp [go_sem]) ?_
  simp only [Act.put, List.setIfInBounds_toArray, List.set_cons_zero, List.set_cons_succ]
  refine q_op (.string s) (by kernel_rfl) (fun w2 hw2 => by simp [go_sem]) ?_
  simp only [Act.put, List.setIfInBounds_toArray, List.set_cons_zero, List.set_cons_succ]
  refine q_op (.int .i64 u) (by kernel_rfl) (fun w2 hw2 => by simp [go_sem]) ?_
  simp only [Act.put, List.setIfInBounds_toArray, List.set_cons_zero, List.set_cons_succ]
  refine q_op (.string s) (by kernel_rfl) (fun w2 hw2 => by simp [go_sem]) ?_
  simp only [Act.put, List.setIfInBounds_toArray, List.set_cons_zero, List.set_cons_succ]
  refine q_op (.int .i64 u) (by kernel_rfl) (fun w2 hw2 => by simp [go_sem]) ?_
  simp only [Act.put, List.setIfInBounds_toArray, List.set_cons_zero, List.set_cons_succ]
  refine wpQuiet_nil ?_
  intro w3 H3
  have HB3 : Hid (Below w.heap.size w w3) := HB0.out.trans (Below.mono H3 HB0.out.size)
  clear H3
  rw [hG] 
  go_wp2
  go_ret
  exact ⟨rfl, HB3.out⟩
end Go.Proofs.Ytnmchcanijkggaa
