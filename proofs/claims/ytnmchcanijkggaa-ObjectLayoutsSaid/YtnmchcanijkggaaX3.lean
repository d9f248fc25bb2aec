/- What texts ask. -/
import Derived.Test.YtnmchcanijkggaaX2
namespace Go.Proofs.Ytnmchcanijkggaa
open Go.RowKit Go.Lib
set_option linter.unusedVariables false
set_option linter.unusedSimpArgs false

/-- The error that Unpack tells. -/
def txE (zs : List Int) (n : Int) : Int := if n < 0 ∨ zs.length ≠ (n.toNat + 7) / 8 then 1 else if ((Tx.flat zs).drop n.toNat).all (· == 0) then 0 else 6
/-- The text that Unpack gives. -/
def txS (zs : List Int) (n : Int) : ByteArray := if n < 0 ∨ zs.length ≠ (n.toNat + 7) / 8 then ⟨#[]⟩ else if ((Tx.flat zs).drop n.toNat).all (· == 0) then Tx.str ((Tx.flat zs).take n.toNat) else ⟨#[]⟩
theorem tx_eq (zs : List Int) (n : Int) : Tx.unpackT zs n = .tuple #[.string (txS zs n), .int .i64 (txE zs n)] := by
  unfold Tx.unpackT txS txE
  split
  · rfl
  · split <;> rfl

set_option maxHeartbeats 2000000 in
theorem fitsText_no (h : Hd) (ao so : Option Addr) (na ca ns cs : Nat) (w : World) (hn : na = 0 ∨ ns ≠ 0) :
    Calls Try.prog 56 #[AO h (.slice ao na ca) (.slice so ns cs)] w fun e w' => e = .returned (.bool false) ∧ Below w.heap.size w w' := by
  by_cases h1 : na = 0
  · subst h1
    go_enter Try.func56, Try.ntmps56
    go_wp2
    go_ret
    exact ⟨rfl, (Below.refl _ _).alloc (Nat.le_refl _) _⟩
  · have e1 : ((na : Int) == 0) = false := by simp; omega
    have e2 : ((ns : Int) != 0) = true := by simp; omega
    clear h1 hn
    go_enter Try.func56, Try.ntmps56
    go_wp2
    go_ret
    exact ⟨rfl, (Below.refl _ _).alloc (Nat.le_refl _) _⟩

set_option maxHeartbeats 2000000 in
theorem fitsText_some (h : Hd) (x : Int) (zs : List Int) (b off ca cs : Nat) (so : Option Addr) (w : World) (hz : zs.length ≤ 400) (hx : x ≤ 9223372036854775807) (hca : zs.length + 1 ≤ ca)
    (c0 : w.cell? ⟨b, off, none⟩ = some (.int .i64 x)) (c1 : ∀ i, i < zs.length → w.cell? ⟨b, off + 1 + i, none⟩ = some (.int .i64 (zs.getD i 0))) :
    Calls Try.prog 56 #[AO h (.slice (some ⟨b, off, none⟩) (zs.length + 1) ca) (.slice so 0 cs)] w fun e w' => e = .returned (.bool (txE zs x == 0)) ∧ Below w.heap.size w w' := by
  obtain ⟨sa, hsa⟩ : ∃ sa : Option Addr, sa = if ca = 1 then some ⟨b, off, none⟩ else some ⟨b, off + 1, none⟩ := ⟨_, rfl⟩
  have HU : Hid (∀ W, Below w.heap.size w W → Calls Try.prog 66 #[.slice sa zs.length (ca - 1), .int .i64 x] W fun e w' => e = .returned (.tuple #[.string (txS zs x), .int .i64 (txE zs x)]) ∧ Below W.heap.size W w') := by
    intro W hW
    rw [← tx_eq]
    refine Tx.Unpack_any _ zs x W ⟨sa, ca - 1, rfl, fun h0 => ⟨b, off + 1, ?_, fun i hi => cell_later hW (c1 i hi)⟩⟩ hz hx
    rw [hsa, if_neg (by omega)]
  have e1 : (((zs.length + 1 : Nat) : Int) == 0) = false := by simp; omega
  generalize zs.length = m at hz hca HU e1 c1 ⊢
  obtain ⟨u, hu⟩ : ∃ u, u = txE zs x := ⟨_, rfl⟩
  obtain ⟨s, hs⟩ : ∃ s, s = txS zs x := ⟨_, rfl⟩
  rw [← hu, ← hs] at HU
  rw [← hu]
  clear hu hs c1
  go_enter Try.func56, Try.ntmps56
  go_wp2_with fail
  obtain ⟨G, hG⟩ : ∃ G, G = w.heap.size := ⟨_, rfl⟩
  have HB0 : Hid (Below w.heap.size w (w.alloc (.cells #[.int .i64 h.k, .int .i64 h.c, .int .i64 h.a, .int .i64 h.w, .int .i64 h.s, .int .i64 h.f, .int .i64 h.x, .int .i64 h.l, (.slice (some ⟨b, off, none⟩) (m + 1) ca), .slice so 0 cs] 43))) := (Below.refl _ _).alloc (Nat.le_refl _) _
  have d8 : (w.alloc (.cells #[.int .i64 h.k, .int .i64 h.c, .int .i64 h.a, .int .i64 h.w, .int .i64 h.s, .int .i64 h.f, .int .i64 h.x, .int .i64 h.l, (.slice (some ⟨b, off, none⟩) (m + 1) ca), .slice so 0 cs] 43)).cell? ⟨w.heap.size, 8, none⟩ = some (.slice (some ⟨b, off, none⟩) (m + 1) ca) := by rw [World.cell?_alloc_at _ _ _ _ rfl]; rfl
  generalize w.alloc (.cells #[.int .i64 h.k, .int .i64 h.c, .int .i64 h.a, .int .i64 h.w, .int .i64 h.s, .int .i64 h.f, .int .i64 h.x, .int .i64 h.l, (.slice (some ⟨b, off, none⟩) (m + 1) ca), .slice so 0 cs] 43) = W at HB0 d8 ⊢
  have d0 : W.cell? ⟨b, off, none⟩ = some (.int .i64 x) := cell_later HB0.out c0
  have HU' : Hid (∀ w2, Below W.heap.size W w2 → Calls Try.prog 66 #[.slice sa m (ca - 1), .int .i64 x] w2 fun e w' => e = .returned (.tuple #[.string s, .int .i64 u]) ∧ Below w2.heap.size w2 w') := fun w2 h2 => HU.out w2 (HB0.out.trans (Below.mono h2 HB0.out.size))
  rw [← hG] at d8 ⊢
  clear HU c0
  refine region_quiet_class (C := fun w' => Below W.heap.size W w') (by kernel_rfl) (by kernel_rfl) (Below.refl _ _).drew ?_
  refine q_op (.pointer (some ⟨G, 8, none⟩)) (by kernel_rfl) (fun w2 hw2 => by simp [go_sem]) ?_
  simp only [Act.put, List.setIfInBounds_toArray, List.set_cons_zero, List.set_cons_succ]
  refine q_op (.slice (some ⟨b, off, none⟩) (m + 1) ca) (by kernel_rfl) (fun w2 hw2 => by simp [go_sem, cell_later hw2 d8]) ?_
  simp only [Act.put, List.setIfInBounds_toArray, List.set_cons_zero, List.set_cons_succ]
  refine q_op (.slice sa m (ca - 1)) (by kernel_rfl) (fun w2 hw2 => by rw [hsa]; simp [go_sem]; intro h1; omega) ?_
  simp only [Act.put, List.setIfInBounds_toArray, List.set_cons_zero, List.set_cons_succ]
  refine q_op (.pointer (some ⟨G, 8, none⟩)) (by kernel_rfl) (fun w2 hw2 => by simp [go_sem]) ?_
  simp only [Act.put, List.setIfInBounds_toArray, List.set_cons_zero, List.set_cons_succ]
  refine q_op (.slice (some ⟨b, off, none⟩) (m + 1) ca) (by kernel_rfl) (fun w2 hw2 => by simp [go_sem, cell_later hw2 d8]) ?_
  simp only [Act.put, List.setIfInBounds_toArray, List.set_cons_zero, List.set_cons_succ]
  refine q_op (.pointer (some ⟨b, off, none⟩)) (by kernel_rfl) (fun w2 hw2 => by simp [go_sem]) ?_
  simp only [Act.put, List.setIfInBounds_toArray, List.set_cons_zero, List.set_cons_succ]
  refine q_op (.int .i64 x) (by kernel_rfl) (fun w2 hw2 => by simp [go_sem, cell_later hw2 d0]) ?_
  simp only [Act.put, List.setIfInBounds_toArray, List.set_cons_zero, List.set_cons_succ]
  refine q_call 66 #[.slice sa m (ca - 1), .int .i64 x] (.tuple #[.string s, .int .i64 u]) (by kernel_rfl) (fun w2 hw2 => by simp [go_sem]) (fun w2 hw2 => (HU'.out w2 hw2).mono (fun e w3 ⟨he, hb⟩ => ⟨he, Below.trans hw2 (hb.mono (Below.size hw2))⟩)) ?_
  simp only [Act.put, List.setIfInBounds_toArray, List.set_cons_zero, List.set_cons_succ]
  refine q_op (.tuple #[.string s, .int .i64 u]) (by kernel_rfl) (fun w2 hw2 => by simp [go_sem]) ?_
  simp only [Act.put, List.setIfInBounds_toArray, List.set_cons_zero, List.set_cons_succ]
  refine q_op (.string s) (by kernel_rfl) (fun w2 hw2 => by simp [go_sem]) ?_
  simp only [Act.put, List.setIfInBounds_toArray, List.set_cons_zero, List.set_cons_succ]
  refine q_op (.int .i64 u) (by kernel_rfl) (fun w2 hw2 => by simp [go_sem]) ?_
  simp only [Act.put, List.setIfInBounds_toArray, List.set_cons_zero, List.set_cons_succ]
  refine q_op (.string s) (by kernel_rfl) (fun w2 hw2 => by simp [go_sem]) ?_
  simp only [Act.put, List.setIfInBounds_toArray, List.set_cons_zero, List.set_cons_succ]
  refine q_op (.int .i64 u) (by kernel_rfl) (fun w2 hw2 => by simp [go_sem]) ?_
  simp only [Act.put, List.setIfInBounds_toArray, List.set_cons_zero, List.set_cons_succ]
  refine wpQuiet_nil ?_
  intro w3 H3
  have HB3 : Hid (Below w.heap.size w w3) := HB0.out.trans (Below.mono H3 HB0.out.size)
  clear H3
  rw [hG] 
  go_wp2
  go_ret
  exact ⟨rfl, HB3.out⟩
end Go.Proofs.Ytnmchcanijkggaa
