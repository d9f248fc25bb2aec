/- Text, has, New; what keeps a table. -/
import Derived.Test.YtnfamebihpnjlaaS3
namespace Go.Proofs.Ytnfamebihpnjlaa
open Go.RowKit
set_option linter.unusedSimpArgs false
set_option linter.unusedVariables false

theorem row_kept {S : Nat → Prop} {w w' : World} {B e sz n : Nat} {v : Value} {xs : List Value} (h : w.ownsRow B e sz v n xs) (hk : Kept S w w') (hn : ∀ g, v.ownBlock = some g → ¬ S g) : w'.ownsRow B e sz v n xs := by
  refine ⟨h.1, h.2.imp id ?_⟩
  rintro ⟨g, cap, cur, h1, h2, h3, h4⟩
  exact ⟨g, cap, cur, h1, h2, hk.heap h3 (hn g (by rw [h1]; rfl)), h4⟩

theorem Rep.kept {S : Nat → Prop} {w w' : World} {B A C M n p nn : Nat} {vs : List Value} {L : List Ent} (h : Rep w B A C M n p nn vs L) (hk : Kept S w w') (hS : ∀ k, FP A C M vs k → ¬ S k) : Rep w' B A C M n p nn vs L :=
  { hA := hk.heap h.hA (hS A (Or.inl rfl)), hC := hk.heap h.hC (hS C (Or.inr (Or.inl rfl))), len := h.len, n1 := h.n1, n2 := h.n2, pb := h.pb, nb := h.nb, map := h.map.kept hk (hS M (Or.inr (Or.inr (Or.inl rfl)))),
    row := fun b hb => row_kept (h.row b hb) hk (fun g hg => hS g (Or.inr (Or.inr (Or.inr ⟨_, List.getElem_mem hb, hg⟩)))), apart := h.apart, bA := h.bA, bC := h.bC, bM := h.bM, good := h.good }
theorem Rep.no {w w' : World} {B A C M n p nn : Nat} {vs : List Value} {L : List Ent} (h : Rep w B A C M n p nn vs L) (hk : Kept No w w') : Rep w' B A C M n p nn vs L := h.kept hk (fun _ _ e => e)
theorem Rep.fp_lt {w : World} {B A C M n p nn : Nat} {vs : List Value} {L : List Ent} (h : Rep w B A C M n p nn vs L) {k : Nat} (hk : FP A C M vs k) : B ≤ k ∧ k < w.heap.size := by
  rcases hk with rfl | rfl | rfl | ⟨v, hv, hk⟩
  · exact ⟨h.bA, hp_lt h.hA⟩
  · exact ⟨h.bC, hp_lt h.hC⟩
  · exact ⟨h.bM, h.map.lt⟩
  · obtain ⟨b, hb, rfl⟩ := List.getElem_of_mem hv
    exact (h.row b hb).lt k hk
theorem Rep.ne {w : World} {B A C M n p nn : Nat} {vs : List Value} {L : List Ent} (h : Rep w B A C M n p nn vs L) : A ≠ C ∧ M ≠ A ∧ M ≠ C := by
  refine ⟨fun e => ?_, h.map.not_cells h.hA, h.map.not_cells h.hC⟩
  have h1 := h.hA
  rw [e, h.hC] at h1
  unfold tb chO at h1
  injection h1 with h1
  injection h1 with _ h2
  cases h2
theorem Rep.row_ne {w : World} {B A C M n p nn : Nat} {vs : List Value} {L : List Ent} (h : Rep w B A C M n p nn vs L) {b : Nat} (hb : b < vs.length) {g : Nat} (hg : vs[b].ownBlock = some g) : g ≠ A ∧ g ≠ C ∧ g ≠ M := by
  rcases (h.row b hb).2 with ⟨h1, _⟩ | ⟨g', cap, cur, h1, h2, h3, h4⟩
  · rw [h1] at hg; cases hg
  · rw [h1] at hg
    simp [Value.ownBlock] at hg
    subst hg
    refine ⟨fun e => ?_, fun e => ?_, fun e => h.map.not_cells h3 e.symm⟩
    · subst e
      have h5 := h.hA
      rw [h3] at h5
      unfold tb at h5
      injection h5 with h5
      injection h5 with _ h6
      cases h6
    · subst e
      have h5 := h.hC
      rw [h3] at h5
      unfold chO at h5
      injection h5 with h5
      injection h5 with _ h6
      cases h6

/-- What Text answers. -/
def textV (L : List Ent) (h : Int) : Value := .tuple #[.string ((lookE L h).getD i0).1, .bool (lookE L h).isSome]

set_option maxHeartbeats 400000 in
theorem Text_any {w : World} {B A C M n p nn : Nat} {vs : List Value} {L : List Ent} (h : Rep w B A C M n p nn vs L) (x : Int) (hx : wf x) :
    Calls Try.prog 19 #[.pointer (some ⟨A, 0, none⟩), .int .i64 x] w fun e w' => e = .returned (textV L x) ∧ Kept No w w' := by
  have HA : Hid (w.heap[A]? = some (tb C n M p)) := h.hA
  obtain ⟨a0, a1, a2⟩ := tb_cells h.hA
  obtain ⟨y, hy⟩ : ∃ y, y = (lookE L x).getD i0 := ⟨_, rfl⟩
  obtain ⟨t, ht⟩ : ∃ t, t = (lookE L x).isSome := ⟨_, rfl⟩
  have hl : (Instr.lookup 59 (.map (some M)) (.int .i64 x) true).run Try.prog w = .ok (.tuple #[.agg #[.string y.1, .int .i64 y.2], .bool t]) w := by rw [h.map.look2 hx, hy, ht]; rfl
  unfold textV
  rw [← hy, ← ht]
  clear h hy ht
  go_enter Try.func19, Try.ntmps19
  go_wp2_with (go_at_call 33; refine (made_any _ HA.out).mono ?_; rintro e w' ⟨rfl, rfl⟩)
  go_ret2
  exact ⟨rfl, (Kept.refl _ _).alloc _⟩

/-- Is the text there, or the handle? -/
def hasB (L : List Ent) (s : ByteArray) (x : Int) : Bool := (lookE L x).isSome || (find L s).isSome

set_option maxHeartbeats 400000 in
theorem has_any {w : World} {B A C M n p nn : Nat} {vs : List Value} {L : List Ent} (h : Rep w B A C M n p nn vs L) (s : ByteArray) (hs : s.size ≤ maxLen) (x : Int) (hx : wf x) :
    Calls Try.prog 38 #[.pointer (some ⟨A, 0, none⟩), .string s, .int .i64 x] w fun e w' => e = .returned (.bool (hasB L s x)) ∧ Kept No w w' := by
  have HA : Hid (w.heap[A]? = some (tb C n M p)) := h.hA
  obtain ⟨a0, a1, a2⟩ := tb_cells h.hA
  obtain ⟨y, hy⟩ : ∃ y, y = (lookE L x).getD i0 := ⟨_, rfl⟩
  obtain ⟨t, ht⟩ : ∃ t, t = (lookE L x).isSome := ⟨_, rfl⟩
  have hl : (Instr.lookup 59 (.map (some M)) (.int .i64 x) true).run Try.prog w = .ok (.tuple #[.agg #[.string y.1, .int .i64 y.2], .bool t]) w := by rw [h.map.look2 hx, hy, ht]; rfl
  have HR : Hid (Rep w B A C M n p nn vs L) := h
  have HS : Hid (s.size ≤ maxLen) := hs
  unfold hasB
  rw [← ht]
  clear h hy ht
  go_enter Try.func38, Try.ntmps38
  go_wp2_with fail
  refine (Find_any (HR.out.no ((Kept.refl _ _).alloc _)) s HS.out).mono ?_
  rintro e w1 ⟨rfl, m, rfl⟩
  unfold findV
  generalize (find L s).getD 0 = f1
  obtain ⟨f2, hf2⟩ : ∃ f2, Hid (f2 = (find L s).isSome) := ⟨_, rfl⟩
  rw [← hf2.out]
  cases t
  · go_wp2
    go_ret
    exact ⟨by rw [← hf2.out]; simp, ((Kept.refl _ _).alloc _).drewN _⟩
  · go_wp2
    go_ret
    exact ⟨by rw [← hf2.out]; simp, ((Kept.refl _ _).alloc _).drewN _⟩

theorem info42 : (Try.prog.info? 42).map (fun i => (i.zero, i.size, i.bytes)) = some (some nilS, 1, 24) := by kernel_rfl

theorem run_mk (n : Nat) (hn : n ≤ 1000000) (w : World) : (Instr.makeSlice 58 (.int .i64 (n : Int)) (.int .i64 (n : Int))).run Try.prog w = .ok (.slice (some ⟨w.heap.size, 0, none⟩) n n) (w.alloc (chO (List.replicate n nilS))) := by
  obtain ⟨i0, hi, hz0, hz1, hz2⟩ := info_parts info42
  rw [run_make w 58 42 i0 nilS Try.underlying58 hi hz0 .i64 .i64 (n : Int) (n : Int) (by omega) (Int.le_refl _) (by rw [hz2]; omega) (by omega)]
  rw [hz1, Int.toNat_natCast, Nat.mul_one]
  have : madeCells nilS.cells n = (List.replicate n nilS).toArray := by
    apply Array.ext
    · simp [madeCells]
    · intro i h1 h2
      simp [madeCells, Value.cells, Nat.mod_one]
  rw [this]; rfl

theorem cL_nil (n b : Nat) : cL [] n b = [] := rfl
theorem good_nil : Good [] 0 := ⟨by simp, by simp, by simp, by simp, by simp, by simp⟩

/-- A table without texts. -/
theorem Rep.new {w : World} {B A C M : Nat} (n : Nat) (hA : w.heap[A]? = some (tb C n M 0)) (hC : w.heap[C]? = some (chO (List.replicate n nilS))) (n1 : 4 ≤ n) (n2 : n ≤ 100000) (hM : MapIs w M 0 0 (fun _ => none)) (bA : B ≤ A) (bC : B ≤ C) (bM : B ≤ M) :
    Rep w B A C M n 0 0 (List.replicate n nilS) [] :=
  { hA := hA, hC := hC, len := by simp, n1 := n1, n2 := n2, pb := Nat.zero_le _, nb := Nat.zero_le _, map := hM.congr rfl (fun _ => rfl),
    row := fun b hb => by
      rw [List.getElem_replicate]; exact World.ownsRow_nil _ _ _ _
    apart := fun b b' hb hb' g _ h1 => by
      rw [List.getElem_replicate] at h1; cases h1
    bA := bA, bC := bC, bM := bM, good := good_nil }

set_option maxRecDepth 100000 in
set_option maxHeartbeats 400000 in
theorem New_any (w : World) :
    Calls Try.prog 9 #[] w fun e w' => ∃ A C M, e = .returned (.pointer (some ⟨A, 0, none⟩)) ∧ Rep w' w.heap.size A C M 4 0 0 (List.replicate 4 nilS) [] ∧ Kept No w w' := by
  have hmk : ∀ w : World, (Instr.makeSlice 58 (.int .i64 4) (.int .i64 4)).run Try.prog w = .ok (.slice (some ⟨w.heap.size, 0, none⟩) 4 4) (w.alloc (chO (List.replicate 4 nilS))) := fun w => run_mk 4 (by decide) w
  have hmm := @run_makeMap Try.prog
  go_enter Try.func9, Try.ntmps9
  go_wp2
  go_ret
  have h2 := World.alloc_heap_new w (chO (List.replicate 4 nilS))
  have h3 := MapIs.made (w.alloc (chO (List.replicate 4 nilS)))
  have h4 := World.alloc_heap_new ((w.alloc (chO (List.replicate 4 nilS))).alloc (.map #[] 0)) (tb w.heap.size 4 (w.heap.size + 1) 0)
  simp only [World.size_alloc] at h3 h4
  refine ⟨_, w.heap.size, w.heap.size + 1, rfl, Rep.new 4 h4 ((((Kept.refl No _).alloc _).alloc _).heap h2 id) (by decide) (by decide) (h3.kept ((Kept.refl No _).alloc _) id) (by omega) (Nat.le_refl _) (by omega), (((Kept.refl _ _).alloc _).alloc _).alloc _⟩
end Go.Proofs.Ytnfamebihpnjlaa
