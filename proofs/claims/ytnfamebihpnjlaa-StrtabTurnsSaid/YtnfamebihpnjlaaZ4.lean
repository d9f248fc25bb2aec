/- A table by its blocks, so that two can stand side by side. -/
import Derived.Test.YtnfamebihpnjlaaZ0
namespace Go.Proofs.Ytnfamebihpnjlaa
open Go.RowKit
set_option linter.unusedVariables false
set_option linter.unusedSimpArgs false

/-- A table whose blocks are among F. -/
def TabF (w : World) (B A : Nat) (F : Nat → Prop) (b : Nat) (C : Ct) : Prop :=
  ∃ p n L C' M vs, p ≤ b ∧ Rep w B A C' M n p p vs L ∧ Inv4 n p L.length ∧ (ct L).Perm C ∧ ∀ k, FP A C' M vs k → F k
section
variable {w w' : World} {B A b : Nat} {F : Nat → Prop} {C : Ct}
theorem TabF.kept (h : TabF w B A F b C) {S : Nat → Prop} (hk : Kept S w w') (hS : ∀ k, F k → ¬ S k) : TabF w' B A F b C := by
  obtain ⟨p, n, L, C', M, vs, h1, h2, h3, h4, h5⟩ := h
  exact ⟨p, n, L, C', M, vs, h1, h2.kept hk (fun k hF => hS k (h5 k hF)), h3, h4, h5⟩
theorem TabF.no (h : TabF w B A F b C) (hk : Kept No w w') : TabF w' B A F b C := h.kept hk (fun _ _ e => e)
theorem TabF.mono (h : TabF w B A F b C) {G : Nat → Prop} (hG : ∀ k, F k → G k) : TabF w B A G b C := by
  obtain ⟨p, n, L, C', M, vs, h1, h2, h3, h4, h5⟩ := h
  exact ⟨p, n, L, C', M, vs, h1, h2, h3, h4, fun k hk => hG k (h5 k hk)⟩
theorem TabF.now (h : TabF w B A F b C) : TabF w B A (fun k => F k ∧ k < w.heap.size) b C := by
  obtain ⟨p, n, L, C', M, vs, h1, h2, h3, h4, h5⟩ := h
  exact ⟨p, n, L, C', M, vs, h1, h2, h3, h4, fun k hk => ⟨h5 k hk, (h2.fp_lt hk).2⟩⟩
theorem Tab.toF {w0 : World} (h : Tab w0 w A b C) : TabF w w0.heap.size A (fun k => w0.heap.size ≤ k ∧ k < w.heap.size) b C := by
  obtain ⟨p, n, L, hp, ⟨C', M, vs, h1, h2⟩, hI, hc⟩ := h
  exact ⟨p, n, L, C', M, vs, hp, h1, hI, hc, fun k hk => h1.fp_lt hk⟩
theorem TabF.more (h : TabF w B A F b C) {b' : Nat} (hb : b ≤ b') : TabF w B A F b' C := by
  obtain ⟨p, r⟩ := h
  obtain ⟨n, L, C', M, vs, h1, r⟩ := r
  exact ⟨p, n, L, C', M, vs, by omega, r⟩
theorem TabF.good (h : TabF w B A F b C) : GoodC C := by
  obtain ⟨p, n, L, C', M, vs, hp, hR, hI, hc, _⟩ := h
  have g := hR.good
  refine ⟨(hc.map Prod.fst).nodup_iff.1 (by unfold ct; rw [List.map_map]; exact g.hnd), (hc.map fun e => e.2.data.toList).nodup_iff.1 (by unfold ct; rw [List.map_map]; exact g.snd), fun e he => ?_, fun e he => ?_⟩
  · obtain ⟨y, hy, rfl⟩ := (ct_mem hc).1 he; exact (g.pos y hy).1
  · obtain ⟨y, hy, rfl⟩ := (ct_mem hc).1 he; exact g.siz y hy

theorem TabF.put (h : TabF w B A F b C) (hN : ∀ k, w.heap.size ≤ k → F k) (hb : b ≤ 10000) (s : ByteArray) (hs : s.size ≤ maxLen) (x : Int) (hx1 : 1 ≤ x) (hx2 : x ≤ 9223372036854775807) :
    Calls Try.prog 27 #[.pointer (some ⟨A, 0, none⟩), .string s, .int .i64 x] w fun e w' => Kept F w w' ∧
      ((hasC C s x ∧ e = .returned (.int .i64 17) ∧ TabF w' B A F (b + 1) C) ∨ (¬ hasC C s x ∧ e = .returned (.int .i64 0) ∧ TabF w' B A F (b + 1) (C ++ [(x, s)]))) := by
  obtain ⟨p, n, L, C', M, vs, hp, h1, hI, hc, hF⟩ := h
  cases hh : hasB L s x with
  | true =>
    refine (Put_there h1 s hs x hx1 hx2 hh).mono ?_
    rintro e w' ⟨rfl, hk⟩
    exact ⟨hk.no, Or.inl ⟨(hasB_iff hc s x).1 hh, rfl, p, n, L, C', M, vs, by omega, h1.no hk, hI, hc, hF⟩⟩
  | false =>
    have hn : ¬ hasC C s x := fun h => by have := (hasB_iff hc s x).2 h; rw [hh] at this; cases this
    by_cases hr : L.length + 1 ≤ n
    · refine (Put_front h1 s hs x hx1 hx2 hh (by omega) hr).mono ?_
      rintro e w' ⟨rfl, vs', h3, h4, h5⟩
      exact ⟨h4.mono hF, Or.inr ⟨hn, rfl, p + 1, n, _, C', M, vs', by omega, h3, by simpa using hI.more hr, by rw [ct_snoc]; exact hc.append_right _, fun k hk => (h5 k hk).elim (hF k) (hN k)⟩⟩
    · have hle := h1.map.le
      have hbd := hI.bd
      refine (Put_more h1 s hs x hx1 hx2 hh (by omega) (by omega) (by omega) (by omega)).mono ?_
      rintro e w' ⟨rfl, C2, vs2, L2, hp2, h3, h4, h5⟩
      have hl2 : L2.length = L.length + 1 := by rw [hp2.length_eq]; simp
      refine ⟨h4.mono hF, Or.inr ⟨hn, rfl, p + 1, 2 * n, L2, C2, M, vs2, by omega, h3, by rw [hl2]; exact hI.twice (by omega) hle, ?_, fun k hk => (h5 k hk).elim (hF k) (hN k)⟩⟩
      have := (hp2.map fun e => (e.h, e.s)).trans (by rw [← ct, ct_snoc]; exact hc.append_right _ : (List.map (fun e : Ent => (e.h, e.s)) (L ++ [⟨x, s, p + 1⟩])).Perm (C ++ [(x, s)]))
      exact this
theorem TabF.drop (h : TabF w B A F b C) (hN : ∀ k, w.heap.size ≤ k → F k) (hb : b ≤ 10000) (x : Int) (hx : ∃ y ∈ C, y.1 = x) :
    Calls Try.prog 29 #[.pointer (some ⟨A, 0, none⟩), .int .i64 x] w fun e w' => Kept F w w' ∧ e = .returned (.int .i64 0) ∧ TabF w' B A F b (C.filter (fun e => e.1 != x)) := by
  obtain ⟨p, n, L, C', M, vs, hp, h1, hI, hc, hF⟩ := h
  obtain ⟨y, hy, hyx⟩ := hx
  obtain ⟨e, he, h4⟩ := (ct_mem hc).1 hy
  obtain rfl : e.h = x := by rw [← hyx, ← h4]
  have hlen := rm_length h1.good.hnd he
  have hle := h1.map.le
  by_cases hr : n ≤ 4 ∨ n ≤ 4 * (L.length - 1) + 3
  · refine (Drop_front h1 he hr).mono ?_
    rintro r w' ⟨rfl, vs', h3, h4, h5⟩
    exact ⟨h4.mono hF, rfl, p, n, _, C', M, vs', hp, h3, by rw [hlen]; exact hI.less hr, by rw [ct_rm]; exact hc.filter _, fun k hk => (h5 k hk).elim (hF k) (hN k)⟩
  · have h4 : ¬ n ≤ 4 := fun h => hr (Or.inl h)
    have h5 : 4 * (L.length - 1) + 3 < n := by omega
    obtain ⟨h8, hI2⟩ := hI.half h4 h5
    refine (Drop_fewer h1 he h8 h5 (by omega)).mono ?_
    rintro r w' ⟨rfl, C2, vs2, L2, hp2, h3, h4', h6⟩
    have hl2 : L2.length = L.length - 1 := by rw [hp2.length_eq, hlen]
    refine ⟨h4'.mono hF, rfl, p, n / 2, L2, C2, M, vs2, hp, h3, by rw [hl2]; exact hI2, ?_, fun k hk => (h6 k hk).elim (hF k) (hN k)⟩
    have e1 : (ct L2).Perm (ct (rm L e.h)) := hp2.map _
    rw [ct_rm] at e1
    exact e1.trans (hc.filter _)
theorem TabF.find (h : TabF w B A F b C) (s : ByteArray) (hs : s.size ≤ maxLen) :
    Calls Try.prog 17 #[.pointer (some ⟨A, 0, none⟩), .string s] w fun e w' => ∃ o, e = .returned (fndV o) ∧ (∀ x, o = some x ↔ (x, s) ∈ C) ∧ Kept No w w' := by
  obtain ⟨p, n, L, C', M, vs, hp, h1, hI, hc, hF⟩ := h
  exact h1.findC hc s hs
theorem TabF.len (h : TabF w B A F b C) : Calls Try.prog 15 #[.pointer (some ⟨A, 0, none⟩)] w fun e w' => e = .returned (.int .i64 (C.length : Nat)) ∧ w = w' := by
  obtain ⟨p, n, L, C', M, vs, hp, h1, hI, hc, hF⟩ := h
  have : L.length = C.length := by rw [← hc.length_eq]; simp [ct]
  rw [← this]; exact Len_any w h1.hA h1.map
end

end Go.Proofs.Ytnfamebihpnjlaa
