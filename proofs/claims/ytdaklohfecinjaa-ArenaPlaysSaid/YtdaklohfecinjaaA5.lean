/- lay: a block's cells are moved. -/
import Derived.Test.YtdaklohfecinjaaA4
import Derived.Deep.RegionHeld3
namespace Go.Proofs.Ytdaklohfecinjaa
open Go.RowKit
set_option linter.unusedSimpArgs false
set_option linter.unusedVariables false

/-- What lay leaves. -/
def layC (xs : List Int) (ba k at' n : Nat) : List Int := putL (putL xs at' ((xs.drop ba).take k)) (at' + k) (List.replicate (n - k) 0)

theorem cl_nd {w : World} {C b a s : Nat} {xs : List Int} {p n : Option Nat} (hC : w.heap[C]? = some (cl xs)) (hb : w.heap[b]? = some (nd a s p n)) : C ≠ b := by
  intro e; subst e; rw [hC] at hb; simp [cl, nd] at hb
theorem cl_ar {w : World} {A C C' M F f size least : Nat} {xs : List Int} (hC : w.heap[C]? = some (cl xs)) (hA : w.heap[A]? = some (ar C' M F f size least)) : C ≠ A := by
  intro e; subst e; rw [hC] at hA; simp [cl, ar] at hA

theorem elem51 : Try.prog.elem 51 = 2 := by kernel_rfl
theorem und51 : Try.prog.underlying 51 = some (.slice (Try.prog.elem 51)) := by rw [elem51]; exact Try.underlying51

theorem run_sl (w : World) (C size l h n : Nat) (hn : l + n = h) (h2 : h ≤ size) (h3 : l < size) :
    (Instr.slice 51 (.slice (some ⟨C, 0, none⟩) size size) (some (.int .i64 (l : Int))) (some (.int .i64 (h : Int))) none).run Try.prog w = .ok (.slice (some ⟨C, l, none⟩) n (size - l)) w := by
  rw [run_slice_lh w 51 _ size size und51 .i64 .i64 _ _ (by omega) (by omega) (by omega)]
  have e2 : (sizeOf (Try.prog.elem 51)).run Try.prog w = .ok 1 w := by
    rw [elem51]; kernel_rfl
  rw [e2]
  simp only [Result.andThen, sliced, Int.toNat_natCast]
  rw [if_neg (by omega)]
  have hadd : (⟨C, 0, none⟩ : Addr).add (l * 1) = ⟨C, l, none⟩ := by unfold Addr.add; split <;> simp_all
  rw [Option.map_some, hadd, show h - l = n by omega]
theorem run_sl_end (w : World) (C size : Nat) (l h : Int) (hl : l = (size : Int)) (hh : h = (size : Int)) :
    (Instr.slice 51 (.slice (some ⟨C, 0, none⟩) size size) (some (.int .i64 l)) (some (.int .i64 h)) none).run Try.prog w = .ok (.slice (some ⟨C, 0, none⟩) 0 0) w := by
  subst hl hh
  rw [run_slice_lh w 51 _ size size und51 .i64 .i64 _ _ (by omega) (by omega) (by omega)]
  have e2 : (sizeOf (Try.prog.elem 51)).run Try.prog w = .ok 1 w := by
    rw [elem51]; kernel_rfl
  rw [e2]
  simp [Result.andThen, sliced]
theorem run_sl' (w : World) (C size l n : Nat) (h2 : l + n ≤ size) (h3 : l < size) :
    (Instr.slice 51 (.slice (some ⟨C, 0, none⟩) size size) (some (.int .i64 (l : Int))) (some (.int .i64 ((l : Int) + (n : Int)))) none).run Try.prog w = .ok (.slice (some ⟨C, l, none⟩) n (size - l)) w := by
  have := run_sl w C size l (l + n) n rfl h2 h3
  rwa [Int.natCast_add] at this

set_option maxHeartbeats 1000000 in
theorem lay_less {A C M F f size least b ba bs at' n : Nat} {xs : List Int} {bp bn : Option Nat} (w : World) (hA : w.heap[A]? = some (ar C M F f size least)) (hC : w.heap[C]? = some (cl xs)) (hxs : xs.length = size)
    (hb : w.heap[b]? = some (nd ba bs bp bn)) (hk : n ≤ bs) (hn : 1 ≤ n) (h1 : ba + bs ≤ size) (h2 : at' + n ≤ size) (h3 : size ≤ 65536) (h4 : ba < size) :
    Calls Try.prog 62 #[.pointer (some ⟨A, 0, none⟩), .pointer (some ⟨b, 0, none⟩), .int .i64 at', .int .i64 n] w fun e w' => (∃ v, e = .returned v) ∧ w'.heap[C]? = some (cl (layC xs ba n at' n)) ∧ w'.heap[b]? = some (nd at' n bp bn) ∧
      Kept (fun k => k = C ∨ k = b) w w' ∧ w'.heap.size = w.heap.size := by
  have HB : Hid (w.heap[b]? = some (nd ba bs bp bn)) := hb
  have HC : Hid (w.heap[C]? = some (cl xs)) := hC
  have hCb : C ≠ b := cl_nd hC hb
  have hbC : b ≠ C := fun e => hCb e.symm
  have hAC : A ≠ C := fun e => cl_ar hC hA e.symm
  obtain ⟨a0, a1, a2, a3, a4⟩ := ar_cells hA
  obtain ⟨b0, b1, b2, b3⟩ := nd_cells hb
  have i0 : (n : Int) ≤ (bs : Int) := by omega
  have i2 : (ba : Int) + (n : Int) ≤ (size : Int) := by omega
  have i3 : (at' : Int) + (n : Int) ≤ (size : Int) := by omega
  have i4 : (size : Int) ≤ 65536 := by omega
  have i5 : (at' : Int) + (n : Int) ≤ (size : Int) := by omega
  have HX : Hid (xs.length = size) := hxs
  have hz1 : ¬ size = at' := by omega
  have hz2 : ¬ size = ba := by omega
  have u1 : IntKind.i64.wrap ((at' : Int) + (n : Int)) = (at' : Int) + (n : Int) := by rw [IntKind.wrap_i64]; omega
  have u2 : IntKind.i64.wrap ((ba : Int) + (n : Int)) = (ba : Int) + (n : Int) := by rw [IntKind.wrap_i64]; omega
  have j1 : (0 : Int) ≤ (at' : Int) := by omega
  have j2 : (0 : Int) ≤ (ba : Int) := by omega
  have j3 : (at' : Int) ≤ (at' : Int) + (n : Int) := by omega
  have j4 : (ba : Int) ≤ (ba : Int) + (n : Int) := by omega
  have hs1 : ∀ wx, (Instr.slice 51 (.slice (some ⟨C, 0, none⟩) size size) (some (.int .i64 (at' : Int))) (some (.int .i64 ((at' : Int) + (n : Int)))) none).run Try.prog wx = .ok (.slice (some ⟨C, at', none⟩) n (size - at')) wx := fun wx => run_sl' wx C size at' n (by omega) (by omega)
  have hs2 : ∀ wx, (Instr.slice 51 (.slice (some ⟨C, 0, none⟩) size size) (some (.int .i64 (ba : Int))) (some (.int .i64 ((ba : Int) + (n : Int)))) none).run Try.prog wx = .ok (.slice (some ⟨C, ba, none⟩) n (size - ba)) wx := fun wx => run_sl' wx C size ba n (by omega) (by omega)
  have hcl : ∀ ty a c wx, (Builtin.clear_ #[51] ty #[.slice a 0 c]).run Try.prog wx = .ok (.tuple #[]) wx := fun ty a c wx => run_clear_none wx ty a c
  obtain ⟨a', c', hs3⟩ : ∃ a' c', ∀ wx, (Instr.slice 51 (.slice (some ⟨C, 0, none⟩) size size) (some (.int .i64 ((at' : Int) + (n : Int)))) (some (.int .i64 ((at' : Int) + (n : Int)))) none).run Try.prog wx = .ok (.slice a' 0 c') wx := by
    by_cases he : at' + n = size
    · exact ⟨_, _, fun wx => run_sl_end wx C size _ _ (by omega) (by omega)⟩
    · exact ⟨_, _, fun wx => by have := run_sl wx C size (at' + n) (at' + n) 0 rfl (by omega) (by omega); rwa [Int.natCast_add] at this⟩
  clear hb hA hC hxs
  go_enter Try.func62, Try.ntmps62
  go_wp2
  go_region_held3 (fun w' => w'.cell? ⟨A, 0, none⟩ = some (.slice (some ⟨C, 0, none⟩) size size) ∧ w'.cell? ⟨b, 0, none⟩ = some (.int .i64 ba)) (go_keep) ((refine step_copy_cl (by rfl) _ _ (by rfl) C at' n (size - at') C ba n (size - ba) n xs ((xs.drop ba).take n) (by rfl) (by rfl) HC.out (Nat.min_self _) (by simp; have := HX.out; omega) (by intro j hj; rw [cl_cell (w := w.drew) HC.out (by have := HX.out; omega)]; simp [List.getD, hj]) (by have := HX.out; omega) ?_; intro w2 hr2; have a02 : w2.cell? ⟨A, 0, none⟩ = some (.slice (some ⟨C, 0, none⟩) size size) := (by rw [hr2.out, cell_setCells_ne _ _ _ _ _ _ hAC]; exact a0); have b02 : w2.cell? ⟨b, 0, none⟩ = some (.int .i64 ba) := (by rw [hr2.out, cell_setCells_ne _ _ _ _ _ _ hbC]; exact b0)))
  have HC2 : Hid (w2.heap[C]? = some (cl (putL xs at' ((xs.drop ba).take n)))) := by
    show _ = _; rw [hr2.out]; exact hp_setCells C _ _ _ xs HC.out (by simp; have := HX.out; omega)
  have HB2 : Hid (w2.heap[b]? = some (nd ba bs bp bn)) := by
    show _ = _; rw [hr2.out, hp_setCells_other _ _ _ _ _ hbC]; exact HB.out
  have HK2 : Hid (Kept (fun k => k = C ∨ k = b) w w2) := by
    show Kept _ _ _; rw [hr2.out]; exact kept_setCells C (.inl rfl) _ _ _ _ (Kept.refl _ _).drew
  have HS2 : Hid (w2.heap.size = w.heap.size) := by
    show _ = _; rw [hr2.out, size_setCells]; rfl
  have HL2 : Hid ((putL xs at' ((xs.drop ba).take n)).length = size) := by
    show _ = _; rw [putL_length (by simp; have := HX.out; omega)]; exact HX.out
  clear hr2 hs1 hs2
  have fb : ∀ o, w2.frozen? ⟨b, o, none⟩ = false := fun o => frozen_of HB2.out o
  obtain ⟨c0, c1, c2, c3⟩ := nd_cells HB2.out
  have EL : Hid (layC xs ba n at' n = putL xs at' ((xs.drop ba).take n)) := by show _ = _; simp [layC, putL_nil]
  go_wp2_with (first | simp only [hs3] | simp only [hcl])
  go_end0
  exact ⟨⟨_, rfl⟩, by rw [EL.out]; exact hp_set_other (hp_set_other HC2.out 0 _ hCb) 1 _ hCb, (nd_set (nd_set HB2.out at').1 n).2, (HK2.out.set b 0 _ (.inl (.inr rfl))).set b 1 _ (.inl (.inr rfl)), by rw [size_set, size_set]; exact HS2.out⟩

set_option maxHeartbeats 1000000 in
theorem lay_more {A C M F f size least b ba bs at' n : Nat} {xs : List Int} {bp bn : Option Nat} (w : World) (hA : w.heap[A]? = some (ar C M F f size least)) (hC : w.heap[C]? = some (cl xs)) (hxs : xs.length = size)
    (hb : w.heap[b]? = some (nd ba bs bp bn)) (hk : bs < n) (hn : 1 ≤ n) (h1 : ba + bs ≤ size) (h2 : at' + n ≤ size) (h3 : size ≤ 65536) (h4 : ba < size) :
    Calls Try.prog 62 #[.pointer (some ⟨A, 0, none⟩), .pointer (some ⟨b, 0, none⟩), .int .i64 at', .int .i64 n] w fun e w' => (∃ v, e = .returned v) ∧ w'.heap[C]? = some (cl (layC xs ba bs at' n)) ∧ w'.heap[b]? = some (nd at' n bp bn) ∧
      Kept (fun k => k = C ∨ k = b) w w' ∧ w'.heap.size = w.heap.size := by
  have HB : Hid (w.heap[b]? = some (nd ba bs bp bn)) := hb
  have HC : Hid (w.heap[C]? = some (cl xs)) := hC
  have hCb : C ≠ b := cl_nd hC hb
  have hbC : b ≠ C := fun e => hCb e.symm
  have hAC : A ≠ C := fun e => cl_ar hC hA e.symm
  obtain ⟨a0, a1, a2, a3, a4⟩ := ar_cells hA
  obtain ⟨b0, b1, b2, b3⟩ := nd_cells hb
  have i0 : (bs : Int) < (n : Int) := by omega
  have i2 : (ba : Int) + (bs : Int) ≤ (size : Int) := by omega
  have i3 : (at' : Int) + (bs : Int) ≤ (size : Int) := by omega
  have i4 : (size : Int) ≤ 65536 := by omega
  have i5 : (at' : Int) + (n : Int) ≤ (size : Int) := by omega
  have HX : Hid (xs.length = size) := hxs
  have hz1 : ¬ size = at' := by omega
  have hz2 : ¬ size = ba := by omega
  have u1 : IntKind.i64.wrap ((at' : Int) + (bs : Int)) = (at' : Int) + (bs : Int) := by rw [IntKind.wrap_i64]; omega
  have u2 : IntKind.i64.wrap ((ba : Int) + (bs : Int)) = (ba : Int) + (bs : Int) := by rw [IntKind.wrap_i64]; omega
  have j1 : (0 : Int) ≤ (at' : Int) := by omega
  have j2 : (0 : Int) ≤ (ba : Int) := by omega
  have j3 : (at' : Int) ≤ (at' : Int) + (bs : Int) := by omega
  have j4 : (ba : Int) ≤ (ba : Int) + (bs : Int) := by omega
  have hs1 : ∀ wx, (Instr.slice 51 (.slice (some ⟨C, 0, none⟩) size size) (some (.int .i64 (at' : Int))) (some (.int .i64 ((at' : Int) + (bs : Int)))) none).run Try.prog wx = .ok (.slice (some ⟨C, at', none⟩) bs (size - at')) wx := fun wx => run_sl' wx C size at' bs (by omega) (by omega)
  have hs2 : ∀ wx, (Instr.slice 51 (.slice (some ⟨C, 0, none⟩) size size) (some (.int .i64 (ba : Int))) (some (.int .i64 ((ba : Int) + (bs : Int)))) none).run Try.prog wx = .ok (.slice (some ⟨C, ba, none⟩) bs (size - ba)) wx := fun wx => run_sl' wx C size ba bs (by omega) (by omega)
  have u3 : IntKind.i64.wrap ((at' : Int) + (n : Int)) = (at' : Int) + (n : Int) := by rw [IntKind.wrap_i64]; omega
  have hs3 : ∀ wx, (Instr.slice 51 (.slice (some ⟨C, 0, none⟩) size size) (some (.int .i64 ((at' : Int) + (bs : Int)))) (some (.int .i64 ((at' : Int) + (n : Int)))) none).run Try.prog wx = .ok (.slice (some ⟨C, at' + bs, none⟩) (n - bs) (size - (at' + bs))) wx := by
    intro wx
    have := run_sl wx C size (at' + bs) (at' + n) (n - bs) (by omega) (by omega) (by omega)
    rwa [Int.natCast_add, Int.natCast_add] at this
  clear hb hA hC hxs
  go_enter Try.func62, Try.ntmps62
  go_wp2
  go_region_held3 (fun w' => w'.cell? ⟨A, 0, none⟩ = some (.slice (some ⟨C, 0, none⟩) size size) ∧ w'.cell? ⟨b, 0, none⟩ = some (.int .i64 ba)) (go_keep) ((refine step_copy_cl (by rfl) _ _ (by rfl) C at' bs (size - at') C ba bs (size - ba) bs xs ((xs.drop ba).take bs) (by rfl) (by rfl) HC.out (Nat.min_self _) (by simp; have := HX.out; omega) (by intro j hj; rw [cl_cell (w := w.drew) HC.out (by have := HX.out; omega)]; simp [List.getD, hj]) (by have := HX.out; omega) ?_; intro w2 hr2; have a02 : w2.cell? ⟨A, 0, none⟩ = some (.slice (some ⟨C, 0, none⟩) size size) := (by rw [hr2.out, cell_setCells_ne _ _ _ _ _ _ hAC]; exact a0); have b02 : w2.cell? ⟨b, 0, none⟩ = some (.int .i64 ba) := (by rw [hr2.out, cell_setCells_ne _ _ _ _ _ _ hbC]; exact b0)))
  have HC2 : Hid (w2.heap[C]? = some (cl (putL xs at' ((xs.drop ba).take bs)))) := by
    show _ = _; rw [hr2.out]; exact hp_setCells C _ _ _ xs HC.out (by simp; have := HX.out; omega)
  have HB2 : Hid (w2.heap[b]? = some (nd ba bs bp bn)) := by
    show _ = _; rw [hr2.out, hp_setCells_other _ _ _ _ _ hbC]; exact HB.out
  have HK2 : Hid (Kept (fun k => k = C ∨ k = b) w w2) := by
    show Kept _ _ _; rw [hr2.out]; exact kept_setCells C (.inl rfl) _ _ _ _ (Kept.refl _ _).drew
  have HS2 : Hid (w2.heap.size = w.heap.size) := by
    show _ = _; rw [hr2.out, size_setCells]; rfl
  have HL2 : Hid ((putL xs at' ((xs.drop ba).take bs)).length = size) := by
    show _ = _; rw [putL_length (by simp; have := HX.out; omega)]; exact HX.out
  clear hr2 hs1 hs2
  obtain ⟨w3, HW3⟩ : ∃ w3, Hid (w3 = w2.setCells C (at' + bs) ((List.replicate (n - bs) (0 : Int)).map (Value.int .i64))) := ⟨_, rfl⟩
  have hcl : ∀ ty c, (Builtin.clear_ #[51] ty #[.slice (some ⟨C, at' + bs, none⟩) (n - bs) c]).run Try.prog w2 = .ok (.tuple #[]) w3 := by
    intro ty c
    rw [HW3.out]
    exact run_clear_cl w2 ty C (at' + bs) (n - bs) c _ HC2.out (by omega) (by rw [HL2.out]; omega)
  have HC3 : Hid (w3.heap[C]? = some (cl (layC xs ba bs at' n))) := by
    show _ = _; rw [HW3.out]; exact hp_setCells C _ _ _ _ HC2.out (by rw [HL2.out]; simp; omega)
  have HB3 : Hid (w3.heap[b]? = some (nd ba bs bp bn)) := by
    show _ = _; rw [HW3.out, hp_setCells_other _ _ _ _ _ hbC]; exact HB2.out
  have HK3 : Hid (Kept (fun k => k = C ∨ k = b) w w3) := by
    show Kept _ _ _; rw [HW3.out]; exact kept_setCells C (.inl rfl) _ _ _ _ HK2.out
  have HS3 : Hid (w3.heap.size = w.heap.size) := by
    show _ = _; rw [HW3.out, size_setCells]; exact HS2.out
  have fb : ∀ o, w3.frozen? ⟨b, o, none⟩ = false := fun o => frozen_of HB3.out o
  obtain ⟨c0, c1, c2, c3⟩ := nd_cells HB3.out
  go_wp2_with (first | simp only [hs3] | simp only [hcl])
  go_end0
  exact ⟨⟨_, rfl⟩, hp_set_other (hp_set_other HC3.out 0 _ hCb) 1 _ hCb, (nd_set (nd_set HB3.out at').1 n).2, (HK3.out.set b 0 _ (.inl (.inr rfl))).set b 1 _ (.inl (.inr rfl)), by rw [size_set, size_set]; exact HS3.out⟩


theorem lay_any {A C M F f size least b ba bs at' n : Nat} {xs : List Int} {bp bn : Option Nat} (w : World) (hA : w.heap[A]? = some (ar C M F f size least)) (hC : w.heap[C]? = some (cl xs)) (hxs : xs.length = size)
    (hb : w.heap[b]? = some (nd ba bs bp bn)) (hn : 1 ≤ n) (h1 : ba + bs ≤ size) (h2 : at' + n ≤ size) (h3 : size ≤ 65536) (h4 : ba < size) :
    Calls Try.prog 62 #[.pointer (some ⟨A, 0, none⟩), .pointer (some ⟨b, 0, none⟩), .int .i64 at', .int .i64 n] w fun e w' => (∃ v, e = .returned v) ∧ w'.heap[C]? = some (cl (layC xs ba (min n bs) at' n)) ∧ w'.heap[b]? = some (nd at' n bp bn) ∧
      Kept (fun k => k = C ∨ k = b) w w' ∧ w'.heap.size = w.heap.size := by
  by_cases h : n ≤ bs
  · rw [Nat.min_eq_left h]; exact lay_less w hA hC hxs hb h hn h1 h2 h3 h4
  · rw [Nat.min_eq_right (by omega)]; exact lay_more w hA hC hxs hb (by omega) hn h1 h2 h3 h4
end Go.Proofs.Ytdaklohfecinjaa
