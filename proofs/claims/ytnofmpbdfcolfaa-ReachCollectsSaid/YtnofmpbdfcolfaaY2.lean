/- Is an entry cleared? -/
import Derived.Test.YtnofmpbdfcolfaaX5
import Derived.Test.YtnofmpbdfcolfaaY0
namespace Go.Proofs.Ytnofmpbdfcolfaa
open Go.RowKit Go.Shelf
set_option linter.unusedSimpArgs false
set_option linter.unusedVariables false

theorem guard49 : Try.prog.eqGuardType Try.prog.depth 49 = false := by kernel_rfl
theorem stood49 : Try.prog.stoodInHeld 49 = false := by kernel_rfl
theorem fields49 : Try.prog.underlying 49 = some (.struct (Try.prog.fieldsOf 49)) := by kernel_rfl

theorem eqFields_ints {d : Nat} {xs ys : Array Value} {X Y : Nat → Int} : ∀ (fs : List Field), (∀ f ∈ fs, f.name ≠ "_") → (∀ f ∈ fs, ∀ w, (part f.type xs f.offset).run Try.prog w = .ok (.int .i64 (X f.offset)) w) →
    (∀ f ∈ fs, ∀ w, (part f.type ys f.offset).run Try.prog w = .ok (.int .i64 (Y f.offset)) w) → (∀ f ∈ fs, ∀ (x y : Int) (w : World), (Op.equalIn d f.type (.int .i64 x) (.int .i64 y)).run Try.prog w = .ok (x == y) w) →
    ∀ w, (Op.eqFields d xs ys fs).run Try.prog w = .ok ((fs.map (·.offset)).all fun k => X k == Y k) w := by
  intro fs
  induction fs with
  | nil => intro _ _ _ _ w; simp [Op.eqFields]
  | cons f fs ih =>
    intro hn hx hy hq w
    have ih' := ih (fun g hg => hn g (List.mem_cons_of_mem _ hg)) (fun g hg => hx g (List.mem_cons_of_mem _ hg)) (fun g hg => hy g (List.mem_cons_of_mem _ hg)) (fun g hg => hq g (List.mem_cons_of_mem _ hg))
    have h1 := hx f List.mem_cons_self
    have h2 := hy f List.mem_cons_self
    have h3 := hq f List.mem_cons_self
    simp only [Op.eqFields, hn f List.mem_cons_self, ne_eq, not_false_eq_true, if_true, Sem.run_bind, h1, h2, h3, Result.andThen_ok, List.map_cons, List.all_cons]
    cases X f.offset == Y f.offset
    · simp
    · simpa using ih' w

theorem fields49_facts : (Try.prog.fieldsOf 49).toList.map (fun f => (f.name != "_", f.type, f.offset)) = [(true, 3, 0), (true, 3, 1)] := by kernel_rfl
def vl (t n : Int) : Nat → Int
  | 0 => t
  | _ => n

set_option maxRecDepth 20000 in
theorem eq49 (t n t' n' : Int) (w : World) : (Op.equalIn 10000 49 (.agg #[.int .i64 t, .int .i64 n]) (.agg #[.int .i64 t', .int .i64 n'])).run Try.prog w = .ok (decide ((t, n) = (t', n'))) w := by
  rw [show (10000 : Nat) = 9999 + 1 from rfl, run_equalIn_agg w 9999 49 _ _ fields49 stood49]
  have hf : ∀ f ∈ (Try.prog.fieldsOf 49).toList, f.name ≠ "_" ∧ f.type = 3 ∧ (f.offset = 0 ∨ f.offset = 1) := by
    intro f hm
    have h := fields49_facts
    have hmm : (f.name != "_", f.type, f.offset) ∈ [(true, 3, 0), (true, 3, 1)] := by rw [← h]; exact List.mem_map.2 ⟨f, hm, rfl⟩
    simp only [List.mem_cons, Prod.mk.injEq, List.not_mem_nil, or_false, bne_iff_ne, ne_eq] at hmm
    rcases hmm with ⟨a, b, c⟩ | ⟨a, b, c⟩
    · exact ⟨a, b, Or.inl c⟩
    · exact ⟨a, b, Or.inr c⟩
  have hp : ∀ (t n : Int), ∀ f ∈ (Try.prog.fieldsOf 49).toList, ∀ w : World, (part f.type #[.int .i64 t, .int .i64 n] f.offset).run Try.prog w = .ok (.int .i64 (vl t n f.offset)) w := by
    intro t n f hm w
    obtain ⟨_, a, b | b⟩ := hf f hm <;> rw [a, b] <;> kernel_rfl
  have ho : (Try.prog.fieldsOf 49).toList.map (·.offset) = [0, 1] := by kernel_rfl
  rw [eqFields_ints (X := vl t n) (Y := vl t' n') _ (fun f hm => (hf f hm).1) (hp t n) (hp t' n')
    (fun f hm x y w => by
      rw [(hf f hm).2.1]
      exact run_equalIn_int w 9998 3 .i64 .i64 x y Try.underlying3) w, ho]
  congr 1
  rw [Bool.eq_iff_iff]; simp [vl]

/-- A row of entries, as it is read. -/
theorem EnRow.at {w : World} {base : Nat} {v : Value} {L : List V} (h : EnRow w base v L) {j : Nat} (hj : j < L.length) : ∃ b c, v = .slice (some ⟨b, 0, none⟩) L.length c ∧ w.cell? ⟨b, j * 2, none⟩ = some (.int .i64 L[j].1) ∧ w.cell? ⟨b, j * 2 + 1, none⟩ = some (.int .i64 L[j].2) := by
  rcases h.2 with ⟨rfl, h0⟩ | ⟨g, cap, cur, rfl, _⟩
  · omega
  · exact ⟨g, cap, rfl, (World.ownsRow.cellAt h _ (by omega)).trans (flatV_get L j hj).1, (World.ownsRow.cellAt h _ (by omega)).trans (flatV_get L j hj).2⟩
theorem EnRow.no {w w' : World} {base : Nat} {v : Value} {L : List V} (h : EnRow w base v L) (hk : Kept No w w') : EnRow w' base v L :=
  h.cellsKept (fun k c e f hc => hk.heap hc id)

set_option maxRecDepth 20000 in
set_option maxHeartbeats 2000000 in
theorem cleared22_any {w : World} {B : Nat} {lo po eo : Option Addr} {ln lc pn pc ec : Nat} {L : List V} (hE : EnRow w B (.slice eo L.length ec) L) (hL : L.length ≤ 1000000) (x y : Int) :
    Calls Try.prog 22 #[.agg #[.slice lo ln lc, .slice po pn pc, .slice eo L.length ec], .int .i64 x, .int .i64 y] w fun e w' => e = .returned (.bool (decide ((x, y) ∈ L))) ∧ Kept No w w' := by
  obtain ⟨r, HR⟩ : ∃ r, Hid (decide ((x, y) ∈ L) = r) := ⟨_, rfl⟩
  rw [HR.out]
  obtain ⟨W, HW⟩ : ∃ W, Hid (W = w.alloc (.cells #[.slice lo ln lc, .slice po pn pc, .slice eo L.length ec] 37)) := ⟨_, rfl⟩
  have HK : Hid (Kept No w W) := by show Kept _ _ _; rw [HW.out]; exact (Kept.refl _ _).alloc _
  have hb : W.heap[w.heap.size]? = some (.cells #[.slice lo ln lc, .slice po pn pc, .slice eo L.length ec] 37 (0, 0)) := by rw [HW.out]; exact World.alloc_heap_new w _
  have c2 : W.cell? ⟨w.heap.size, 2, none⟩ = some (.slice eo L.length ec) := by rw [cell_of hb]; rfl
  have HE : Hid (∀ j (hj : j < L.length), ∃ b, eo = some ⟨b, 0, none⟩ ∧ W.cell? ⟨b, j * 2, none⟩ = some (.int .i64 L[j].1) ∧ W.cell? ⟨b, j * 2 + 1, none⟩ = some (.int .i64 L[j].2)) := fun j hj => by
    obtain ⟨b, c, e, h1, h2⟩ := (hE.no HK.out).at hj
    injection e with e1 e2 e3
    exact ⟨b, e1, h1, h2⟩
  have hg := guard49
  clear hb hE
  go_enter Try.func22, Try.ntmps22
  go_wp2_with (first | rw [← HW.out])
  go_loopw [7] (fun i wr => ∃ j : Nat, j ≤ L.length ∧ i = .int .i64 j ∧ Hid ((x, y) ∉ L.take j) ∧ wr = W) (fun i _ => L.length - (intOf i).toNat)
  case atStart => exact ⟨0, by omega, rfl, by show _ ∉ _; simp, rfl⟩
  case round =>
    obtain ⟨j, hj, rfl, HJ, rfl⟩ := hrel
    by_cases hlt : j < L.length
    · have k1 : (j : Int) < (L.length : Int) := by omega
      obtain ⟨b, rfl, e1, e2⟩ := HE.out j hlt
      by_cases hq : (L[j].1, L[j].2) = (x, y)
      · have heq : ∀ w, (Op.equalIn 10000 49 (.agg #[.int .i64 L[j].1, .int .i64 L[j].2]) (.agg #[.int .i64 x, .int .i64 y])).run Try.prog w = .ok true w := fun w => (eq49 _ _ _ _ w).trans (by rw [decide_eq_true hq])
        have HZ : Hid (r = true) := by
          show _ = _
          rw [← HR.out]
          exact decide_eq_true (by rw [← hq]; exact List.getElem_mem hlt)
        clear hq
        generalize L[j].1 = l1 at e1 heq
        generalize L[j].2 = l2 at e2 heq
        go_wp2
        go_ret
        exact ⟨by rw [HZ.out]; rfl, HK.out⟩
      · have heq : ∀ w, (Op.equalIn 10000 49 (.agg #[.int .i64 L[j].1, .int .i64 L[j].2]) (.agg #[.int .i64 x, .int .i64 y])).run Try.prog w = .ok false w := fun w => (eq49 _ _ _ _ w).trans (by rw [decide_eq_false hq])
        have HZ : Hid ((x, y) ∉ L.take (j + 1)) := by
          show _ ∉ _
          rw [List.take_succ_eq_append_getElem hlt, List.mem_append, not_or]
          exact ⟨HJ.out, fun h => hq (by simp only [List.mem_cons, List.not_mem_nil, or_false] at h; rw [← h])⟩
        clear hq
        generalize L[j].1 = l1 at e1 heq
        generalize L[j].2 = l2 at e2 heq
        go_wp2
        go_roundw
        case rel => exact ⟨j + 1, by omega, by go_num, HZ.out, by first | rfl | trivial⟩
        case measure => simp [intOf]; omega
    · have k1 : ¬ (j : Int) < (L.length : Int) := by omega
      obtain rfl : j = L.length := by omega
      have HZ : Hid (r = false) := by
        show _ = _
        rw [← HR.out]
        exact decide_eq_false (by have := HJ.out; rwa [List.take_length] at this)
      go_wp2
      go_ret
      exact ⟨by rw [HZ.out]; rfl, HK.out⟩
end Go.Proofs.Ytnofmpbdfcolfaa
