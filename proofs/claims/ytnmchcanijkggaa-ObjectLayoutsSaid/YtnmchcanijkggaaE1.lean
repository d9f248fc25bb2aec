/- Heads, and the two cells of heads, compared. -/
import Derived.Test.YtnmchcanijkggaaO1
import Derived.ChangeKeysEq
import Derived.Laws.StructEq
namespace Go.Proofs.Ytnmchcanijkggaa
open Go.RowKit

theorem guard63 : Try.prog.eqGuardType Try.prog.depth 63 = false := by kernel_rfl
theorem guard23 : Try.prog.eqGuardType Try.prog.depth 23 = false := by kernel_rfl
theorem cells2 : Try.prog.cellsOf 2 = 1 := by kernel_rfl
theorem under63 : Try.prog.underlying 63 = some (.array 2 2) := by kernel_rfl
theorem stood23 : Try.prog.stoodInHeld 23 = false := by kernel_rfl

theorem eq63 (a b c d : Int) (w : World) : (Op.equalIn 10000 63 (.agg #[.int .i64 a, .int .i64 b]) (.agg #[.int .i64 c, .int .i64 d])).run Try.prog w = .ok (a == c && b == d) w := by
  obtain ⟨i, hi⟩ : ∃ i, Try.prog.info? 2 = some i := Option.isSome_iff_exists.1 (by kernel_rfl)
  rw [show (10000 : Nat) = 9999 + 1 from rfl, run_equalIn_array w 9999 _ _ under63 hi, cells2]
  have r2 : List.range 2 = [0, 1] := rfl
  rw [r2]
  have p : ∀ (x y : Int) (w : World), (part 2 #[.int .i64 x, .int .i64 y] 0).run Try.prog w = .ok (.int .i64 x) w := fun x y w => by kernel_rfl
  have p' : ∀ (x y : Int) (w : World), (part 2 #[.int .i64 x, .int .i64 y] 1).run Try.prog w = .ok (.int .i64 y) w := fun x y w => by kernel_rfl
  have q : ∀ (x y : Int) (w : World), (Op.equalIn 9999 2 (.int .i64 x) (.int .i64 y)).run Try.prog w = .ok (x == y) w := fun x y w => run_equalIn_int w 9998 2 .i64 .i64 x y Try.underlying2
  simp only [Op.eqItems, Sem.run_bind, Nat.mul_one, p, Result.andThen_ok, q]
  cases h1 : (a == c)
  · simp
  · simp only [Bool.not_true, Bool.false_eq_true, if_false, Sem.run_bind, p', Result.andThen_ok, q]
    cases h2 : (b == d) <;> simp

theorem fields23 : Try.prog.underlying 23 = some (.struct (Try.prog.fieldsOf 23)) := by kernel_rfl

/-- The fields of a head, by their places. -/
def fl (h : Hd) : Nat → Int
  | 0 => h.k
  | 1 => h.c
  | 2 => h.a
  | 3 => h.w
  | 4 => h.s
  | 5 => h.f
  | 6 => h.x
  | _ => h.l

theorem part23 (h : Hd) : ∀ k, k < 8 → ∀ w : World, (part 3 #[.int .i64 h.k, .int .i64 h.c, .int .i64 h.a, .int .i64 h.w, .int .i64 h.s, .int .i64 h.f, .int .i64 h.x, .int .i64 h.l] k).run Try.prog w = .ok (.int .i64 (fl h k)) w
  | 0, _ => fun w => by kernel_rfl
  | 1, _ => fun w => by kernel_rfl
  | 2, _ => fun w => by kernel_rfl
  | 3, _ => fun w => by kernel_rfl
  | 4, _ => fun w => by kernel_rfl
  | 5, _ => fun w => by kernel_rfl
  | 6, _ => fun w => by kernel_rfl
  | 7, _ => fun w => by kernel_rfl
  | n + 8, hn => absurd hn (by omega)

theorem eqFields_ints {d : Nat} {xs ys : Array Value} {X Y : Nat → Int} : ∀ (fs : List Field), (∀ f ∈ fs, f.name ≠ "_") → (∀ f ∈ fs, ∀ w, (part f.type xs f.offset).run Try.prog w = .ok (.int .i64 (X f.offset)) w) →
    (∀ f ∈ fs, ∀ w, (part f.type ys f.offset).run Try.prog w = .ok (.int .i64 (Y f.offset)) w) → (∀ f ∈ fs, ∀ (x y : Int) (w : World), (Op.equalIn d f.type (.int .i64 x) (.int .i64 y)).run Try.prog w = .ok (x == y) w) →
    ∀ w, (Op.eqFields d xs ys fs).run Try.prog w = .ok ((fs.map (·.offset)).all fun k => X k == Y k) w := by
  intro fs
  induction fs with
  | nil => intro _ _ _ _ w; simp [Op.eqFields]
  | cons f fs ih =>
    intro hn hx hy hq w
    have ih' := ih (fun g hg => hn g (List.mem_cons_of_mem _ hg)) (fun g hg => hx g (List.mem_cons_of_mem _ hg)) (fun g hg => hy g (List.mem_cons_of_mem _ hg)) (fun g hg => hq g (List.mem_cons_of_mem _ hg))
    have h1 := hx f List.mem_cons_self
    have h2 := hy f List.mem_cons_self
    have h3 := hq f List.mem_cons_self
    simp only [Op.eqFields, hn f List.mem_cons_self, ne_eq, not_false_eq_true, if_true, Sem.run_bind, h1, h2, h3, Result.andThen_ok, List.map_cons, List.all_cons]
    cases X f.offset == Y f.offset
    · simp
    · simpa using ih' w

theorem fields23_facts : (Try.prog.fieldsOf 23).toList.all (fun f => f.name != "_" && f.type == 3 && decide (f.offset < 8)) = true := by kernel_rfl
theorem fields23_offs : (Try.prog.fieldsOf 23).toList.map (·.offset) = [0, 1, 2, 3, 4, 5, 6, 7] := by kernel_rfl

theorem eq23 (g h : Hd) (w : World) : (Op.equalIn 10000 23 (AH g) (AH h)).run Try.prog w = .ok (decide (g = h)) w := by
  rw [show (10000 : Nat) = 9999 + 1 from rfl, run_equalIn_agg w 9999 23 _ _ fields23 stood23]
  have hf : ∀ f ∈ (Try.prog.fieldsOf 23).toList, f.name ≠ "_" ∧ f.type = 3 ∧ f.offset < 8 := by
    intro f hm
    have := List.all_eq_true.1 fields23_facts f hm
    simp only [Bool.and_eq_true, bne_iff_ne, beq_iff_eq, decide_eq_true_eq] at this
    exact ⟨this.1.1, this.1.2, this.2⟩
  rw [eqFields_ints (X := fl g) (Y := fl h) _ (fun f hm => (hf f hm).1) (fun f hm w => by rw [(hf f hm).2.1]; exact part23 g _ (hf f hm).2.2 w) (fun f hm w => by rw [(hf f hm).2.1]; exact part23 h _ (hf f hm).2.2 w)
    (fun f hm x y w => by rw [(hf f hm).2.1]; exact run_equalIn_int w 9998 3 .i64 .i64 x y Try.underlying3) w, fields23_offs]
  congr 1
  rw [Bool.eq_iff_iff]; cases g; cases h; simp [fl]
end Go.Proofs.Ytnmchcanijkggaa
