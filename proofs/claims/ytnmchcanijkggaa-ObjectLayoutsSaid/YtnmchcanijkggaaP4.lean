/- Cells are read as an object. -/
import Derived.Test.YtnmchcanijkggaaP3
import Derived.Test.YtnmchcanijkggaaO6
namespace Go.Proofs.Ytnmchcanijkggaa
open Go.RowKit Go.Lib
set_option linter.unusedVariables false

theorem row_none {w : World} {b : Nat} {o : Obj} (N : Nat) (hN : N = w.heap.size) (ho : o = .cells #[] 2) (hb : b ≤ N) : Row (w.alloc o) b (.slice (some ⟨N, 0, none⟩) 0 0) [] := by
  subst ho; subst hN
  refine ⟨rfl, Or.inr ⟨w.heap.size, 0, #[], rfl, hb, heap_alloc_new w _, Nat.le_refl _, by unfold maxLen; omega, rfl, rfl⟩⟩

theorem eq_nil (w : World) : (binOp .eql 40 (.slice none 0 0) (.slice none 0 0)).run Try.prog w = .ok (.bool true) w := by kernel_rfl
theorem eq_some (a : Addr) (n c : Nat) (w : World) : (binOp .eql 40 (.slice (some a) n c) (.slice none 0 0)).run Try.prog w = .ok (.bool false) w := by kernel_rfl

set_option maxHeartbeats 2000000 in
theorem Clone_any (v : Value) (zs : List Int) (w : World) (hv : SliceIs w v zs) (hz : zs.length ≤ 100000) :
    Calls Try.prog 47 #[v] w fun e w' => (∃ u, e = .returned u ∧ Row w' w.heap.size u zs) ∧ Below w.heap.size w w' := by
  have hv' := hv
  rcases hv with ⟨ao, rfl, rfl⟩ | ⟨b, off, cap, rfl, hc⟩
  · cases ao with
    | none =>
      have he := eq_nil
      go_enter Try.func47, Try.ntmps47
      go_wp2
      go_ret
      exact ⟨⟨_, rfl, World.ownsRow_nil _ _ _ _⟩, Below.refl _ _⟩
    | some ad =>
      have HV : Hid (SliceIs w (.slice (some ad) 0 0) []) := hv'
      clear hv'
      have he := eq_some ad 0 0
      go_enter Try.func47, Try.ntmps47
      go_wp2_with (first | (at_builtin; refine app_slice rfl _ _ rfl w.heap.size _ [] rfl (row_none _ rfl rfl (Nat.le_refl _)) _ rfl [] (HV.out.later ((Below.refl _ _).alloc (Nat.le_refl _) _)) ?_ ?_ ?_))
      · decide
      · simp
      intro v1 w1 HO hb _
      have HB : Hid (Below w.heap.size w w1) := ((Below.refl _ _).alloc (Nat.le_refl _) _).trans hb.out
      clear hb
      go_wp2
      go_ret
      exact ⟨⟨_, rfl, HO.out⟩, HB.out⟩
  · have HV : Hid (SliceIs w (.slice (some ⟨b, off, none⟩) zs.length cap) zs ∧ zs.length ≤ 100000) := ⟨hv', hz⟩
    clear hc hv'
    have he := eq_some ⟨b, off, none⟩ zs.length cap
    go_enter Try.func47, Try.ntmps47
    go_wp2_with (first | (at_builtin; refine app_slice rfl _ _ rfl w.heap.size _ [] rfl (row_none _ rfl rfl (Nat.le_refl _)) _ rfl zs (HV.out.1.later ((Below.refl _ _).alloc (Nat.le_refl _) _)) ?_ ?_ ?_))
    · show 0 + _ ≤ _
      have := HV.out.2; omega
    · simp
    intro v1 w1 HO hb _
    have HB : Hid (Below w.heap.size w w1) := ((Below.refl _ _).alloc (Nat.le_refl _) _).trans hb.out
    clear hb
    go_wp2
    go_ret
    exact ⟨⟨_, rfl, HO.out⟩, HB.out⟩

/-- The first two cells are copied into an array of two. -/
theorem copy2 {ops : Array Oper} {rest : List Oper} {o : Oper} {a : Act} {Q : Exit → Act → World → Prop} {w : World} (hgd : o.guard = none) (d x : Operand)
    (ho : o.op = .call { callee := .builtin .copy, args := #[d, x], argTypes := #[40, 40] }) (A b off L cap : Nat) (hd : a.eval d = .slice (some ⟨A, 0, none⟩) 2 2) (hx : a.eval x = .slice (some ⟨b, off, none⟩) L cap) (hL : 2 ≤ L)
    (p q : Int) (h1 : w.cell? ⟨b, off, none⟩ = some (.int .i64 p)) (h2 : w.cell? ⟨b, off + 1, none⟩ = some (.int .i64 q)) (x0 y0 : Value) (hA : w.heap[A]? = some (.cells #[x0, y0] 63 (0, 0)))
    (h : ∀ w', Hid (w'.heap[A]? = some (.cells #[.int .i64 p, .int .i64 q] 63 (0, 0))) → Hid (w.grownBy w' (some A)) → wpList Try.prog ops Q rest (a.put o.dst (goInt 2)) w') : wpList Try.prog ops Q (o :: rest) a w := by
  refine wpList_plain hgd fun K hK => ?_
  have hrun := run_copy_row (P := Try.prog) w 40 40 o.type 2 A 0 2 2 ⟨b, off, none⟩ L cap #[x0, y0] 63 [.int .i64 p, .int .i64 q] Try.underlying40 (by kernel_rfl) hA
    (by simp only [List.length_cons, List.length_nil]; exact (Nat.min_eq_right hL).symm)
    (by
      intro j v hj
      rcases j with _ | _ | j
      · simp at hj; subst hj; simpa [Addr.add] using h1
      · simp at hj; subst hj; simpa [Addr.add] using h2
      · simp at hj)
    (by simp) (by intro v hv; simp at hv; rcases hv with rfl | rfl <;> rfl)
  unfold Oper.wp
  simp [execOp, ho, resolve, invoke, builtin, hd, hx, hrun, Result.andThen]
  refine hK _ _ (h _ ?_ ?_)
  · exact setRow_heap w A #[x0, y0] _ 63 (0, 0) hA
  · exact ⟨rfl, rfl, rfl, by simp, fun k _ hk => setRow_other w A k _ (fun e => hk (by rw [e]))⟩

/-- The blocks of an object, and of two cells, without anything. -/
abbrev Z10 : Obj := .cells #[.int .i64 0, .int .i64 0, .int .i64 0, .int .i64 0, .int .i64 0, .int .i64 0, .int .i64 0, .int .i64 0, .slice none 0 0, .slice none 0 0] 43
abbrev Z2 : Obj := .cells #[.int .i64 0, .int .i64 0] 63
theorem heap_z2 (w : World) : ((w.alloc Z10).alloc Z2).heap[w.heap.size + 1]? = some (.cells #[.int .i64 0, .int .i64 0] 63 (0, 0)) := by
  have := heap_alloc_new (w.alloc Z10) Z2
  simpa using this
theorem heap_z10 (w : World) : ((w.alloc Z10).alloc Z2).heap[w.heap.size]? = some Z10 := by
  have h := heap_alloc_new w Z10
  have hb := ((Below.refl (w.alloc Z10).heap.size (w.alloc Z10)).alloc (Nat.le_refl _) Z2).block w.heap.size (by simp)
  rw [hb]; exact h

/-- An object without anything lies in block R, and can be written. -/
def Zero10 (R : Nat) (w' : World) : Prop := w'.heap[R]? = some (.cells #[.int .i64 0, .int .i64 0, .int .i64 0, .int .i64 0, .int .i64 0, .int .i64 0, .int .i64 0, .int .i64 0, .slice none 0 0, .slice none 0 0] 43 (0, 0))

set_option maxHeartbeats 4000000 in
theorem Read_short (v : Value) (zs : List Int) (w : World) (hv : SliceIs w v zs) (hz : zs.length < 2) :
    Calls Try.prog 29 #[v] w fun e w' => e = .returned (.tuple #[AO h0 (.slice none 0 0) (.slice none 0 0), .int .i64 6]) ∧ Below w.heap.size w w' := by
  obtain ⟨ao, ca, rfl⟩ := hv.form
  generalize zs.length = L at hz hv ⊢
  clear hv
  have hl : (L : Int) < 2 := by omega
  go_enter Try.func29, Try.ntmps29
  go_wp2
  exact bodyPost_ret (v := .tuple #[AO h0 (.slice none 0 0) (.slice none 0 0), .int .i64 6]) (by simp [results, Try.results29, go_sem, h0]) rfl ⟨rfl, ((Below.refl _ _).alloc (Nat.le_refl _) _).alloc (by simp) _⟩

/-- A head lies in block N. -/
def SeenH8 (N : Nat) (h : Hd) (w' : World) : Prop :=
  w'.cell? ⟨N, 0, none⟩ = some (.int .i64 h.k) ∧ w'.cell? ⟨N, 1, none⟩ = some (.int .i64 h.c) ∧ w'.cell? ⟨N, 2, none⟩ = some (.int .i64 h.a) ∧ w'.cell? ⟨N, 3, none⟩ = some (.int .i64 h.w) ∧ w'.cell? ⟨N, 4, none⟩ = some (.int .i64 h.s) ∧ w'.cell? ⟨N, 5, none⟩ = some (.int .i64 h.f) ∧ w'.cell? ⟨N, 6, none⟩ = some (.int .i64 h.x) ∧ w'.cell? ⟨N, 7, none⟩ = some (.int .i64 h.l)
theorem seenH8_keep {N : Nat} {h : Hd} {W w2 : World} (hs : SeenH8 N h W) (hb : Below W.heap.size W w2) : SeenH8 N h w2 := by
  obtain ⟨q0, q1, q2, q3, q4, q5, q6, q7⟩ := hs
  exact ⟨cell_later hb q0, cell_later hb q1, cell_later hb q2, cell_later hb q3, cell_later hb q4, cell_later hb q5, cell_later hb q6, cell_later hb q7⟩

/-- What a block of ten cells has. -/
theorem z10_cells {R : Nat} {w : World} (h : w.heap[R]? = some Z10) :
    (w.cell? ⟨R, 0, none⟩ = some (.int .i64 0) ∧ w.cell? ⟨R, 1, none⟩ = some (.int .i64 0) ∧ w.cell? ⟨R, 2, none⟩ = some (.int .i64 0) ∧ w.cell? ⟨R, 3, none⟩ = some (.int .i64 0) ∧ w.cell? ⟨R, 4, none⟩ = some (.int .i64 0) ∧ w.cell? ⟨R, 5, none⟩ = some (.int .i64 0) ∧ w.cell? ⟨R, 6, none⟩ = some (.int .i64 0) ∧ w.cell? ⟨R, 7, none⟩ = some (.int .i64 0) ∧ w.cell? ⟨R, 8, none⟩ = some (.slice none 0 0) ∧ w.cell? ⟨R, 9, none⟩ = some (.slice none 0 0)) ∧ ∀ j, w.frozen? ⟨R, j, none⟩ = false := by
  refine ⟨⟨?_, ?_, ?_, ?_, ?_, ?_, ?_, ?_, ?_, ?_⟩, fun j => frozen_of_row w R j _ _ h⟩
  all_goals (rw [cell_of_row w R _ _ _ _ h]; rfl)

theorem set10_below {R B : Nat} {w W : World} (h : Below B w W) (hR : B ≤ R) (v0 v1 v2 v3 v4 v5 v6 v7 v8 v9 : Value) :
    Below B w ((((((((((W.setCell ⟨R, 0, none⟩ v0).setCell ⟨R, 1, none⟩ v1).setCell ⟨R, 2, none⟩ v2).setCell ⟨R, 3, none⟩ v3).setCell ⟨R, 4, none⟩ v4).setCell ⟨R, 5, none⟩ v5).setCell ⟨R, 6, none⟩ v6).setCell ⟨R, 7, none⟩ v7).setCell ⟨R, 8, none⟩ v8).setCell ⟨R, 9, none⟩ v9) :=
  (((((((((h.setCell hR v0).setCell hR v1).setCell hR v2).setCell hR v3).setCell hR v4).setCell hR v5).setCell hR v6).setCell hR v7).setCell hR v8).setCell hR v9

set_option maxHeartbeats 4000000 in
theorem Read_head (b off L cap : Nat) (a d : Int) (w : World) (HC : Hid (∀ W, Below w.heap.size w W → W.cell? ⟨b, off, none⟩ = some (.int .i64 a) ∧ W.cell? ⟨b, off + 1, none⟩ = some (.int .i64 d))) (hz : 2 ≤ L)
    (HU : Hid (∀ w, Calls Try.prog 20 #[.int .i64 a, .int .i64 d] w fun e w' => e = .returned (.tuple #[AH h0, .int .i64 6]) ∧ Below w.heap.size w w')) :
    Calls Try.prog 29 #[.slice (some ⟨b, off, none⟩) L cap] w fun e w' => e = .returned (.tuple #[AO h0 (.slice none 0 0) (.slice none 0 0), .int .i64 6]) ∧ Below w.heap.size w w' := by
  have hl : ¬ ((L : Int) < 2) := by omega
  go_enter Try.func29, Try.ntmps29
  go_wp2_with fail
  have hb0 := HC.out _ (((Below.refl w.heap.size w).alloc (Nat.le_refl _) Z10).alloc (by simp) Z2)
  rw [run_copy_row (P := Try.prog) ((w.alloc Z10).alloc Z2) 40 40 3 2 (w.heap.size + 1) 0 2 2 ⟨b, off, none⟩ L cap #[.int .i64 0, .int .i64 0] 63 [.int .i64 a, .int .i64 d] Try.underlying40 (by kernel_rfl)
    (heap_z2 w) (by simp only [List.length_cons, List.length_nil]; exact (Nat.min_eq_right hz).symm)
    (by
      intro j v hj
      rcases j with _ | _ | j
      · simp at hj; subst hj; simpa [Addr.add] using hb0.1
      · simp at hj; subst hj; simpa [Addr.add] using hb0.2
      · simp at hj)
    (by simp) (by intro v hv; simp at hv; rcases hv with rfl | rfl <;> rfl)]
  clear hb0
  have F := setRow_heap ((w.alloc Z10).alloc Z2) (w.heap.size + 1) #[.int .i64 0, .int .i64 0] ((#[.int .i64 0, .int .i64 0] : Array Value).toList.take 0 ++ [Value.int .i64 a, Value.int .i64 d] ++ (#[.int .i64 0, .int .i64 0] : Array Value).toList.drop (0 + [Value.int .i64 a, .int .i64 d].length)).toArray 63 (0, 0) (heap_z2 w)
  have G : Below (w.heap.size + 1) ((w.alloc Z10).alloc Z2) (((w.alloc Z10).alloc Z2).setRow (w.heap.size + 1) ((#[.int .i64 0, .int .i64 0] : Array Value).toList.take 0 ++ [Value.int .i64 a, Value.int .i64 d] ++ (#[.int .i64 0, .int .i64 0] : Array Value).toList.drop (0 + [Value.int .i64 a, .int .i64 d].length)).toArray) :=
    ⟨rfl, rfl, rfl, by simp, fun k hk => setRow_other _ _ k _ (by omega)⟩
  generalize hW : ((w.alloc Z10).alloc Z2).setRow (w.heap.size + 1) ((#[.int .i64 0, .int .i64 0] : Array Value).toList.take 0 ++ [Value.int .i64 a, Value.int .i64 d] ++ (#[.int .i64 0, .int .i64 0] : Array Value).toList.drop (0 + [Value.int .i64 a, .int .i64 d].length)).toArray = W2 at F G ⊢
  clear hW
  have HR2 : Hid (W2.heap[w.heap.size]? = some Z10) := by show _ = _; rw [G.block w.heap.size (by omega)]; exact heap_z10 w
  have HB2 : Hid (Below w.heap.size w W2) := (((Below.refl _ _).alloc (Nat.le_refl _) Z10).alloc (by simp) Z2).trans (G.mono (by omega))
  have hz2 : w.heap.size + 1 < W2.heap.size := (Array.getElem?_eq_some_iff.1 F).1
  have a0 : W2.cell? ⟨w.heap.size + 1, 0, none⟩ = some (.int .i64 a) := by rw [cell_of_row _ _ _ _ _ _ F]; rfl
  have a1 : W2.cell? ⟨w.heap.size + 1, 1, none⟩ = some (.int .i64 d) := by rw [cell_of_row _ _ _ _ _ _ F]; rfl
  clear F G
  go_wp2_with fail
  refine (HU.out _).mono ?_
  rintro e w3 ⟨rfl, hb3⟩
  have HR3 : Hid (w3.heap[w.heap.size]? = some Z10) := by show _ = _; rw [hb3.block w.heap.size (by omega)]; exact HR2.out
  have HB3 : Hid (Below w.heap.size w w3) := HB2.out.trans (hb3.mono (by omega))
  have hz3 : w.heap.size + 1 < w3.heap.size := by have := hb3.size; omega
  have hz3' : w.heap.size < w3.heap.size := by omega
  clear hb3 HR2 HB2 hz2 a0 a1
  obtain ⟨⟨z0, z1, z2, z3, z4, z5, z6, z7, z8, z9⟩, fz⟩ := z10_cells HR3.out
  clear HU
  go_wp2
  exact bodyPost_ret (v := .tuple #[AO h0 (.slice none 0 0) (.slice none 0 0), .int .i64 6]) (by simp [results, Try.results29, go_sem, hz3', z0, z1, z2, z3, z4, z5, z6, z7, z8, z9, h0]) rfl ⟨rfl, (set10_below HB3.out (Nat.le_refl _) _ _ _ _ _ _ _ _ _ _).alloc (by simp; omega) _⟩

set_option maxHeartbeats 4000000 in
theorem Read_size (h : Hd) (S : Int) (b off L cap : Nat) (a d : Int) (w : World) (HC : Hid (∀ W, Below w.heap.size w W → W.cell? ⟨b, off, none⟩ = some (.int .i64 a) ∧ W.cell? ⟨b, off + 1, none⟩ = some (.int .i64 d))) (hz : 2 ≤ L)
    (HU : Hid (∀ w, Calls Try.prog 20 #[.int .i64 a, .int .i64 d] w fun e w' => e = .returned (.tuple #[AH h, .int .i64 0]) ∧ Below w.heap.size w w'))
    (HZ : Hid (∀ w, Calls Try.prog 16 #[AH h] w fun e w' => e = .returned (.int .i64 S) ∧ Below w.heap.size w w')) (hS : ((L : Int) != S) = true) :
    Calls Try.prog 29 #[.slice (some ⟨b, off, none⟩) L cap] w fun e w' => e = .returned (.tuple #[AO h0 (.slice none 0 0) (.slice none 0 0), .int .i64 6]) ∧ Below w.heap.size w w' := by
  have hl : ¬ ((L : Int) < 2) := by omega
  go_enter Try.func29, Try.ntmps29
  go_wp2_with fail
  have hb0 := HC.out _ (((Below.refl w.heap.size w).alloc (Nat.le_refl _) Z10).alloc (by simp) Z2)
  rw [run_copy_row (P := Try.prog) ((w.alloc Z10).alloc Z2) 40 40 3 2 (w.heap.size + 1) 0 2 2 ⟨b, off, none⟩ L cap #[.int .i64 0, .int .i64 0] 63 [.int .i64 a, .int .i64 d] Try.underlying40 (by kernel_rfl)
    (heap_z2 w) (by simp only [List.length_cons, List.length_nil]; exact (Nat.min_eq_right hz).symm)
    (by
      intro j v hj
      rcases j with _ | _ | j
      · simp at hj; subst hj; simpa [Addr.add] using hb0.1
      · simp at hj; subst hj; simpa [Addr.add] using hb0.2
      · simp at hj)
    (by simp) (by intro v hv; simp at hv; rcases hv with rfl | rfl <;> rfl)]
  clear hb0
  have F := setRow_heap ((w.alloc Z10).alloc Z2) (w.heap.size + 1) #[.int .i64 0, .int .i64 0] ((#[.int .i64 0, .int .i64 0] : Array Value).toList.take 0 ++ [Value.int .i64 a, Value.int .i64 d] ++ (#[.int .i64 0, .int .i64 0] : Array Value).toList.drop (0 + [Value.int .i64 a, .int .i64 d].length)).toArray 63 (0, 0) (heap_z2 w)
  have G : Below (w.heap.size + 1) ((w.alloc Z10).alloc Z2) (((w.alloc Z10).alloc Z2).setRow (w.heap.size + 1) ((#[.int .i64 0, .int .i64 0] : Array Value).toList.take 0 ++ [Value.int .i64 a, Value.int .i64 d] ++ (#[.int .i64 0, .int .i64 0] : Array Value).toList.drop (0 + [Value.int .i64 a, .int .i64 d].length)).toArray) :=
    ⟨rfl, rfl, rfl, by simp, fun k hk => setRow_other _ _ k _ (by omega)⟩
  generalize hW : ((w.alloc Z10).alloc Z2).setRow (w.heap.size + 1) ((#[.int .i64 0, .int .i64 0] : Array Value).toList.take 0 ++ [Value.int .i64 a, Value.int .i64 d] ++ (#[.int .i64 0, .int .i64 0] : Array Value).toList.drop (0 + [Value.int .i64 a, .int .i64 d].length)).toArray = W2 at F G ⊢
  clear hW
  have HR2 : Hid (W2.heap[w.heap.size]? = some Z10) := by show _ = _; rw [G.block w.heap.size (by omega)]; exact heap_z10 w
  have HB2 : Hid (Below w.heap.size w W2) := (((Below.refl _ _).alloc (Nat.le_refl _) Z10).alloc (by simp) Z2).trans (G.mono (by omega))
  have hz2 : w.heap.size + 1 < W2.heap.size := (Array.getElem?_eq_some_iff.1 F).1
  have a0 : W2.cell? ⟨w.heap.size + 1, 0, none⟩ = some (.int .i64 a) := by rw [cell_of_row _ _ _ _ _ _ F]; rfl
  have a1 : W2.cell? ⟨w.heap.size + 1, 1, none⟩ = some (.int .i64 d) := by rw [cell_of_row _ _ _ _ _ _ F]; rfl
  clear F G
  go_wp2_with fail
  refine (HU.out _).mono ?_
  rintro e w3 ⟨rfl, hb3⟩
  have HR3 : Hid (w3.heap[w.heap.size]? = some Z10) := by show _ = _; rw [hb3.block w.heap.size (by omega)]; exact HR2.out
  have HB3 : Hid (Below w.heap.size w w3) := HB2.out.trans (hb3.mono (by omega))
  have hz3 : w.heap.size + 1 < w3.heap.size := by have := hb3.size; omega
  have hz3' : w.heap.size < w3.heap.size := by omega
  clear hb3 HR2 HB2 hz2 a0 a1
  clear HU
  go_wp2_with fail
  refine (HZ.out _).mono ?_
  rintro e w4 ⟨rfl, hb4⟩
  have HR4 : Hid (w4.heap[w.heap.size]? = some Z10) := by show _ = _; rw [hb4.block w.heap.size (by simp; omega), ((Below.refl w3.heap.size w3).alloc (Nat.le_refl _) _).block w.heap.size hz3']; exact HR3.out
  have HB4 : Hid (Below w.heap.size w w4) := (HB3.out.alloc (by omega) _).trans (hb4.mono (by simp; omega))
  have hz4' : w.heap.size < w4.heap.size := by have := hb4.size; simp at this; omega
  clear hb4 HR3 HB3 hz3 hz3' HZ
  obtain ⟨⟨z0, z1, z2, z3, z4, z5, z6, z7, z8, z9⟩, fz⟩ := z10_cells HR4.out
  go_wp2
  exact bodyPost_ret (v := .tuple #[AO h0 (.slice none 0 0) (.slice none 0 0), .int .i64 6]) (by simp [results, Try.results29, go_sem, z0, z1, z2, z3, z4, z5, z6, z7, z8, z9, h0]) rfl ⟨rfl, set10_below HB4.out (Nat.le_refl _) _ _ _ _ _ _ _ _ _ _⟩

theorem _root_.Go.World.ownsRow.set_other {w : World} {base n size R j : Nat} {e : TypeId} {v u : Value} {xs : List Value} (h : w.ownsRow base e size v n xs) (hR : R < base) : (w.setCell ⟨R, j, none⟩ u).ownsRow base e size v n xs := by
  refine ⟨h.1, h.2.imp id ?_⟩
  rintro ⟨g, cap, cur, e1, e2, e3, r⟩
  exact ⟨g, cap, cur, e1, e2, by rw [heap_setCell_other w ⟨R, j, none⟩ g u (by show g ≠ R; omega)]; exact e3, r⟩
theorem set10_row {w : World} {base n size R : Nat} {e : TypeId} {v : Value} {xs : List Value} (h : w.ownsRow base e size v n xs) (hR : R < base) (v0 v1 v2 v3 v4 v5 v6 v7 v8 v9 : Value) :
    ((((((((((w.setCell ⟨R, 0, none⟩ v0).setCell ⟨R, 1, none⟩ v1).setCell ⟨R, 2, none⟩ v2).setCell ⟨R, 3, none⟩ v3).setCell ⟨R, 4, none⟩ v4).setCell ⟨R, 5, none⟩ v5).setCell ⟨R, 6, none⟩ v6).setCell ⟨R, 7, none⟩ v7).setCell ⟨R, 8, none⟩ v8).setCell ⟨R, 9, none⟩ v9).ownsRow base e size v n xs :=
  (((((((((h.set_other hR).set_other hR).set_other hR).set_other hR).set_other hR).set_other hR).set_other hR).set_other hR).set_other hR).set_other hR

/-- A part of a slice. -/
theorem sub_slice {W : World} {b off L cap X M O C : Nat} {zs : List Int} (h : SliceIs W (.slice (some ⟨b, off, none⟩) L cap) zs) (hl : zs.length = L) (hL : L = 2 + X + 2 * M) (hO : O = off + 2 + X ∨ M = 0) :
    SliceIs W (.slice (some ⟨b, O, none⟩) (L - 2 - X) C) (zs.drop (2 + X)) := by
  refine Or.inr ⟨b, O, C, by rw [List.length_drop, hl]; congr 1; omega, fun i hi => ?_⟩
  rw [List.length_drop, hl] at hi
  rcases h with ⟨_, e, _⟩ | ⟨b', off', cap', e, hc⟩
  · injection e with e1 e2 e3; omega
  · injection e with e1
    injection e1 with e2
    injection e2 with e3 e4
    subst e3; subst e4
    rcases hO with rfl | h0
    · have := hc (2 + X + i) (by omega)
      rw [show off + 2 + X + i = off + (2 + X + i) by omega, this]
      simp [List.getD, List.getElem?_drop]
    · omega
theorem pre_slice {W : World} {b off L cap X M O C : Nat} {zs : List Int} (h : SliceIs W (.slice (some ⟨b, off, none⟩) L cap) zs) (hl : zs.length = L) (hL : L = 2 + X + 2 * M) (hO : O = off + 2 ∨ X = 0) :
    SliceIs W (.slice (some ⟨b, O, none⟩) X C) ((zs.drop 2).take X) := by
  have hlen : ((zs.drop 2).take X).length = X := by rw [List.length_take, List.length_drop, hl]; omega
  refine Or.inr ⟨b, O, C, by rw [hlen], fun i hi => ?_⟩
  rw [hlen] at hi
  rcases h with ⟨_, e, _⟩ | ⟨b', off', cap', e, hc⟩
  · injection e with e1 e2 e3; omega
  · injection e with e1
    injection e1 with e2
    injection e2 with e3 e4
    subst e3; subst e4
    rcases hO with rfl | h0
    · have := hc (2 + i) (by omega)
      rw [show off + 2 + i = off + (2 + i) by omega, this]
      simp [List.getD, List.getElem?_drop, hi]
    · omega

end Go.Proofs.Ytnmchcanijkggaa
