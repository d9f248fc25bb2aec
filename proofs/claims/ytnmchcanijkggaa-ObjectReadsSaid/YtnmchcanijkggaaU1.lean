/- The document's Read. -/
import Derived.Test.YtnmchcanijkggaaM6
import Derived.Test.YtnmchcanijkggaaO7
namespace Go.Proofs.Ytnmchcanijkggaa
open Go.RowKit Go.Lib
set_option linter.unusedVariables false
set_option linter.unusedSimpArgs false

/-- What many ways come to is shown once. -/
structure Once (P : Prop) : Prop where
  out : P
theorem once {P G : Prop} (k : Once P → G) (h : P) : G := k ⟨h⟩

theorem hp_lt {w : World} {k : Nat} {o : Obj} (h : w.heap[k]? = some o) : k < w.heap.size := (Array.getElem?_eq_some_iff.1 h).1
theorem cell_of {w : World} {b : Nat} {c : Array Value} {e : TypeId} {f : Nat × Nat} (h : w.heap[b]? = some (.cells c e f)) (o : Nat) : w.cell? ⟨b, o, none⟩ = c[o]? := by
  simp [World.cell?, h]
theorem frozen_of {w : World} {b : Nat} {c : Array Value} {e : TypeId} (h : w.heap[b]? = some (.cells c e (0, 0))) (o : Nat) : w.frozen? ⟨b, o, none⟩ = false := by
  simp [World.frozen?, h]

/-- A head, an object, as blocks. -/
abbrev hdO (g : Hd) : Obj := .cells #[.int .i64 g.k, .int .i64 g.c, .int .i64 g.a, .int .i64 g.w, .int .i64 g.s, .int .i64 g.f, .int .i64 g.x, .int .i64 g.l] 23 (0, 0)
abbrev obO (g : Hd) (av sv : Value) : Obj := .cells #[.int .i64 g.k, .int .i64 g.c, .int .i64 g.a, .int .i64 g.w, .int .i64 g.s, .int .i64 g.f, .int .i64 g.x, .int .i64 g.l, av, sv] 43 (0, 0)

theorem hd_seen {w : World} {N : Nat} {g : Hd} (h : w.heap[N]? = some (hdO g)) : SeenH8 N g w := by
  refine ⟨?_, ?_, ?_, ?_, ?_, ?_, ?_, ?_⟩
  all_goals (rw [cell_of h]; rfl)

/-- Cells are appended to a row, at a step of a region that draws its order. -/
theorem step_row {ops : Array Oper} {o : Oper} {a : Act} {w : World} {K : Act → World → Prop} {Q : Exit → Act → World → Prop} {E : Prop} (hgd : o.guard = none) (s x : Operand)
    (ho : o.op = .call { callee := .builtin .append, args := #[s, x], argTypes := #[40, 40] }) (base : Nat) (v : Value) (xs : List Int) (hs : a.eval s = v) (hrow : Row w base v xs)
    (b off n c : Nat) (zs : List Int) (hx : a.eval x = .slice (some ⟨b, off, none⟩) n c) (hn : zs.length = n) (hc : ∀ i, i < zs.length → w.cell? ⟨b, off + i, none⟩ = some (.int .i64 (zs.getD i 0))) (hlen : xs.length + zs.length ≤ 1000000) (hbase : base ≤ w.heap.size)
    (h : ∀ v' w', Hid (Row w' base v' (xs ++ zs)) → Hid (Below base w w') → K (a.put o.dst v') w') :
    if Region.wanted o (yielded ops a.tmps) = true then Oper.wp Try.prog o a w K Q else E := by
  have hw : Region.wanted o (yielded ops a.tmps) = true := by simp [Region.wanted, hgd]
  rw [if_pos hw]
  obtain ⟨i0, hi, hz0, hz1, hz2⟩ := info_parts info2
  refine wp_append_own w s x 40 ho base 2 i0 (.int .i64 0) 1 8 Try.underlying40 hi hz0 hz1 hz2 rfl (by decide) v xs.length (ic xs) hs hrow ⟨b, off, none⟩ n c (ic zs) hx (by rw [ic_length, hn, Nat.mul_one]) (ic_news hc) (ic_one _)
      (by unfold maxLen; omega) (by omega) hbase ?_
  intro v' w' h1 h2 h3
  refine h v' w' ?_ ((Below.refl _ _).grown h2 hbase (fun k hk => (World.ownsRow.lt hrow k hk).1))
  show World.ownsRow _ _ _ _ _ _ _
  rw [List.length_append, ic_append, hn]; exact h1

/-- A value is appended to a row of values. -/
theorem app_pair {ops : Array Oper} {rest : List Oper} {o : Oper} {a : Act} {Q : Exit → Act → World → Prop} {w : World} (hgd : o.guard = none) (s x : Operand)
    (ho : o.op = .call { callee := .builtin .append, args := #[s, x], argTypes := #[41, 41] }) (base : Nat) (v : Value) (ps : List (Int × Int)) (hs : a.eval s = v) (hrow : PRow w base v ps)
    (N : Nat) (t n : Int) (hx : a.eval x = .slice (some ⟨N, 0, none⟩) 1 1) (c0 : w.cell? ⟨N, 0, none⟩ = some (.int .i64 t)) (c1 : w.cell? ⟨N, 1, none⟩ = some (.int .i64 n)) (hlen : ps.length + 1 ≤ 1000000) (hbase : base ≤ w.heap.size)
    (h : ∀ v' w', Hid (PRow w' base v' (ps ++ [(t, n)])) → Hid (Below base w w') → wpList Try.prog ops Q rest (a.put o.dst v') w') : wpList Try.prog ops Q (o :: rest) a w := by
  obtain ⟨i0, hi, hz0, hz1, hz2⟩ := info_parts info38
  refine wpList_append_own _ hgd s x 41 ho base 38 i0 _ 2 16 Try.underlying41 hi hz0 hz1 hz2 rfl (by decide) v ps.length (ic (flatP ps)) hs hrow ⟨N, 0, none⟩ 1 1 (ic [t, n]) hx rfl ?_ (ic_one _)
      (by unfold maxLen; omega) (by omega) hbase ?_
  · intro j u hu
    rcases j with _ | _ | j
    · simp [ic] at hu; subst hu; simpa [Addr.add] using c0
    · simp [ic] at hu; subst hu; simpa [Addr.add] using c1
    · simp [ic] at hu
  · intro v' w' h1 h2 h3
    refine h v' w' ?_ ((Below.refl _ _).grown h2 hbase (fun k hk => (World.ownsRow.lt hrow k hk).1))
    show World.ownsRow _ _ _ _ _ _ _
    have e : flatP (ps ++ [(t, n)]) = flatP ps ++ [t, n] := by simp [flatP]
    rw [List.length_append, e, ic_append]; exact h1

theorem valB_out {t n : Int} (h : t < 0 ∨ 11 < t) : valB t n = false := by
  refine valB_none ?_ (by omega) (by omega) (by omega) (by omega) (by omega) (by omega)
  simp only [isObj, Bool.and_eq_false_iff, decide_eq_false_iff_not]; omega

set_option maxHeartbeats 4000000 in
theorem RRead_short (v : Value) (zs : List Int) (w : World) (hv : SliceIs w v zs) (hz : zs.length < 2) :
    Calls Try.prog 30 #[v] w fun e w' => e = .returned (.tuple #[AO h0 (.slice none 0 0) (.slice none 0 0), .int .i64 6]) ∧ Below w.heap.size w w' := by
  obtain ⟨ao, ca, rfl⟩ := hv.form
  generalize zs.length = L at hz hv ⊢
  clear hv
  have hl : (L : Int) < 2 := by omega
  go_enter Try.func30, Try.ntmps30
  go_wp2
  exact bodyPost_ret (v := .tuple #[AO h0 (.slice none 0 0) (.slice none 0 0), .int .i64 6]) (by simp [results, Try.results30, go_sem, h0]) rfl ⟨rfl, (Below.refl _ _).alloc (Nat.le_refl _) _⟩

abbrev ZH8 : Obj := .cells #[.int .i64 0, .int .i64 0, .int .i64 0, .int .i64 0, .int .i64 0, .int .i64 0, .int .i64 0, .int .i64 0] 23
theorem z8_cells {R : Nat} {w : World} (h : w.heap[R]? = some ZH8) :
    (w.cell? ⟨R, 0, none⟩ = some (.int .i64 0) ∧ w.cell? ⟨R, 1, none⟩ = some (.int .i64 0) ∧ w.cell? ⟨R, 2, none⟩ = some (.int .i64 0) ∧ w.cell? ⟨R, 3, none⟩ = some (.int .i64 0) ∧ w.cell? ⟨R, 4, none⟩ = some (.int .i64 0) ∧ w.cell? ⟨R, 5, none⟩ = some (.int .i64 0) ∧ w.cell? ⟨R, 6, none⟩ = some (.int .i64 0) ∧ w.cell? ⟨R, 7, none⟩ = some (.int .i64 0)) ∧ ∀ j, w.frozen? ⟨R, j, none⟩ = false := by
  refine ⟨⟨?_, ?_, ?_, ?_, ?_, ?_, ?_, ?_⟩, fun j => frozen_of h j⟩
  all_goals (rw [cell_of h]; rfl)
theorem hp_set_same {w : World} {b : Nat} {c : Array Value} {e : TypeId} {f : Nat × Nat} (h : w.heap[b]? = some (.cells c e f)) (o : Nat) (v : Value) : (w.setCell ⟨b, o, none⟩ v).heap[b]? = some (.cells (c.setIfInBounds o v) e f) := by
  show (w.heap.modify b _)[b]? = _
  rw [Array.getElem?_modify, if_pos rfl, h]; rfl
theorem hp_set_other {w : World} {b k : Nat} {x : Obj} (h : w.heap[k]? = some x) (o : Nat) (v : Value) (hn : k ≠ b) : (w.setCell ⟨b, o, none⟩ v).heap[k]? = some x := by
  rw [Below.heap_setCell w _ v k hn, h]
/-- Behind the head's reading. -/
def RHead (w W : World) (H : Nat) (g : Hd) : Prop := Below w.heap.size w W ∧ W.heap[w.heap.size]? = some Z10 ∧ W.heap[H]? = some (hdO g) ∧ w.heap.size < H
theorem rhead {w w3 : World} {H : Nat} {g : Hd} (hb : Below w.heap.size w w3) (hn : w3.heap[w.heap.size]? = some Z10) (hz : w3.heap[H]? = some ZH8) (hH : w.heap.size < H) : RHead w ((((((((w3.setCell ⟨H, 0, none⟩ (.int .i64 g.k)).setCell ⟨H, 1, none⟩ (.int .i64 g.c)).setCell ⟨H, 2, none⟩ (.int .i64 g.a)).setCell ⟨H, 3, none⟩ (.int .i64 g.w)).setCell ⟨H, 4, none⟩ (.int .i64 g.s)).setCell ⟨H, 5, none⟩ (.int .i64 g.f)).setCell ⟨H, 6, none⟩ (.int .i64 g.x)).setCell ⟨H, 7, none⟩ (.int .i64 g.l)) H g := by
  have hne : w.heap.size ≠ H := by omega
  have hle : w.heap.size ≤ H := by omega
  refine ⟨(((((((hb.setCell hle _).setCell hle _).setCell hle _).setCell hle _).setCell hle _).setCell hle _).setCell hle _).setCell hle _, ?_, ?_, hH⟩
  · exact hp_set_other (hp_set_other (hp_set_other (hp_set_other (hp_set_other (hp_set_other (hp_set_other (hp_set_other hn _ _ hne) _ _ hne) _ _ hne) _ _ hne) _ _ hne) _ _ hne) _ _ hne) _ _ hne
  · rw [hp_set_same (hp_set_same (hp_set_same (hp_set_same (hp_set_same (hp_set_same (hp_set_same (hp_set_same hz 0 _) 1 _) 2 _) 3 _) 4 _) 5 _) 6 _) 7 _]
    simp only [List.setIfInBounds_toArray, List.set_cons_zero, List.set_cons_succ]


theorem RHead.later {w W W' : World} {H : Nat} {g : Hd} (h : RHead w W H g) (hb : Below W.heap.size W W') : RHead w W' H g :=
  ⟨h.1.trans (hb.mono h.1.size), (hb.block _ (hp_lt h.2.1)).trans h.2.1, (hb.block _ (hp_lt h.2.2.1)).trans h.2.2.1, h.2.2.2⟩

theorem ob_cells {R : Nat} {w : World} {g : Hd} {av sv : Value} (h : w.heap[R]? = some (obO g av sv)) : SeenO R g av sv w ∧ ∀ j, w.frozen? ⟨R, j, none⟩ = false := by
  refine ⟨⟨?_, ?_, ?_, ?_, ?_, ?_, ?_, ?_, ?_, ?_⟩, fun j => frozen_of h j⟩
  all_goals (rw [cell_of h]; rfl)
theorem ob_aux {R : Nat} {w : World} {g : Hd} {av sv v : Value} (h : w.heap[R]? = some (obO g av sv)) : (w.setCell ⟨R, 8, none⟩ v).heap[R]? = some (obO g v sv) := by
  rw [hp_set_same h]; rfl
theorem ob_slots {R : Nat} {w : World} {g : Hd} {av sv v : Value} (h : w.heap[R]? = some (obO g av sv)) : (w.setCell ⟨R, 9, none⟩ v).heap[R]? = some (obO g av v) := by
  rw [hp_set_same h]; rfl

/-- While the slots are read. -/
structure RInv (w : World) (H Ob B0 B1 : Nat) (g : Hd) (av sv : Value) (aux : List Int) (ps : List (Int × Int)) (W : World) : Prop where
  hd : RHead w W H g
  ob : W.heap[Ob]? = some (obO g av sv)
  row : Row W B0 av aux
  pro : PRow W B1 sv ps
  abl : ∀ k, av.ownBlock = some k → k < B1
  le : B1 ≤ W.heap.size
  o1 : H < Ob
  o2 : Ob < B0
  o3 : B0 ≤ B1

theorem row_kept {w w' : World} {base n size : Nat} {e : TypeId} {v : Value} {xs : List Value} (h : w.ownsRow base e size v n xs) (hk : ∀ k, v.ownBlock = some k → w'.heap[k]? = w.heap[k]?) : w'.ownsRow base e size v n xs := by
  refine ⟨h.1, h.2.imp id ?_⟩
  rintro ⟨g, cap, cur, e1, e2, e3, r⟩
  refine ⟨g, cap, cur, e1, e2, ?_, r⟩
  rw [hk g (by rw [e1]; rfl)]; exact e3

/-- Blocks below B1 stay. -/
theorem RInv.turn {w : World} {H Ob B0 B1 : Nat} {g : Hd} {av sv sv' : Value} {aux : List Int} {ps ps' : List (Int × Int)} {W W' : World} (h : RInv w H Ob B0 B1 g av sv aux ps W) (hb : Below B1 W W') (hp : PRow W' B1 sv' ps') :
    W'.heap[Ob]? = some (obO g av sv) ∧ RInv w H Ob B0 B1 g av sv' aux ps' (W'.setCell ⟨Ob, 9, none⟩ sv') := by
  have h1 := h.o1
  have h2 := h.o2
  have h3 := h.o3
  have hw := h.hd.2.2.2
  have hob : W'.heap[Ob]? = some (obO g av sv) := (hb.block Ob (by omega)).trans h.ob
  refine ⟨hob, ⟨?_, ob_slots hob, ?_, World.ownsRow.set_other hp (by omega), h.abl, ?_, h1, h2, h3⟩⟩
  · refine ⟨(h.hd.1.trans (hb.mono (by omega))).setCell (by show _ ≤ Ob; omega) _, hp_set_other ((hb.block _ (by omega)).trans h.hd.2.1) _ _ (by omega), hp_set_other ((hb.block _ (by omega)).trans h.hd.2.2.1) _ _ (by omega), hw⟩
  · exact World.ownsRow.set_other (row_kept h.row (fun k hk => hb.block k (h.abl k hk))) (by omega)
  · have := hb.size; have := h.le; simp [World.setCell]; omega
theorem RInv.later {w : World} {H Ob B0 B1 : Nat} {g : Hd} {av sv : Value} {aux : List Int} {ps : List (Int × Int)} {W W' : World} (h : RInv w H Ob B0 B1 g av sv aux ps W) (hb : Below W.heap.size W W') : RInv w H Ob B0 B1 g av sv aux ps W' := by
  refine ⟨h.hd.later hb, (hb.block _ (hp_lt h.ob)).trans h.ob, World.ownsRow.below h.row hb, World.ownsRow.below h.pro hb, h.abl, Nat.le_trans h.le hb.size, h.o1, h.o2, h.o3⟩

/-- A block that is none of these turns. -/
theorem RInv.aside {w : World} {H Ob B0 B1 V : Nat} {g : Hd} {av sv : Value} {aux : List Int} {ps : List (Int × Int)} {W : World} (h : RInv w H Ob B0 B1 g av sv aux ps W) (hV : B1 ≤ V) (hs : ∀ k, sv.ownBlock = some k → k < V) (j : Nat) (v : Value) : RInv w H Ob B0 B1 g av sv aux ps (W.setCell ⟨V, j, none⟩ v) := by
  have h1 := h.o1
  have h2 := h.o2
  have h3 := h.o3
  have hw := h.hd.2.2.2
  have hk : ∀ k, k ≠ V → (W.setCell ⟨V, j, none⟩ v).heap[k]? = W.heap[k]? := fun k hk => Below.heap_setCell W _ v k hk
  refine ⟨⟨h.hd.1.setCell (by show _ ≤ V; omega) _, (hk _ (by omega)).trans h.hd.2.1, (hk _ (by omega)).trans h.hd.2.2.1, hw⟩, (hk _ (by omega)).trans h.ob, row_kept h.row (fun k hk' => hk k (by have := h.abl k hk'; omega)), row_kept h.pro (fun k hk' => hk k (by have := hs k hk'; omega)), h.abl, ?_, h1, h2, h3⟩
  have := h.le; simp [World.setCell]; omega

/-- What is asked of the head and the length. -/
def RCase (zs : List Int) (L X M : Nat) (g : Hd) (er : Int) : Prop :=
  (er = 6 ∧ readB zs = false) ∨ (er = 0 ∧ ((sizeN g ≠ (L : Int) ∧ readB zs = false) ∨
    (sizeN g = (L : Int) ∧ g.x = (X : Int) ∧ g.l = (M : Int) ∧ L = 2 + X + 2 * M ∧ readB zs = allB (pairsOf (zs.drop (2 + X)) M) ∧ auxOf zs = (zs.drop 2).take X ∧ slotsOf zs = pairsOf (zs.drop (2 + X)) M ∧ g = headOf zs)))

set_option maxHeartbeats 4000000 in
theorem RRead_ok (zs : List Int) (b off L cap X M : Nat) (a d : Int) (g : Hd) (er : Int) (w : World) (hz : 2 ≤ L) (hc : L ≤ cap) (hcm : cap ≤ 9223372036854775807) (hm : L ≤ 100000) (hLen : zs.length = L) (hzs : SliceIs w (.slice (some ⟨b, off, none⟩) L cap) zs) (hI : Iall zs) (hCase : RCase zs L X M g er)
    (HC : Hid (∀ W, Below w.heap.size w W → W.cell? ⟨b, off, none⟩ = some (.int .i64 a) ∧ W.cell? ⟨b, off + 1, none⟩ = some (.int .i64 d)))
    (HU : Hid (∀ w, Calls Try.prog 21 #[.int .i64 a, .int .i64 d] w fun e w' => e = .returned (.tuple #[AH g, .int .i64 er]) ∧ Below w.heap.size w w')) :
    Calls Try.prog 30 #[.slice (some ⟨b, off, none⟩) L cap] w fun e w' => ReadOut zs w w' e ∧ Below w.heap.size w w' := by
  have HCs : Hid (RCase zs L X M g er) := hCase
  have HQ : Hid (SliceIs w (.slice (some ⟨b, off, none⟩) L cap) zs ∧ zs.length = L ∧ Iall zs) := ⟨hzs, hLen, hI⟩
  clear hCase hzs hLen hI
  have hl : ¬ ((L : Int) < 2) := by omega
  have k0 : (0 : Int) < (L : Int) := by omega
  have k1 : (1 : Int) < (L : Int) := by omega
  have kL : ¬ L = 0 := by omega
  have kL1 : 1 < L := by omega
  go_enter Try.func30, Try.ntmps30
  go_wp2_with fail
  obtain ⟨W1, HW1⟩ : ∃ W1, Hid (W1 = w.alloc Z10) := ⟨_, rfl⟩
  have HB1 : Hid (Below w.heap.size w W1.drew) := by show Below _ _ _; rw [HW1.out]; exact ((Below.refl _ _).alloc (Nat.le_refl _) _).drew
  have HZ1 : Hid (W1.drew.heap[w.heap.size]? = some Z10) := by show _ = _; rw [HW1.out]; exact heap_alloc_new w Z10
  have hz1 : w.heap.size < W1.drew.heap.size := hp_lt HZ1.out
  have HS1 : Hid (W1.drew.cell? ⟨b, off, none⟩ = some (.int .i64 a) ∧ W1.drew.cell? ⟨b, off + 1, none⟩ = some (.int .i64 d)) := HC.out _ HB1.out
  rw [← HW1.out]
  clear HW1
  refine wp_region_held_drew (S := fun w' => w'.cell? ⟨b, off, none⟩ = some (.int .i64 a) ∧ w'.cell? ⟨b, off + 1, none⟩ = some (.int .i64 d)) (by kernel_rfl) HS1.out (fun _ => ?_)
  generalize W1.drew = w1 at HB1 HZ1 hz1 HS1 ⊢
  refine wpAnyH_take (i := 0) (v := Value.slice (some ⟨b, off, none⟩) L cap) rfl (by kernel_rfl) (by kernel_rfl) (by kernel_rfl) (fun _ _ _ h => h) (Or.inl ⟨by kernel_rfl, ?_⟩) HS1.out ?_
  · intro w' _; rfl
  try simp only [Act.put, List.setIfInBounds_toArray, List.set_cons_zero, List.set_cons_succ, List.getElem_toArray, List.getElem_cons_zero, List.getElem_cons_succ]
  refine wpAnyH_take (i := 1) (v := Value.pointer (some ⟨b, off, none⟩)) rfl (by kernel_rfl) (by kernel_rfl) (by kernel_rfl) (fun _ _ _ h => h) (Or.inl ⟨by kernel_rfl, ?_⟩) HS1.out ?_
  · intro w' _; simp [go_sem, k0, kL]
  try simp only [Act.put, List.setIfInBounds_toArray, List.set_cons_zero, List.set_cons_succ, List.getElem_toArray, List.getElem_cons_zero, List.getElem_cons_succ]
  refine wpAnyH_take (i := 2) (v := Value.int .i64 a) rfl (by kernel_rfl) (by kernel_rfl) (by kernel_rfl) (fun _ _ _ h => h) (Or.inl ⟨by kernel_rfl, ?_⟩) HS1.out ?_
  · rintro w' ⟨r0, r1⟩; simp [go_sem, r0]
  try simp only [Act.put, List.setIfInBounds_toArray, List.set_cons_zero, List.set_cons_succ, List.getElem_toArray, List.getElem_cons_zero, List.getElem_cons_succ]
  refine wpAnyH_take (i := 3) (v := Value.slice (some ⟨b, off, none⟩) L cap) rfl (by kernel_rfl) (by kernel_rfl) (by kernel_rfl) (fun _ _ _ h => h) (Or.inl ⟨by kernel_rfl, ?_⟩) HS1.out ?_
  · intro w' _; rfl
  try simp only [Act.put, List.setIfInBounds_toArray, List.set_cons_zero, List.set_cons_succ, List.getElem_toArray, List.getElem_cons_zero, List.getElem_cons_succ]
  refine wpAnyH_take (i := 4) (v := Value.pointer (some ⟨b, off + 1, none⟩)) rfl (by kernel_rfl) (by kernel_rfl) (by kernel_rfl) (fun _ _ _ h => h) (Or.inl ⟨by kernel_rfl, ?_⟩) HS1.out ?_
  · intro w' _; simp [go_sem, k1, kL]
  try simp only [Act.put, List.setIfInBounds_toArray, List.set_cons_zero, List.set_cons_succ, List.getElem_toArray, List.getElem_cons_zero, List.getElem_cons_succ]
  refine wpAnyH_take (i := 5) (v := Value.int .i64 d) rfl (by kernel_rfl) (by kernel_rfl) (by kernel_rfl) (fun _ _ _ h => h) (Or.inl ⟨by kernel_rfl, ?_⟩) HS1.out ?_
  · rintro w' ⟨r0, r1⟩; simp [go_sem, r1]
  try simp only [Act.put, List.setIfInBounds_toArray, List.set_cons_zero, List.set_cons_succ, List.getElem_toArray, List.getElem_cons_zero, List.getElem_cons_succ]
  apply once
  case k =>
    intro hOnce
    refine wpAnyH_ready (rs := [6, 10]) (by kernel_rfl) (by simp) ?_
    refine AllReadyH.cons rfl (fun K hK => ?_) (AllReadyH.cons rfl (fun K hK => ?_) AllReadyH.nil)
    · go_simp
      refine (HU.out _).mono ?_
      rintro e w2 ⟨rfl, hb2⟩
      have HB2 : Hid (Below w1.heap.size w1 w2) := hb2
      have HS2 : Hid (w2.cell? ⟨b, off, none⟩ = some (.int .i64 a) ∧ w2.cell? ⟨b, off + 1, none⟩ = some (.int .i64 d)) := HC.out _ (HB1.out.trans (HB2.out.mono (Nat.le_of_lt hz1)))
      clear hb2
      refine hK.out _ _ HS2.out (fun _ => ?_)
      clear hK
      try simp only [Act.put, List.setIfInBounds_toArray, List.set_cons_zero, List.set_cons_succ, List.getElem_toArray, List.getElem_cons_zero, List.getElem_cons_succ]
      refine wpAnyH_take (i := 7) (v := Value.tuple #[AH g, .int .i64 er]) rfl (by kernel_rfl) (by kernel_rfl) (by kernel_rfl) (fun _ _ _ h => h) (Or.inl ⟨by kernel_rfl, ?_⟩) HS2.out ?_
      · intro w' _; rfl
      try simp only [Act.put, List.setIfInBounds_toArray, List.set_cons_zero, List.set_cons_succ, List.getElem_toArray, List.getElem_cons_zero, List.getElem_cons_succ]
      refine wpAnyH_take (i := 8) (v := AH g) rfl (by kernel_rfl) (by kernel_rfl) (by kernel_rfl) (fun _ _ _ h => h) (Or.inl ⟨by kernel_rfl, ?_⟩) HS2.out ?_
      · intro w' _; simp [go_sem]
      try simp only [Act.put, List.setIfInBounds_toArray, List.set_cons_zero, List.set_cons_succ, List.getElem_toArray, List.getElem_cons_zero, List.getElem_cons_succ]
      refine wpAnyH_take (i := 9) (v := Value.int .i64 er) rfl (by kernel_rfl) (by kernel_rfl) (by kernel_rfl) (fun _ _ _ h => h) (Or.inl ⟨by kernel_rfl, ?_⟩) HS2.out ?_
      · intro w' _; simp [go_sem]
      try simp only [Act.put, List.setIfInBounds_toArray, List.set_cons_zero, List.set_cons_succ, List.getElem_toArray, List.getElem_cons_zero, List.getElem_cons_succ]
      have HB3 : Hid (Below w.heap.size w (w2.alloc ZH8)) := (HB1.out.trans (HB2.out.mono (Nat.le_of_lt hz1))).alloc (Nat.le_trans (Nat.le_of_lt hz1) HB2.out.size) _
      have HN3 : Hid ((w2.alloc ZH8).heap[w.heap.size]? = some Z10) := by show _ = _; rw [((Below.refl w2.heap.size w2).alloc (Nat.le_refl _) _).block w.heap.size (Nat.lt_of_lt_of_le hz1 HB2.out.size), HB2.out.block _ hz1]; exact HZ1.out
      have HZ3 : Hid ((w2.alloc ZH8).heap[w2.heap.size]? = some ZH8) := heap_alloc_new w2 ZH8
      have hH : w.heap.size < w2.heap.size := Nat.lt_of_lt_of_le hz1 HB2.out.size
      refine wpAnyH_ready (rs := [10]) (by kernel_rfl) (by simp) ?_
      refine AllReadyH.cons rfl (fun K hK => ?_) AllReadyH.nil
      go_simp
      refine hK.out _ _ (HC.out _ HB3.out) (fun _ => ?_)
      clear hK
      try simp only [Act.put, List.setIfInBounds_toArray, List.set_cons_zero, List.set_cons_succ, List.getElem_toArray, List.getElem_cons_zero, List.getElem_cons_succ]
      generalize w2.heap.size = H at HZ3 hH ⊢
      generalize w2.alloc ZH8 = w3 at HB3 HN3 HZ3 ⊢
      obtain ⟨⟨z0, z1, z2, z3, z4, z5, z6, z7⟩, fz⟩ := z8_cells HZ3.out
      refine wpAnyH_ready (rs := [11]) (by kernel_rfl) (by simp) ?_
      refine AllReadyH.cons rfl (fun K hK => ?_) AllReadyH.nil
      go_simp
      have HF : Hid (RHead w ((((((((w3.setCell ⟨H, 0, none⟩ (.int .i64 g.k)).setCell ⟨H, 1, none⟩ (.int .i64 g.c)).setCell ⟨H, 2, none⟩ (.int .i64 g.a)).setCell ⟨H, 3, none⟩ (.int .i64 g.w)).setCell ⟨H, 4, none⟩ (.int .i64 g.s)).setCell ⟨H, 5, none⟩ (.int .i64 g.f)).setCell ⟨H, 6, none⟩ (.int .i64 g.x)).setCell ⟨H, 7, none⟩ (.int .i64 g.l)) H g) := rhead HB3.out HN3.out HZ3.out hH
      clear z0 z1 z2 z3 z4 z5 z6 z7 fz
      generalize ((((((((w3.setCell ⟨H, 0, none⟩ (.int .i64 g.k)).setCell ⟨H, 1, none⟩ (.int .i64 g.c)).setCell ⟨H, 2, none⟩ (.int .i64 g.a)).setCell ⟨H, 3, none⟩ (.int .i64 g.w)).setCell ⟨H, 4, none⟩ (.int .i64 g.s)).setCell ⟨H, 5, none⟩ (.int .i64 g.f)).setCell ⟨H, 6, none⟩ (.int .i64 g.x)).setCell ⟨H, 7, none⟩ (.int .i64 g.l)) = W at HF hK ⊢
      refine hK.out _ _ (HC.out _ HF.out.1) (fun hS => ?_)
      clear hK
      try simp only [Act.put, List.setIfInBounds_toArray, List.set_cons_zero, List.set_cons_succ, List.getElem_toArray, List.getElem_cons_zero, List.getElem_cons_succ]
      refine wpAnyH_take (i := 12) (v := Value.int .i64 er) rfl (by kernel_rfl) (by kernel_rfl) (by kernel_rfl) (fun _ _ _ h => h) (Or.inl ⟨by kernel_rfl, ?_⟩) hS ?_
      · intro w' _; simp [go_sem]
      try simp only [Act.put, List.setIfInBounds_toArray, List.set_cons_zero, List.set_cons_succ, List.getElem_toArray, List.getElem_cons_zero, List.getElem_cons_succ]
      clear hS
      refine wpAnyH_done (by kernel_rfl) ?_ _
      clear HB3 HN3 HZ3 hH
      revert W H
      exact hOnce.out
    · go_simp
      have HB3 : Hid (Below w.heap.size w (w1.alloc ZH8)) := HB1.out.alloc (Nat.le_of_lt hz1) _
      have HN3 : Hid ((w1.alloc ZH8).heap[w.heap.size]? = some Z10) := by show _ = _; rw [((Below.refl w1.heap.size w1).alloc (Nat.le_refl _) _).block w.heap.size hz1]; exact HZ1.out
      have HZ3 : Hid ((w1.alloc ZH8).heap[w1.heap.size]? = some ZH8) := heap_alloc_new w1 ZH8
      have hH : w.heap.size < w1.heap.size := hz1
      refine hK.out _ _ (HC.out _ HB3.out) (fun _ => ?_)
      clear hK
      try simp only [Act.put, List.setIfInBounds_toArray, List.set_cons_zero, List.set_cons_succ, List.getElem_toArray, List.getElem_cons_zero, List.getElem_cons_succ]
      generalize w1.heap.size = H at HZ3 hH ⊢
      generalize w1.alloc ZH8 = w2 at HB3 HN3 HZ3 ⊢
      refine wpAnyH_ready (rs := [6]) (by kernel_rfl) (by simp) ?_
      refine AllReadyH.cons rfl (fun K hK => ?_) AllReadyH.nil
      go_simp
      refine (HU.out _).mono ?_
      rintro e w3 ⟨rfl, hb3⟩
      have HB4 : Hid (Below w.heap.size w w3) := HB3.out.trans (hb3.mono HB3.out.size)
      have HN4 : Hid (w3.heap[w.heap.size]? = some Z10) := (hb3.block _ (hp_lt HN3.out)).trans HN3.out
      have HZ4 : Hid (w3.heap[H]? = some ZH8) := (hb3.block _ (hp_lt HZ3.out)).trans HZ3.out
      clear hb3 HB3 HN3 HZ3
      refine hK.out _ _ (HC.out _ HB4.out) (fun hS => ?_)
      clear hK
      try simp only [Act.put, List.setIfInBounds_toArray, List.set_cons_zero, List.set_cons_succ, List.getElem_toArray, List.getElem_cons_zero, List.getElem_cons_succ]
      refine wpAnyH_take (i := 7) (v := Value.tuple #[AH g, .int .i64 er]) rfl (by kernel_rfl) (by kernel_rfl) (by kernel_rfl) (fun _ _ _ h => h) (Or.inl ⟨by kernel_rfl, ?_⟩) hS ?_
      · intro w' _; rfl
      try simp only [Act.put, List.setIfInBounds_toArray, List.set_cons_zero, List.set_cons_succ, List.getElem_toArray, List.getElem_cons_zero, List.getElem_cons_succ]
      refine wpAnyH_take (i := 8) (v := AH g) rfl (by kernel_rfl) (by kernel_rfl) (by kernel_rfl) (fun _ _ _ h => h) (Or.inl ⟨by kernel_rfl, ?_⟩) hS ?_
      · intro w' _; simp [go_sem]
      try simp only [Act.put, List.setIfInBounds_toArray, List.set_cons_zero, List.set_cons_succ, List.getElem_toArray, List.getElem_cons_zero, List.getElem_cons_succ]
      refine wpAnyH_take (i := 9) (v := Value.int .i64 er) rfl (by kernel_rfl) (by kernel_rfl) (by kernel_rfl) (fun _ _ _ h => h) (Or.inl ⟨by kernel_rfl, ?_⟩) hS ?_
      · intro w' _; simp [go_sem]
      try simp only [Act.put, List.setIfInBounds_toArray, List.set_cons_zero, List.set_cons_succ, List.getElem_toArray, List.getElem_cons_zero, List.getElem_cons_succ]
      clear hS
      have HB3 := HB4
      have HN3 := HN4
      have HZ3 := HZ4
      clear HB4 HN4 HZ4
      obtain ⟨⟨z0, z1, z2, z3, z4, z5, z6, z7⟩, fz⟩ := z8_cells HZ3.out
      refine wpAnyH_ready (rs := [11]) (by kernel_rfl) (by simp) ?_
      refine AllReadyH.cons rfl (fun K hK => ?_) AllReadyH.nil
      go_simp
      have HF : Hid (RHead w ((((((((w3.setCell ⟨H, 0, none⟩ (.int .i64 g.k)).setCell ⟨H, 1, none⟩ (.int .i64 g.c)).setCell ⟨H, 2, none⟩ (.int .i64 g.a)).setCell ⟨H, 3, none⟩ (.int .i64 g.w)).setCell ⟨H, 4, none⟩ (.int .i64 g.s)).setCell ⟨H, 5, none⟩ (.int .i64 g.f)).setCell ⟨H, 6, none⟩ (.int .i64 g.x)).setCell ⟨H, 7, none⟩ (.int .i64 g.l)) H g) := rhead HB3.out HN3.out HZ3.out hH
      clear z0 z1 z2 z3 z4 z5 z6 z7 fz
      generalize ((((((((w3.setCell ⟨H, 0, none⟩ (.int .i64 g.k)).setCell ⟨H, 1, none⟩ (.int .i64 g.c)).setCell ⟨H, 2, none⟩ (.int .i64 g.a)).setCell ⟨H, 3, none⟩ (.int .i64 g.w)).setCell ⟨H, 4, none⟩ (.int .i64 g.s)).setCell ⟨H, 5, none⟩ (.int .i64 g.f)).setCell ⟨H, 6, none⟩ (.int .i64 g.x)).setCell ⟨H, 7, none⟩ (.int .i64 g.l)) = W at HF hK ⊢
      refine hK.out _ _ (HC.out _ HF.out.1) (fun hS => ?_)
      clear hK
      try simp only [Act.put, List.setIfInBounds_toArray, List.set_cons_zero, List.set_cons_succ, List.getElem_toArray, List.getElem_cons_zero, List.getElem_cons_succ]
      refine wpAnyH_take (i := 12) (v := Value.int .i64 er) rfl (by kernel_rfl) (by kernel_rfl) (by kernel_rfl) (fun _ _ _ h => h) (Or.inl ⟨by kernel_rfl, ?_⟩) hS ?_
      · intro w' _; simp [go_sem]
      try simp only [Act.put, List.setIfInBounds_toArray, List.set_cons_zero, List.set_cons_succ, List.getElem_toArray, List.getElem_cons_zero, List.getElem_cons_succ]
      clear hS
      refine wpAnyH_done (by kernel_rfl) ?_ _
      clear HB3 HN3 HZ3 hH
      revert W H
      exact hOnce.out
  case h =>
    intro H W HF
    clear hz1 HB1 HZ1 HS1 HU k0 k1
    rcases HCs.out with ⟨he, hrb⟩ | ⟨he, hcs⟩
    · subst he
      have HRB : Hid (readB zs = false) := hrb
      clear hrb HCs
      obtain ⟨⟨z0, z1, z2, z3, z4, z5, z6, z7, z8, z9⟩, fz⟩ := z10_cells HF.out.2.1
      have HBx : Hid (Below w.heap.size w W) := HF.out.1
      go_wp2
      exact bodyPost_ret (v := .tuple #[AO h0 (.slice none 0 0) (.slice none 0 0), .int .i64 6]) (by simp [results, Try.results30, go_sem, z0, z1, z2, z3, z4, z5, z6, z7, z8, z9, h0]) rfl ⟨Or.inr ⟨HRB.out, rfl⟩, set10_below HBx.out (Nat.le_refl _) _ _ _ _ _ _ _ _ _ _⟩
    subst he
    obtain ⟨q0, q1, q2, q3, q4, q5, q6, q7⟩ := hd_seen HF.out.2.2.1
    go_wp2_with fail
    refine (RSize_any g _).mono ?_
    rintro e w4 ⟨rfl, hb4⟩
    have HF4 : Hid (RHead w w4 H g) := HF.out.later hb4
    clear hb4 HF q0 q1 q2 q3 q4 q5 q6 q7 HCs
    rcases hcs with ⟨hne, hrb⟩ | ⟨hs, hx, hl', hL, hrb, hax, hsl, hg⟩
    · have hne' : (sizeN g != (L : Int)) = true := by simp [hne]
      have HRB : Hid (readB zs = false) := hrb
      clear hne hrb
      obtain ⟨⟨z0, z1, z2, z3, z4, z5, z6, z7, z8, z9⟩, fz⟩ := z10_cells HF4.out.2.1
      have HBx : Hid (Below w.heap.size w w4) := HF4.out.1
      go_wp2
      exact bodyPost_ret (v := .tuple #[AO h0 (.slice none 0 0) (.slice none 0 0), .int .i64 6]) (by simp [results, Try.results30, go_sem, z0, z1, z2, z3, z4, z5, z6, z7, z8, z9, h0]) rfl ⟨Or.inr ⟨HRB.out, rfl⟩, set10_below HBx.out (Nat.le_refl _) _ _ _ _ _ _ _ _ _ _⟩
    rw [hs]
    have HX : Hid (g.x = (X : Int) ∧ g.l = (M : Int) ∧ L = 2 + X + 2 * M ∧ g = headOf zs) := ⟨hx, hl', hL, hg⟩
    have HR : Hid (readB zs = allB (pairsOf (zs.drop (2 + X)) M) ∧ auxOf zs = (zs.drop 2).take X ∧ slotsOf zs = pairsOf (zs.drop (2 + X)) M) := ⟨hrb, hax, hsl⟩
    obtain ⟨q0, q1, q2, q3, q4, q5, q6, q7⟩ := hd_seen HF4.out.2.2.1
    clear hs hx hl' hL hg hrb hax hsl
    go_wp2_with fail
    clear q0 q1 q2 q3 q4 q5 q6 q7
    obtain ⟨Ob, hOb⟩ : ∃ Ob, Ob = w4.heap.size := ⟨_, rfl⟩
    have HO5 : Hid ((w4.alloc (obO g (.slice none 0 0) (.slice none 0 0))).drew.heap[Ob]? = some (obO g (.slice none 0 0) (.slice none 0 0))) := by show _ = _; rw [hOb]; exact heap_alloc_new w4 _
    have HF5 : Hid (RHead w (w4.alloc (obO g (.slice none 0 0) (.slice none 0 0))).drew H g) := HF4.out.later ((Below.refl _ _).alloc (Nat.le_refl _) _).drew
    have hHO : H < Ob := by rw [hOb]; exact hp_lt HF4.out.2.2.1
    rw [← hOb]
    clear hOb HF4
    have S6 : Hid ((w4.alloc (obO g (.slice none 0 0) (.slice none 0 0))).drew.cell? ⟨H, 6, none⟩ = some (.int .i64 (X : Int))) := by show _ = _; rw [cell_of HF5.out.2.2.1, ← HX.out.1]; rfl
    refine wp_region_held_drew (S := fun w' => w'.cell? ⟨H, 6, none⟩ = some (.int .i64 (X : Int))) (by kernel_rfl) S6.out (fun _ => ?_)
    generalize (w4.alloc (obO g (.slice none 0 0) (.slice none 0 0))).drew = w6 at HO5 HF5 S6 ⊢
    have wx : IntKind.i64.wrap (2 + (X : Int)) = 2 + (X : Int) := by have := HX.out.2.2.1; rw [IntKind.wrap_i64]; omega
    have hx1 : (2 : Int) ≤ 2 + (X : Int) := by omega
    have hx2 : 2 + (X : Int) ≤ (cap : Int) := by have := HX.out.2.2.1; omega
    have hx3 : (2 + (X : Int)).toNat - 2 = X := by omega
    have hx4 : (0 : Int) ≤ 2 + (X : Int) := by omega
    have hx5 : max (2 + (X : Int)) 0 = 2 + (X : Int) := by omega
    have HX0 : Hid (cap = 2 → X = 0) := by intro h; have := HX.out.2.2.1; omega
    obtain ⟨O, hO⟩ : ∃ O, (if cap = 2 then off else off + 2) = O := ⟨_, rfl⟩
    have HOx : Hid (O = off + 2 ∨ X = 0) := by
      show _ ∨ _
      by_cases h : cap = 2
      · right; have := HX.out.2.2.1; omega
      · left; rw [← hO, if_neg h]
    refine wpAnyH_take (i := 0) (v := Value.pointer (some ⟨Ob, 8, none⟩)) rfl (by kernel_rfl) (by kernel_rfl) (by kernel_rfl) (fun _ _ _ h => h) (Or.inl ⟨by kernel_rfl, ?_⟩) S6.out ?_
    · intro w' _; simp [go_sem]
    try simp only [Act.put, List.setIfInBounds_toArray, List.set_cons_zero, List.set_cons_succ, List.getElem_toArray, List.getElem_cons_zero, List.getElem_cons_succ]
    refine wpAnyH_take (i := 2) (v := Value.slice (some ⟨b, off, none⟩) L cap) rfl (by kernel_rfl) (by kernel_rfl) (by kernel_rfl) (fun _ _ _ h => h) (Or.inl ⟨by kernel_rfl, ?_⟩) S6.out ?_
    · intro w' _; rfl
    try simp only [Act.put, List.setIfInBounds_toArray, List.set_cons_zero, List.set_cons_succ, List.getElem_toArray, List.getElem_cons_zero, List.getElem_cons_succ]
    refine wpAnyH_take (i := 3) (v := Value.pointer (some ⟨H, 6, none⟩)) rfl (by kernel_rfl) (by kernel_rfl) (by kernel_rfl) (fun _ _ _ h => h) (Or.inl ⟨by kernel_rfl, ?_⟩) S6.out ?_
    · intro w' _; simp [go_sem]
    try simp only [Act.put, List.setIfInBounds_toArray, List.set_cons_zero, List.set_cons_succ, List.getElem_toArray, List.getElem_cons_zero, List.getElem_cons_succ]
    refine wpAnyH_take (i := 4) (v := Value.int .i64 (X : Int)) rfl (by kernel_rfl) (by kernel_rfl) (by kernel_rfl) (fun _ _ _ h => h) (Or.inl ⟨by kernel_rfl, ?_⟩) S6.out ?_
    · intro w' r0; simp [go_sem, r0]
    try simp only [Act.put, List.setIfInBounds_toArray, List.set_cons_zero, List.set_cons_succ, List.getElem_toArray, List.getElem_cons_zero, List.getElem_cons_succ]
    refine wpAnyH_take (i := 5) (v := Value.int .i64 (2 + (X : Int))) rfl (by kernel_rfl) (by kernel_rfl) (by kernel_rfl) (fun _ _ _ h => h) (Or.inl ⟨by kernel_rfl, ?_⟩) S6.out ?_
    · intro w' _; simp [go_sem, wx]
    try simp only [Act.put, List.setIfInBounds_toArray, List.set_cons_zero, List.set_cons_succ, List.getElem_toArray, List.getElem_cons_zero, List.getElem_cons_succ]
    refine wpAnyH_take (i := 6) (v := Value.slice (some ⟨b, O, none⟩) X (cap - 2)) rfl (by kernel_rfl) (by kernel_rfl) (by kernel_rfl) (fun _ _ _ h => h) (Or.inl ⟨by kernel_rfl, ?_⟩) S6.out ?_
    · intro w' _; rw [← hO]; by_cases h2 : cap = 2; (obtain rfl := HX0.out h2; simp [go_sem, h2]); simp [go_sem, hx1, hx2, hx3, hx4, hx5, h2]
    try simp only [Act.put, List.setIfInBounds_toArray, List.set_cons_zero, List.set_cons_succ, List.getElem_toArray, List.getElem_cons_zero, List.getElem_cons_succ]
    have o8 : w6.cell? ⟨Ob, 8, none⟩ = some (.slice none 0 0) := by rw [cell_of HO5.out]; rfl
    refine wpAnyH_ready (rs := [1]) (by kernel_rfl) (by simp) ?_
    refine AllReadyH.cons rfl (fun K hK => ?_) AllReadyH.nil
    go_simp
    refine hK.out _ _ S6.out (fun _ => ?_)
    clear hK
    try simp only [Act.put, List.setIfInBounds_toArray, List.set_cons_zero, List.set_cons_succ, List.getElem_toArray, List.getElem_cons_zero, List.getElem_cons_succ]
    have HA6 : Hid (SliceIs w6 (.slice (some ⟨b, O, none⟩) X (cap - 2)) ((zs.drop 2).take X)) := pre_slice (HQ.out.1.later HF5.out.1) HQ.out.2.1 HX.out.2.2.1 HOx.out
    have HAl : Hid (((zs.drop 2).take X).length = X) := by show _ = _; rw [List.length_take, List.length_drop, HQ.out.2.1, HX.out.2.2.1]; omega
    have HAc : Hid (∀ i, i < ((zs.drop 2).take X).length → w6.cell? ⟨b, O + i, none⟩ = some (.int .i64 (((zs.drop 2).take X).getD i 0))) := by
      rcases HA6.out with ⟨ao, e, e2⟩ | ⟨b', o', c', e, hcc⟩
      · intro i hi; rw [e2] at hi; exact absurd hi (by simp)
      · injection e with e1
        injection e1 with e1
        injection e1 with e3 e4
        subst e3; subst e4
        exact hcc
    refine wpAnyH_ready (rs := [7]) (by kernel_rfl) (by simp) ?_
    refine AllReadyH.cons rfl (fun K hK => ?_) AllReadyH.nil
    refine step_row rfl _ _ rfl w6.heap.size (.slice none 0 0) [] rfl (World.ownsRow_nil _ _ _ _) b O X (cap - 2) _ rfl HAl.out HAc.out (by rw [HAl.out]; have := HX.out.2.2.1; simp; omega) (Nat.le_refl _) ?_
    intro av w7 HO7 hb7
    have HR7 : Hid (Row w7 w6.heap.size av ((zs.drop 2).take X)) := by show Row _ _ _ _; simpa using HO7.out
    have hOb6 : Ob < w6.heap.size := hp_lt HO5.out
    have HF7 : Hid (RHead w w7 H g) := HF5.out.later hb7.out
    have HOb7 : Hid (w7.heap[Ob]? = some (obO g (.slice none 0 0) (.slice none 0 0))) := (hb7.out.block _ hOb6).trans HO5.out
    have S7 : Hid (w7.cell? ⟨H, 6, none⟩ = some (.int .i64 (X : Int))) := by show _ = _; rw [cell_of HF7.out.2.2.1, ← HX.out.1]; rfl
    have hB0 : Ob < w6.heap.size := hOb6
    have hB01 : w6.heap.size ≤ w7.heap.size := hb7.out.size
    clear HO7 hb7 HAc HAl HA6 o8 HOx hO S6 HF5 HO5 hOb6
    generalize w6.heap.size = B0 at HR7 hB0 hB01
    refine hK.out _ _ S7.out (fun _ => ?_)
    clear hK
    try simp only [Act.put, List.setIfInBounds_toArray, List.set_cons_zero, List.set_cons_succ, List.getElem_toArray, List.getElem_cons_zero, List.getElem_cons_succ]
    refine wpAnyH_take (i := 8) (v := Value.pointer (some ⟨Ob, 8, none⟩)) rfl (by kernel_rfl) (by kernel_rfl) (by kernel_rfl) (fun _ _ _ h => h) (Or.inl ⟨by kernel_rfl, ?_⟩) S7.out ?_
    · intro w' _; simp [go_sem]
    try simp only [Act.put, List.setIfInBounds_toArray, List.set_cons_zero, List.set_cons_succ, List.getElem_toArray, List.getElem_cons_zero, List.getElem_cons_succ]
    have o8 : w7.cell? ⟨Ob, 8, none⟩ = some (.slice none 0 0) := by rw [cell_of HOb7.out]; rfl
    have f8 : w7.frozen? ⟨Ob, 8, none⟩ = false := frozen_of HOb7.out 8
    refine wpAnyH_ready (rs := [9]) (by kernel_rfl) (by simp) ?_
    refine AllReadyH.cons rfl (fun K hK => ?_) AllReadyH.nil
    obtain ⟨vo, vc, hav⟩ := (Row.slice HR7.out).form
    generalize ((zs.drop 2).take X).length = vn at hav
    subst hav
    go_simp
    have HI : Hid (RInv w H Ob B0 w7.heap.size g (.slice vo vn vc) (.slice none 0 0) ((zs.drop 2).take X) [] (w7.setCell ⟨Ob, 8, none⟩ (.slice vo vn vc))) := by
      have hne : w.heap.size ≠ Ob := by have := HF7.out.2.2.2; omega
      refine ⟨⟨HF7.out.1.setCell (by show _ ≤ Ob; have := HF7.out.2.2.2; omega) _, hp_set_other HF7.out.2.1 _ _ hne, hp_set_other HF7.out.2.2.1 _ _ (by omega), HF7.out.2.2.2⟩, ob_aux HOb7.out, World.ownsRow.set_other HR7.out hB0, World.ownsRow_nil _ _ _ _, fun k hk => (World.ownsRow.lt HR7.out k hk).2, by simp [World.setCell], hHO, hB0, hB01⟩
    have S8 : Hid ((w7.setCell ⟨Ob, 8, none⟩ (.slice vo vn vc)).cell? ⟨H, 6, none⟩ = some (.int .i64 (X : Int))) := by show _ = _; rw [cell_of HI.out.hd.2.2.1, ← HX.out.1]; rfl
    generalize w7.heap.size = B1 at HI
    generalize w7.setCell ⟨Ob, 8, none⟩ (.slice vo vn vc) = w8 at HI S8 hK ⊢
    refine hK.out _ _ S8.out (fun _ => ?_)
    clear hK o8 f8 HOb7 S7 HF7 HR7 S8
    try simp only [Act.put, List.setIfInBounds_toArray, List.set_cons_zero, List.set_cons_succ, List.getElem_toArray, List.getElem_cons_zero, List.getElem_cons_succ]
    refine wpAnyH_done (by kernel_rfl) ?_ _
    clear wx hx1 hx2 hx3 hx4 hx5 HX0 hB0 hB01 hHO
    have hXM1 : L ≤ 2 + X + 2 * M := by have := HX.out.2.2.1; omega
    have hXM2 : 2 + X + 2 * M ≤ L := by have := HX.out.2.2.1; omega
    obtain ⟨av, hav⟩ : ∃ av, Hid (av = Value.slice vo vn vc) := ⟨_, rfl⟩
    rw [← hav.out] at HI
    go_wp2_with fail
    go_loopw [3, 7, 8, 9] (fun _ i _ _ wr => ∃ (k : Nat) (sv : Value), k ≤ M ∧ i = .int .i64 k ∧ Hid (RInv w H Ob B0 B1 g av sv ((zs.drop 2).take X) (pairsOf (zs.drop (2 + X)) k) wr) ∧ Hid (allB (pairsOf (zs.drop (2 + X)) k) = true)) (fun _ i _ _ _ => M - (intOf i).toNat)
    case atStart => exact ⟨0, _, Nat.zero_le _, rfl, HI.out, rfl⟩
    case round =>
      obtain ⟨k, sv, hk, rfl, HIk, HAk⟩ := hrel
      have q6 : wr.cell? ⟨H, 6, none⟩ = some (.int .i64 (X : Int)) := by rw [cell_of HIk.out.hd.2.2.1, ← HX.out.1]; rfl
      have q7 : wr.cell? ⟨H, 7, none⟩ = some (.int .i64 (M : Int)) := by rw [cell_of HIk.out.hd.2.2.1, ← HX.out.2.1]; rfl
      by_cases hlt : k < M
      · have hkM : (k : Int) < (M : Int) := by omega
        obtain ⟨t, ht⟩ : ∃ t, t = (zs.drop (2 + X)).getD (2 * k) 0 := ⟨_, rfl⟩
        obtain ⟨n, hn⟩ : ∃ n, n = (zs.drop (2 + X)).getD (2 * k + 1) 0 := ⟨_, rfl⟩
        obtain ⟨at', hat⟩ : ∃ at', at' = 2 + X + 2 * k := ⟨_, rfl⟩
        have HCl : Hid (∀ W, Below w.heap.size w W → W.cell? ⟨b, off + at', none⟩ = some (.int .i64 t) ∧ W.cell? ⟨b, off + (at' + 1), none⟩ = some (.int .i64 n)) := by
          intro W hb
          have hq := HQ.out.1.later hb
          have hlen := HQ.out.2.1
          rcases hq with ⟨ao, e, e2⟩ | ⟨b', o', c', e, hcc⟩
          · injection e with e1 e3; omega
          · injection e with e1
            injection e1 with e1
            injection e1 with e3 e4
            subst e3; subst e4
            have h1 := hcc at' (by omega)
            have h2 := hcc (at' + 1) (by omega)
            refine ⟨?_, ?_⟩
            · rw [h1, ht, hat]; simp [List.getD, List.getElem?_drop]
            · rw [h2, hn, hat]; simp [List.getD, List.getElem?_drop, Nat.add_assoc]
        have HSn : Hid (pairsOf (zs.drop (2 + X)) (k + 1) = pairsOf (zs.drop (2 + X)) k ++ [(t, n)]) := by show _ = _; rw [pairsOf_snoc, ht, hn]
        have HNo : Hid (valB t n = false → allB (pairsOf (zs.drop (2 + X)) M) = false) := by intro h; rw [ht, hn] at h; exact pairs_not _ hlt h
        have HYe : Hid (valB t n = true → allB (pairsOf (zs.drop (2 + X)) (k + 1)) = true) := by
          intro h; rw [HSn.out]; unfold allB; rw [List.all_append, Bool.and_eq_true]; exact ⟨HAk.out, by simp [h]⟩
        have HLk : Hid ((pairsOf (zs.drop (2 + X)) k).length + 1 ≤ 1000000) := by show _ ≤ _; simp [pairsOf]; omega
        have a1 : (at' : Int) < (L : Int) := by omega
        have a2 : (at' : Int) + 1 < (L : Int) := by omega
        have a3 : (0 : Int) ≤ (at' : Int) := by omega
        have a4 : (2 : Int) + (X : Int) + 2 * (k : Int) = (at' : Int) := by omega
        have a5 : IntKind.i64.wrap ((at' : Int) + 1) = (at' : Int) + 1 := by rw [IntKind.wrap_i64]; omega
        have a6 : (0 : Int) ≤ (at' : Int) + 1 := by omega
        have a7 : ((at' : Int) + 1).toNat = at' + 1 := by omega
        have hw1 : w.heap.size < wr.heap.size := hp_lt HIk.out.hd.2.1
        clear ht hn hat
        go_wp2_with fail
        skip
        have S9 : Hid (wr.drew.cell? ⟨b, off + at', none⟩ = some (.int .i64 t) ∧ wr.drew.cell? ⟨b, off + (at' + 1), none⟩ = some (.int .i64 n)) := HCl.out _ HIk.out.hd.1.drew
        have HI9 : Hid (RInv w H Ob B0 B1 g av sv ((zs.drop 2).take X) (pairsOf (zs.drop (2 + X)) k) wr.drew) := HIk.out.later ((Below.refl _ _).drew)
        refine wp_region_held_drew (S := fun w' => w'.cell? ⟨b, off + at', none⟩ = some (.int .i64 t) ∧ w'.cell? ⟨b, off + (at' + 1), none⟩ = some (.int .i64 n)) (by kernel_rfl) S9.out (fun _ => ?_)
        clear q6 q7 HIk
        generalize wr.drew = w9 at S9 HI9 ⊢
        refine wpAnyH_take (i := 0) (v := Value.slice (some ⟨b, off, none⟩) L cap) rfl (by kernel_rfl) (by kernel_rfl) (by kernel_rfl) (fun _ _ _ h => h) (Or.inl ⟨by kernel_rfl, ?_⟩) S9.out ?_
        · intro w' _; rfl
        try simp only [Act.put, List.setIfInBounds_toArray, List.set_cons_zero, List.set_cons_succ, List.getElem_toArray, List.getElem_cons_zero, List.getElem_cons_succ]
        refine wpAnyH_take (i := 1) (v := Value.int .i64 (at' : Int)) rfl (by kernel_rfl) (by kernel_rfl) (by kernel_rfl) (fun _ _ _ h => h) (Or.inl ⟨by kernel_rfl, ?_⟩) S9.out ?_
        · intro w' _; rfl
        try simp only [Act.put, List.setIfInBounds_toArray, List.set_cons_zero, List.set_cons_succ, List.getElem_toArray, List.getElem_cons_zero, List.getElem_cons_succ]
        refine wpAnyH_take (i := 2) (v := Value.pointer (some ⟨b, off + at', none⟩)) rfl (by kernel_rfl) (by kernel_rfl) (by kernel_rfl) (fun _ _ _ h => h) (Or.inl ⟨by kernel_rfl, ?_⟩) S9.out ?_
        · intro w' _; simp [go_sem, a1, a3]
        try simp only [Act.put, List.setIfInBounds_toArray, List.set_cons_zero, List.set_cons_succ, List.getElem_toArray, List.getElem_cons_zero, List.getElem_cons_succ]
        refine wpAnyH_take (i := 3) (v := Value.int .i64 t) rfl (by kernel_rfl) (by kernel_rfl) (by kernel_rfl) (fun _ _ _ h => h) (Or.inl ⟨by kernel_rfl, ?_⟩) S9.out ?_
        · rintro w' ⟨r0, r1⟩; simp [go_sem, r0]
        try simp only [Act.put, List.setIfInBounds_toArray, List.set_cons_zero, List.set_cons_succ, List.getElem_toArray, List.getElem_cons_zero, List.getElem_cons_succ]
        refine wpAnyH_take (i := 4) (v := Value.slice (some ⟨b, off, none⟩) L cap) rfl (by kernel_rfl) (by kernel_rfl) (by kernel_rfl) (fun _ _ _ h => h) (Or.inl ⟨by kernel_rfl, ?_⟩) S9.out ?_
        · intro w' _; rfl
        try simp only [Act.put, List.setIfInBounds_toArray, List.set_cons_zero, List.set_cons_succ, List.getElem_toArray, List.getElem_cons_zero, List.getElem_cons_succ]
        refine wpAnyH_take (i := 5) (v := Value.int .i64 (at' : Int)) rfl (by kernel_rfl) (by kernel_rfl) (by kernel_rfl) (fun _ _ _ h => h) (Or.inl ⟨by kernel_rfl, ?_⟩) S9.out ?_
        · intro w' _; rfl
        try simp only [Act.put, List.setIfInBounds_toArray, List.set_cons_zero, List.set_cons_succ, List.getElem_toArray, List.getElem_cons_zero, List.getElem_cons_succ]
        refine wpAnyH_take (i := 6) (v := Value.int .i64 ((at' : Int) + 1)) rfl (by kernel_rfl) (by kernel_rfl) (by kernel_rfl) (fun _ _ _ h => h) (Or.inl ⟨by kernel_rfl, ?_⟩) S9.out ?_
        · intro w' _; simp [go_sem, a5]
        try simp only [Act.put, List.setIfInBounds_toArray, List.set_cons_zero, List.set_cons_succ, List.getElem_toArray, List.getElem_cons_zero, List.getElem_cons_succ]
        refine wpAnyH_take (i := 7) (v := Value.pointer (some ⟨b, off + (at' + 1), none⟩)) rfl (by kernel_rfl) (by kernel_rfl) (by kernel_rfl) (fun _ _ _ h => h) (Or.inl ⟨by kernel_rfl, ?_⟩) S9.out ?_
        · intro w' _; simp [go_sem, a2, a6, a7]
        try simp only [Act.put, List.setIfInBounds_toArray, List.set_cons_zero, List.set_cons_succ, List.getElem_toArray, List.getElem_cons_zero, List.getElem_cons_succ]
        refine wpAnyH_take (i := 8) (v := Value.int .i64 n) rfl (by kernel_rfl) (by kernel_rfl) (by kernel_rfl) (fun _ _ _ h => h) (Or.inl ⟨by kernel_rfl, ?_⟩) S9.out ?_
        · rintro w' ⟨r0, r1⟩; simp [go_sem, r1]
        try simp only [Act.put, List.setIfInBounds_toArray, List.set_cons_zero, List.set_cons_succ, List.getElem_toArray, List.getElem_cons_zero, List.getElem_cons_succ]
        refine wpAnyH_take (i := 9) (v := AV t n) rfl (by kernel_rfl) (by kernel_rfl) (by kernel_rfl) (fun _ _ _ h => h) (Or.inl ⟨by kernel_rfl, ?_⟩) S9.out ?_
        · intro w' _; simp [go_sem]
        try simp only [Act.put, List.setIfInBounds_toArray, List.set_cons_zero, List.set_cons_succ, List.getElem_toArray, List.getElem_cons_zero, List.getElem_cons_succ]
        have HI10 : Hid (RInv w H Ob B0 B1 g av sv ((zs.drop 2).take X) (pairsOf (zs.drop (2 + X)) k) (w9.alloc (.cells #[.int .i64 0, .int .i64 0] 38))) := HI9.out.later ((Below.refl _ _).alloc (Nat.le_refl _) _)
        have HV10 : Hid ((w9.alloc (.cells #[.int .i64 0, .int .i64 0] 38)).heap[w9.heap.size]? = some (.cells #[.int .i64 0, .int .i64 0] 38 (0, 0))) := heap_alloc_new w9 _
        have HVb : Hid (B1 ≤ w9.heap.size ∧ ∀ k, sv.ownBlock = some k → k < w9.heap.size) := ⟨HI9.out.le, fun k hk => (World.ownsRow.lt HI9.out.pro k hk).2⟩
        refine wpAnyH_ready (rs := [10]) (by kernel_rfl) (by simp) ?_
        refine AllReadyH.cons rfl (fun K hK => ?_) AllReadyH.nil
        go_simp
        refine hK.out _ _ (HCl.out _ HI10.out.hd.1) (fun _ => ?_)
        clear hK
        try simp only [Act.put, List.setIfInBounds_toArray, List.set_cons_zero, List.set_cons_succ, List.getElem_toArray, List.getElem_cons_zero, List.getElem_cons_succ]
        generalize w9.heap.size = V at HV10 HVb ⊢
        generalize w9.alloc (.cells #[.int .i64 0, .int .i64 0] 38) = w10 at HI10 HV10 ⊢
        have v0 : w10.cell? ⟨V, 0, none⟩ = some (.int .i64 0) := by rw [cell_of HV10.out]; rfl
        have v1 : w10.cell? ⟨V, 1, none⟩ = some (.int .i64 0) := by rw [cell_of HV10.out]; rfl
        have fv : ∀ j, w10.frozen? ⟨V, j, none⟩ = false := fun j => frozen_of HV10.out j
        refine wpAnyH_ready (rs := [11]) (by kernel_rfl) (by simp) ?_
        refine AllReadyH.cons rfl (fun K hK => ?_) AllReadyH.nil
        go_simp
        have HV11 : Hid (((w10.setCell ⟨V, 0, none⟩ (.int .i64 t)).setCell ⟨V, 1, none⟩ (.int .i64 n)).heap[V]? = some (.cells #[.int .i64 t, .int .i64 n] 38 (0, 0))) := by
          show _ = _
          rw [hp_set_same (hp_set_same HV10.out 0 _) 1 _]
          simp only [List.setIfInBounds_toArray, List.set_cons_zero, List.set_cons_succ]
        have HI11 : Hid (RInv w H Ob B0 B1 g av sv ((zs.drop 2).take X) (pairsOf (zs.drop (2 + X)) k) ((w10.setCell ⟨V, 0, none⟩ (.int .i64 t)).setCell ⟨V, 1, none⟩ (.int .i64 n))) := (HI10.out.aside HVb.out.1 HVb.out.2 0 _).aside HVb.out.1 HVb.out.2 1 _
        clear v0 v1 fv HI10 HV10 HVb
        generalize (w10.setCell ⟨V, 0, none⟩ (.int .i64 t)).setCell ⟨V, 1, none⟩ (.int .i64 n) = w11 at HI11 HV11 hK ⊢
        refine hK.out _ _ (HCl.out _ HI11.out.hd.1) (fun _ => ?_)
        clear hK HI9 S9
        try simp only [Act.put, List.setIfInBounds_toArray, List.set_cons_zero, List.set_cons_succ, List.getElem_toArray, List.getElem_cons_zero, List.getElem_cons_succ]
        refine wpAnyH_done (by kernel_rfl) ?_ _
        have v0 : w11.cell? ⟨V, 0, none⟩ = some (.int .i64 t) := by rw [cell_of HV11.out]; rfl
        have v1 : w11.cell? ⟨V, 1, none⟩ = some (.int .i64 n) := by rw [cell_of HV11.out]; rfl
        obtain ⟨l0, l1⟩ := HCl.out w11 HI11.out.hd.1
        have HFl : Hid (∀ W, RInv w H Ob B0 B1 g av sv ((zs.drop 2).take X) (pairsOf (zs.drop (2 + X)) k) W → valB t n = false → readB zs = false) := fun W _ h => by rw [HR.out.1]; exact HNo.out h
        rcases (show t < 0 ∨ 11 < t ∨ (¬ t < 0 ∧ ¬ 11 < t) by omega) with t0 | t0 | ⟨t0, t1⟩
        · have HRB : Hid (readB zs = false) := by show _ = _; rw [HR.out.1]; exact HNo.out (valB_out (Or.inl t0))
          obtain ⟨⟨z0, z1, z2, z3, z4, z5, z6, z7, z8, z9⟩, fz⟩ := z10_cells HI11.out.hd.2.1
          have HBx : Hid (Below w.heap.size w w11) := HI11.out.hd.1
          go_wp2
          exact bodyPost_ret (v := .tuple #[AO h0 (.slice none 0 0) (.slice none 0 0), .int .i64 6]) (by simp [results, Try.results30, go_sem, z0, z1, z2, z3, z4, z5, z6, z7, z8, z9, h0]) rfl ⟨Or.inr ⟨HRB.out, rfl⟩, set10_below HBx.out (Nat.le_refl _) _ _ _ _ _ _ _ _ _ _⟩
        · have HRB : Hid (readB zs = false) := by show _ = _; rw [HR.out.1]; exact HNo.out (valB_out (Or.inr t0))
          have t0' : ¬ t < 0 := by omega
          obtain ⟨⟨z0, z1, z2, z3, z4, z5, z6, z7, z8, z9⟩, fz⟩ := z10_cells HI11.out.hd.2.1
          have HBx : Hid (Below w.heap.size w w11) := HI11.out.hd.1
          go_wp2
          exact bodyPost_ret (v := .tuple #[AO h0 (.slice none 0 0) (.slice none 0 0), .int .i64 6]) (by simp [results, Try.results30, go_sem, z0, z1, z2, z3, z4, z5, z6, z7, z8, z9, h0]) rfl ⟨Or.inr ⟨HRB.out, rfl⟩, set10_below HBx.out (Nat.le_refl _) _ _ _ _ _ _ _ _ _ _⟩
        go_wp2_with fail
        refine (RValue_any _ _ _).mono ?_
        rintro e w12 ⟨rfl, hb12⟩
        have HI12 : Hid (RInv w H Ob B0 B1 g av sv ((zs.drop 2).take X) (pairsOf (zs.drop (2 + X)) k) w12) := HI11.out.later hb12
        have v0' : w12.cell? ⟨V, 0, none⟩ = some (.int .i64 t) := cell_later hb12 v0
        have v1' : w12.cell? ⟨V, 1, none⟩ = some (.int .i64 n) := cell_later hb12 v1
        clear hb12 HI11 v0 v1 l0 l1 HV11 HFl
        cases hvb : valB t n
        · have HRB : Hid (readB zs = false) := by show _ = _; rw [HR.out.1]; exact HNo.out hvb
          obtain ⟨⟨z0, z1, z2, z3, z4, z5, z6, z7, z8, z9⟩, fz⟩ := z10_cells HI12.out.hd.2.1
          have HBx : Hid (Below w.heap.size w w12) := HI12.out.hd.1
          go_wp2
          exact bodyPost_ret (v := .tuple #[AO h0 (.slice none 0 0) (.slice none 0 0), .int .i64 6]) (by simp [results, Try.results30, go_sem, z0, z1, z2, z3, z4, z5, z6, z7, z8, z9, h0]) rfl ⟨Or.inr ⟨HRB.out, rfl⟩, set10_below HBx.out (Nat.le_refl _) _ _ _ _ _ _ _ _ _ _⟩
        · have HA2 : Hid (allB (pairsOf (zs.drop (2 + X)) (k + 1)) = true) := HYe.out hvb
          have HLe : Hid (B1 ≤ w12.heap.size) := HI12.out.le
          obtain ⟨so, sc, hsv⟩ := (PRow.pairs HI12.out.pro).form
          generalize (pairsOf (zs.drop (2 + X)) k).length = sn at hsv
          subst hsv
          have o9 : w12.cell? ⟨Ob, 9, none⟩ = some (.slice so sn sc) := (ob_cells HI12.out.ob).1.2.2.2.2.2.2.2.2.2
          have HI13 : Hid (RInv w H Ob B0 B1 g av (.slice so sn sc) ((zs.drop 2).take X) (pairsOf (zs.drop (2 + X)) k) (w12.alloc (.cells #[.int .i64 t, .int .i64 n] 38))) := HI12.out.later ((Below.refl _ _).alloc (Nat.le_refl _) _)
          have y0 : (w12.alloc (.cells #[.int .i64 t, .int .i64 n] 38)).cell? ⟨w12.heap.size, 0, none⟩ = some (.int .i64 t) := by rw [World.cell?_alloc_at _ _ _ _ rfl]; rfl
          have y1 : (w12.alloc (.cells #[.int .i64 t, .int .i64 n] 38)).cell? ⟨w12.heap.size, 1, none⟩ = some (.int .i64 n) := by rw [World.cell?_alloc_at _ _ _ _ rfl]; rfl
          go_wp2_with (first | (at_builtin; refine app_pair rfl _ _ rfl B1 _ _ rfl HI13.out.pro w12.heap.size t n rfl y0 y1 ?_ ?_ ?_))
          · exact HLk.out
          · exact HI13.out.le
          intro sv' w14 HP14 hb14
          obtain ⟨HOb, HI14⟩ := HI13.out.turn hb14.out HP14.out
          have HI15 : Hid (RInv w H Ob B0 B1 g av sv' ((zs.drop 2).take X) (pairsOf (zs.drop (2 + X)) (k + 1)) (w14.setCell ⟨Ob, 9, none⟩ sv')) := by
            show RInv _ _ _ _ _ _ _ _ _ _ _
            rw [HSn.out]; exact HI14
          have o9' : w14.cell? ⟨Ob, 9, none⟩ = some (.slice so sn sc) := (ob_cells HOb).1.2.2.2.2.2.2.2.2.2
          have f9' : w14.frozen? ⟨Ob, 9, none⟩ = false := (ob_cells HOb).2 9
          obtain ⟨so', sc', hsv'⟩ := (PRow.pairs HP14.out).form
          generalize (pairsOf (zs.drop (2 + X)) k ++ [(t, n)]).length = sn' at hsv'
          subst hsv'
          clear HI14 HOb HP14 hb14 HI13 y0 y1 o9
          go_wp2
          go_roundw
          case rel => exact ⟨k + 1, _, by omega, by go_num, HI15.out, HA2.out⟩
          case measure => simp [intOf]; omega
      · have he : k = M := by omega
        subst he
        have hkM : ¬ ((k : Int) < (k : Int)) := by omega
        obtain ⟨⟨r0, r1, r2, r3, r4, r5, r6, r7, r8, r9⟩, _⟩ := ob_cells HIk.out.ob
        obtain ⟨⟨z0, z1, z2, z3, z4, z5, z6, z7, z8, z9⟩, fz⟩ := z10_cells HIk.out.hd.2.1
        obtain ⟨so, sc, hsv⟩ := (PRow.pairs HIk.out.pro).form
        generalize (pairsOf (zs.drop (2 + X)) k).length = sn at hsv
        subst hsv
        have hav2 := hav.out
        subst hav2
        go_wp2
        exact bodyPost_ret (v := .tuple #[AO g (.slice vo vn vc) (.slice so sn sc), .int .i64 0]) (by simp [results, Try.results30, go_sem, z0, z1, z2, z3, z4, z5, z6, z7, z8, z9]) rfl
          ⟨Or.inl ⟨by rw [HR.out.1]; exact HAk.out, _, _, by rw [← HX.out.2.2.2], by rw [HR.out.2.1]; exact Row.mono (set10_row HIk.out.row (by have := HIk.out.o1; have := HIk.out.o2; have := HIk.out.hd.2.2.2; omega) _ _ _ _ _ _ _ _ _ _) (by have := HIk.out.o1; have := HIk.out.o2; have := HIk.out.hd.2.2.2; omega),
            by rw [HR.out.2.2]; exact PRow.mono (set10_row HIk.out.pro (by have := HIk.out.o1; have := HIk.out.o2; have := HIk.out.o3; have := HIk.out.hd.2.2.2; omega) _ _ _ _ _ _ _ _ _ _) (by have := HIk.out.o1; have := HIk.out.o2; have := HIk.out.o3; have := HIk.out.hd.2.2.2; omega)⟩, set10_below HIk.out.hd.1 (Nat.le_refl _) _ _ _ _ _ _ _ _ _ _⟩

/-- Whatever the cells are. -/
theorem RRead_any (v : Value) (zs : List Int) (w : World) (hv : SliceIs w v zs) (hr : RoomOK v) (hI : Iall zs) (hm : zs.length ≤ 100000) :
    Calls Try.prog 30 #[v] w fun e w' => ReadOut zs w w' e ∧ Below w.heap.size w w' := by
  by_cases h2 : zs.length < 2
  · have hb : readB zs = false := by simp [readB, sizedB, show ¬ 2 ≤ zs.length by omega]
    exact (RRead_short v zs w hv h2).mono fun e w' ⟨he, hb'⟩ => ⟨Or.inr ⟨hb, he⟩, hb'⟩
  have hv' := hv
  rcases hv with ⟨_, _, rfl⟩ | ⟨b, off, cap, rfl, hc⟩
  · exact absurd h2 (by simp)
  have HC : Hid (∀ W, Below w.heap.size w W → W.cell? ⟨b, off, none⟩ = some (.int .i64 (zs.getD 0 0)) ∧ W.cell? ⟨b, off + 1, none⟩ = some (.int .i64 (zs.getD 1 0))) :=
    fun W hb => ⟨cell_later hb (hc 0 (by omega)), cell_later hb (hc 1 (by omega))⟩
  have hz : 2 ≤ zs.length := by omega
  obtain ⟨r1, r2⟩ := hr _ _ _ rfl
  have HU : Hid (∀ W, Calls Try.prog 21 #[.int .i64 (zs.getD 0 0), .int .i64 (zs.getD 1 0)] W fun e w' => e = .returned (.tuple #[AH (unH (zs.getD 0 0) (zs.getD 1 0)), .int .i64 (unE (zs.getD 0 0) (zs.getD 1 0))]) ∧ Below W.heap.size W w') :=
    fun W => RUnpack_any _ _ W (iall_get hI (by omega)).2 (iall_get hI (by omega)).2
  refine RRead_ok zs b off zs.length cap (auxN zs) (slotN zs) _ _ _ _ w hz r1 r2 hm rfl hv' hI ?_ HC HU
  cases hu : unB (zs.getD 0 0) (zs.getD 1 0)
  · exact Or.inl ⟨by simp only [unE, hu]; rfl, by simp only [readB, sizedB, hu, Bool.false_and, Bool.and_false]⟩
  · have hg : unH (zs.getD 0 0) (zs.getD 1 0) = headOf zs := by simp only [unH, hu, if_true]; rfl
    rw [hg]
    refine Or.inr ⟨by simp only [unE, hu, if_true], ?_⟩
    by_cases hs : (zs.length : Int) = sizeN (headOf zs)
    · have hb : readB zs = allB (slotsOf zs) := by simp only [readB, sizedB, hu, decide_eq_true hs, decide_eq_true hz, Bool.true_and]
      have hright := un_right hu
      have hbd := right_bds hright.1
      have e1 : (headOf zs).x = (auxN zs : Int) := by unfold auxN; have := hbd.x; show _ = _; rw [Int.toNat_of_nonneg (show 0 ≤ (headOf zs).x from this.1)]
      have e2 : (headOf zs).l = (slotN zs : Int) := by unfold slotN; have := hbd.l; show _ = _; rw [Int.toNat_of_nonneg (show 0 ≤ (headOf zs).l from this.1)]
      have hL : zs.length = 2 + auxN zs + 2 * slotN zs := by
        have h3 := hs
        rw [sizeN, if_pos (show rightE (headOf zs) = 0 from hright.1), e1, e2] at h3
        omega
      exact Or.inr ⟨hs.symm, e1, e2, hL, hb, rfl, rfl, rfl⟩
    · exact Or.inl ⟨fun h => hs h.symm, by simp [readB, sizedB, hs]⟩
end Go.Proofs.Ytnmchcanijkggaa
