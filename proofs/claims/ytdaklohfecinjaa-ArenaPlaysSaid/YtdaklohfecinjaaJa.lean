/- Joined: J0 J1 J2 J3 J4. -/
import Derived.Test.YtdaklohfecinjaaK1
import Derived.Maps.AppendAt
import Derived.Laws.AppendOwnNone
import Derived.BigQuiet
import Derived.Shelf.RegionOpenPlain
/- The document's arena: what it is in memory; New, Find, Len, Addr. -/
namespace Go.Proofs.Ytdaklohfecinjaa
open Go.RowKit
set_option linter.unusedSimpArgs false
set_option linter.unusedVariables false

/-- A block of the document's: its handle, its address, where its cells lie, and what they are. -/
structure Bk where
  h : Nat
  a : Nat
  d : Nat
  xs : List Int
/-- A slice of a block's cells. -/
def dv (d n : Nat) : Value := .slice (some ⟨d, 0, none⟩) n n
/-- Blocks as cells. -/
def flB (K : List Bk) : List Value := K.flatMap fun b => [.int .i64 b.h, .int .i64 b.a, dv b.d b.xs.length]
theorem flB_append (a b : List Bk) : flB (a ++ b) = flB a ++ flB b := by simp [flB]
theorem flB_length : ∀ K : List Bk, (flB K).length = K.length * 3
  | [] => rfl
  | b :: K => by
    have := flB_length K
    have e : flB (b :: K) = [.int .i64 b.h, .int .i64 b.a, dv b.d b.xs.length] ++ flB K := rfl
    rw [e, List.length_append, this]; simp; omega
theorem flB_get : ∀ (K : List Bk) (j : Nat) (hj : j < K.length), (flB K)[j * 3]? = some (.int .i64 K[j].h) ∧ (flB K)[j * 3 + 1]? = some (.int .i64 K[j].a) ∧ (flB K)[j * 3 + 2]? = some (dv K[j].d K[j].xs.length)
  | [], _, h => by simp at h
  | p :: K, 0, h => by simp [flB]
  | p :: K, j + 1, h => by
    have ih := flB_get K j (by simpa using h)
    have e1 : flB (p :: K) = Value.int .i64 p.h :: Value.int .i64 p.a :: dv p.d p.xs.length :: flB K := rfl
    rw [e1, show (j + 1) * 3 = j * 3 + 1 + 1 + 1 by omega]
    simpa using ih
theorem flB_one (K : List Bk) : ∀ u ∈ flB K, u.oneCell' = true := by
  intro u hu
  obtain ⟨e, _, h⟩ := List.mem_flatMap.1 hu
  simp at h
  rcases h with rfl | rfl | rfl <;> rfl
theorem flB_take (K : List Bk) (i : Nat) : (flB K).take (i * 3) = flB (K.take i) := by
  rcases Nat.lt_or_ge i K.length with h | h
  · have e : flB K = flB (K.take i) ++ flB (K.drop i) := by rw [← flB_append, List.take_append_drop]
    rw [e, List.take_left' (by rw [flB_length, List.length_take]; congr 1; omega)]
  · rw [List.take_of_length_le (by rw [flB_length]; omega), List.take_of_length_le h]
theorem flB_drop (K : List Bk) (i : Nat) : (flB K).drop (i * 3) = flB (K.drop i) := by
  rcases Nat.lt_or_ge i K.length with h | h
  · have e : flB K = flB (K.take i) ++ flB (K.drop i) := by rw [← flB_append, List.take_append_drop]
    rw [e, List.drop_left' (by rw [flB_length, List.length_take]; congr 1; omega)]
  · rw [List.drop_eq_nil_of_le (by rw [flB_length]; omega), List.drop_eq_nil_of_le h]; rfl

/-- A row of blocks. -/
def BRow (w : World) (B : Nat) (v : Value) (K : List Bk) : Prop := w.ownsRow B 77 3 v K.length (flB K)
theorem BRow.kept {S : Nat → Prop} {w w' : World} {B : Nat} {v : Value} {K : List Bk} (h : BRow w B v K) (hk : Kept S w w') (hS : ∀ g, v.ownBlock = some g → ¬ S g) : BRow w' B v K := by
  obtain ⟨hl, h | ⟨g, cap, cur, h1, h2, h3, h4⟩⟩ := h
  · exact ⟨hl, .inl h⟩
  · exact ⟨hl, .inr ⟨g, cap, cur, h1, h2, hk.heap h3 (hS g (by rw [h1]; rfl)), h4⟩⟩
theorem BRow.no {w w' : World} {B : Nat} {v : Value} {K : List Bk} (h : BRow w B v K) (hk : Kept No w w') : BRow w' B v K := h.kept hk (fun _ _ => id)
theorem BRow.base {w : World} {B B' : Nat} {v : Value} {K : List Bk} (h : BRow w B v K) (hB : B' ≤ B) : BRow w B' v K := by
  refine ⟨h.1, h.2.imp id ?_⟩
  rintro ⟨g, cap, cur, e1, e2, r⟩
  exact ⟨g, cap, cur, e1, by omega, r⟩
/-- nil, or a block of memory. -/
theorem BRow.shape {w : World} {B : Nat} {v : Value} {K : List Bk} (h : BRow w B v K) : (v = .slice none 0 0 ∧ K = []) ∨ ∃ g cap, v = .slice (some ⟨g, 0, none⟩) K.length cap ∧ K.length ≤ cap ∧ cap ≤ maxLen ∧ ∀ j, j < K.length * 3 → w.cell? ⟨g, j, none⟩ = (flB K)[j]? := by
  rcases h.2 with ⟨h1, h2⟩ | ⟨g, cap, cur, h1, h2, h3, h4, h5, h6⟩
  · exact .inl ⟨h1, List.eq_nil_of_length_eq_zero h2⟩
  · refine .inr ⟨g, cap, h1, h4, h5, fun j hj => ?_⟩
    subst h1
    exact World.ownsRow.cellAt h _ hj
theorem BRow.form {w : World} {B : Nat} {v : Value} {K : List Bk} (h : BRow w B v K) : ∃ ao c, v = .slice ao K.length c := by
  rcases h.shape with ⟨rfl, rfl⟩ | ⟨g, cap, rfl, _⟩
  · exact ⟨_, _, rfl⟩
  · exact ⟨_, _, rfl⟩
/-- Its block has the type of blocks. -/
theorem BRow.ty {w : World} {B : Nat} {v : Value} {K : List Bk} (h : BRow w B v K) {g : Nat} (hg : v.ownBlock = some g) : ∃ c, w.heap[g]? = some (.cells c 77 (0, 0)) := by
  rcases h.2 with ⟨h1, _⟩ | ⟨g', cap, cur, h1, h2, h3, h4⟩
  · rw [h1] at hg; cases hg
  · rw [h1] at hg
    simp [Value.ownBlock] at hg
    subst hg
    exact ⟨_, h3⟩
theorem BRow.ne {w : World} {B : Nat} {v : Value} {K : List Bk} (h : BRow w B v K) {g k : Nat} (hg : v.ownBlock = some g) {c : Array Value} {e : TypeId} {f : Nat × Nat} (hk : w.heap[k]? = some (.cells c e f)) (he : e ≠ 77) : g ≠ k := by
  obtain ⟨c', h'⟩ := h.ty hg
  intro e1
  subst e1
  rw [h'] at hk
  injection hk with hk
  injection hk with _ h6
  exact he h6.symm

/-- The document's arena in memory, made since block B. -/
structure Rt (w : World) (B T size : Nat) (v : Value) (K : List Bk) : Prop where
  hT : w.heap[T]? = some (.cells #[.int .i64 (size : Int), v] 67 (0, 0))
  row : BRow w B v K
  dat : ∀ b ∈ K, w.heap[b.d]? = some (cl b.xs) ∧ B ≤ b.d
  nod : (K.map Bk.d).Nodup
  bT : B ≤ T
/-- Its blocks. -/
def RF (T : Nat) (v : Value) (K : List Bk) (k : Nat) : Prop := k = T ∨ v.ownBlock = some k ∨ k ∈ K.map Bk.d
section
variable {w w' : World} {B T size : Nat} {v : Value} {K : List Bk}
theorem Rt.kept {S : Nat → Prop} (h : Rt w B T size v K) (hk : Kept S w w') (hS : ∀ k, RF T v K k → ¬ S k) : Rt w' B T size v K :=
  ⟨hk.heap h.hT (hS T (.inl rfl)), h.row.kept hk (fun g hg => hS g (.inr (.inl hg))), fun b hb => ⟨hk.heap (h.dat b hb).1 (hS _ (.inr (.inr (List.mem_map_of_mem hb)))), (h.dat b hb).2⟩, h.nod, h.bT⟩
theorem Rt.no (h : Rt w B T size v K) (hk : Kept No w w') : Rt w' B T size v K := h.kept hk (fun _ _ => id)
theorem Rt.cells (h : Rt w B T size v K) : w.cell? ⟨T, 0, none⟩ = some (.int .i64 (size : Int)) ∧ w.cell? ⟨T, 1, none⟩ = some v := by
  constructor
  · rw [cell_of h.hT]; rfl
  · rw [cell_of h.hT]; rfl
theorem Rt.lt (h : Rt w B T size v K) {k : Nat} (hk : RF T v K k) : B ≤ k ∧ k < w.heap.size := by
  rcases hk with rfl | hk | hk
  · exact ⟨h.bT, hp_lt h.hT⟩
  · exact h.row.lt k hk
  · obtain ⟨b, hb, rfl⟩ := List.mem_map.1 hk
    exact ⟨(h.dat b hb).2, hp_lt (h.dat b hb).1⟩
/-- A block's cells in the row. -/
theorem Rt.blk (h : Rt w B T size v K) {j : Nat} (hj : j < K.length) : ∃ g cap, v = .slice (some ⟨g, 0, none⟩) K.length cap ∧ w.cell? ⟨g, j * 3, none⟩ = some (.int .i64 K[j].h) ∧ w.cell? ⟨g, j * 3 + 1, none⟩ = some (.int .i64 K[j].a) ∧ w.cell? ⟨g, j * 3 + 2, none⟩ = some (dv K[j].d K[j].xs.length) := by
  rcases h.row.shape with ⟨rfl, rfl⟩ | ⟨g, cap, rfl, _, _, hc⟩
  · simp at hj
  · obtain ⟨g0, g1, g2⟩ := flB_get K j hj
    exact ⟨g, cap, rfl, (hc _ (by omega)).trans g0, (hc _ (by omega)).trans g1, (hc _ (by omega)).trans g2⟩
end

set_option maxHeartbeats 400000 in
theorem RNew_arg (n : Int) (hn : rl n = false) (w : World) : Calls Try.prog 13 #[.int .i64 n] w fun e w' => e = .returned (.tuple #[.pointer none, .int .i64 1]) ∧ w = w' := by
  rcases rl_false hn with h | h
  · go_enter Try.func13, Try.ntmps13
    go_wp2
    go_ret2
    exact ⟨rfl, rfl⟩
  · have h0 : decide (n < 1) = false := by rw [decide_eq_false_iff_not]; omega
    go_enter Try.func13, Try.ntmps13
    go_wp2
    go_ret2
    exact ⟨rfl, rfl⟩
set_option maxHeartbeats 400000 in
theorem RNew_ok (n : Nat) (hn : rl n = true) (w : World) : Calls Try.prog 13 #[.int .i64 n] w fun e w' => e = .returned (.tuple #[.pointer (some ⟨w.heap.size, 0, none⟩), .int .i64 0]) ∧ Rt w' w.heap.size w.heap.size n (.slice none 0 0) [] ∧ Kept No w w' := by
  have hn' := rl_true hn
  have h0 : decide ((n : Int) < 1) = false := by rw [decide_eq_false_iff_not]; omega
  have h1 : decide ((65536 : Int) < n) = false := by rw [decide_eq_false_iff_not]; omega
  go_enter Try.func13, Try.ntmps13
  go_wp2
  go_ret2
  exact ⟨rfl, ⟨World.alloc_heap_new w _, World.ownsRow_nil _ _ _ _, fun b hb => absurd hb (by simp), by simp, Nat.le_refl _⟩, (Kept.refl _ _).alloc _⟩

/-- The first k have another handle. -/
def NoH (K : List Bk) (x : Int) (k : Nat) : Prop := ∀ j (hj : j < K.length), j < k → (K[j].h : Int) ≠ x
/-- Where a handle stands. -/
def fdI (K : List Bk) (x : Int) : Int := match K.findIdx? (fun b => decide ((b.h : Int) = x)) with | some i => i | none => -1
theorem fdI_at {K : List Bk} {x : Int} {k : Nat} (hk : k < K.length) (hn : NoH K x k) (h : (K[k].h : Int) = x) : fdI K x = k := by
  have : K.findIdx? (fun b => decide ((b.h : Int) = x)) = some k := by
    rw [List.findIdx?_eq_some_iff_getElem]
    exact ⟨hk, by simpa using h, fun j hj => by simpa using hn j (by omega) hj⟩
  unfold fdI; rw [this]
theorem fdI_out {K : List Bk} {x : Int} (hn : NoH K x K.length) : fdI K x = -1 := by
  have : K.findIdx? (fun b => decide ((b.h : Int) = x)) = none := by
    rw [List.findIdx?_eq_none_iff]
    intro b hb
    obtain ⟨j, hj, rfl⟩ := List.getElem_of_mem hb
    simpa using hn j hj hj
  unfold fdI; rw [this]

set_option maxRecDepth 20000 in
set_option maxHeartbeats 1000000 in
theorem RFind_any {w : World} {B T size : Nat} {v : Value} {K : List Bk} (h : Rt w B T size v K) (hl : K.length ≤ 100000) (x : Int) :
    Calls Try.prog 51 #[.pointer (some ⟨T, 0, none⟩), .int .i64 x] w fun e w' => e = .returned (.int .i64 (fdI K x)) ∧ w = w' := by
  obtain ⟨c1, c0⟩ := h.cells
  obtain ⟨ao, cap, hv⟩ := h.row.form
  have HC : Hid (∀ j (hj : j < K.length), ∃ g, ao = some ⟨g, 0, none⟩ ∧ w.cell? ⟨g, j * 3, none⟩ = some (.int .i64 K[j].h)) := fun j hj => by
    obtain ⟨g, cap', e, h0, _⟩ := h.blk hj
    rw [hv] at e; injection e with e1 e2 e3
    exact ⟨g, e1, h0⟩
  rw [hv] at c0
  clear h hv
  go_enter Try.func51, Try.ntmps51
  go_wp2_with fail
  go_loop [5] (fun i => ∃ k : Nat, k ≤ K.length ∧ i = .int .i64 k ∧ Hid (NoH K x k)) (fun i => K.length - (intOf i).toNat)
  case atStart => exact ⟨0, Nat.zero_le _, rfl, fun j hj hlt => by omega⟩
  case round =>
    obtain ⟨k, hk, rfl, hN⟩ := hrel
    by_cases hlt : k < K.length
    · obtain ⟨g, rfl, d0⟩ := HC.out k hlt
      by_cases hxs : (K[k].h : Int) = x
      · have HF : Hid (fdI K x = k) := fdI_at hlt hN.out hxs
        rw [hxs] at d0
        clear hxs hN
        go_wp2
        go_ret
        exact ⟨by rw [HF.out]; rfl, rfl⟩
      · have HN2 : Hid (NoH K x (k + 1)) := fun j hj hlt2 => by
          rcases Nat.lt_succ_iff_lt_or_eq.1 hlt2 with h1 | h1
          · exact hN.out j hj h1
          · subst h1; exact hxs
        clear hN
        generalize (K[k].h : Int) = z at d0 hxs
        have hxb : (z == x) = false := by rw [beq_eq_false_iff_ne]; exact hxs
        go_wp2
        go_round
        case rel => exact ⟨k + 1, by omega, by go_num, HN2⟩
        case measure => simp [intOf] <;> omega
    · obtain rfl : k = K.length := by omega
      have HF : Hid (fdI K x = -1) := fdI_out hN.out
      clear hN
      go_wp2
      go_ret
      exact ⟨by rw [HF.out]; rfl, rfl⟩
end Go.Proofs.Ytdaklohfecinjaa

/- The document's put and cut. -/
namespace Go.Proofs.Ytdaklohfecinjaa
open Go.RowKit
set_option linter.unusedSimpArgs false
set_option linter.unusedVariables false

theorem info77 : (Try.prog.info? 77).map (fun i => (i.zero, i.size, i.bytes)) = some (some (.agg #[.int .i64 0, .int .i64 0, .slice none 0 0]), 3, 40) := by kernel_rfl

theorem add_g (g o j : Nat) : (⟨g, o, none⟩ : Addr).add j = ⟨g, o + j, none⟩ := by
  unfold Addr.add
  split
  · next h => subst h; rfl
  · rfl
/-- Blocks that a slice holds. -/
structure BSl (w : World) (ao : Option Addr) (c : Nat) (N : List Bk) : Prop where
  z : ao = none → c = 0
  c : ∀ j u, (flB N)[j]? = some u → ∃ ad, ao = some ad ∧ w.cell? (ad.add j) = some u
theorem BSl.no {w w' : World} {ao : Option Addr} {c : Nat} {N : List Bk} (h : BSl w ao c N) (hk : Kept No w w') : BSl w' ao c N := by
  refine ⟨h.z, fun j u hu => ?_⟩
  obtain ⟨ad, h1, h2⟩ := h.c j u hu
  refine ⟨ad, h1, ?_⟩
  unfold World.cell? at h2 ⊢
  cases e : w.heap[(ad.add j).block]? with
  | none => rw [e] at h2; cases h2
  | some o => rw [e] at h2; rw [hk.heap e id]; exact h2

/-- Blocks are appended. -/
theorem app_bk {ops : Array Oper} {rest : List Oper} {o : Oper} {a : Act} {Q : Exit → Act → World → Prop} {w : World} (hgd : o.guard = none) (s x : Operand)
    (ho : o.op = .call { callee := .builtin .append, args := #[s, x], argTypes := #[65, 65] }) (base : Nat) (v : Value) (L : List Bk) (hs : a.eval s = v) (hrow : BRow w base v L)
    (ao : Option Addr) (m c : Nat) (N : List Bk) (hm : N.length = m) (hx : a.eval x = .slice ao m c) (hN : BSl w ao c N) (hlen : L.length + m ≤ 1000000) (hbase : base ≤ w.heap.size)
    (h : ∀ v' w', Hid (BRow w' base v' (L ++ N)) → Hid (w.grownBy w' v.ownBlock) → wpList Try.prog ops Q rest (a.put o.dst v') w') : wpList Try.prog ops Q (o :: rest) a w := by
  obtain ⟨i0, hi, hz0, hz1, hz2⟩ := info_parts info77
  cases ao with
  | none =>
    have hN0 : N = [] := by
      cases N with
      | nil => rfl
      | cons b N =>
        obtain ⟨ad, h1, _⟩ := hN.c 0 (.int .i64 b.h) (by simp [flB])
        cases h1
    subst hN0
    have hc := hN.z rfl
    subst hc
    obtain rfl : m = 0 := by simpa using hm.symm
    refine wpList_append_own_none hgd s x 65 ho base 77 i0 3 Try.underlying65 hi v L.length (flB L) hs hrow hx ?_
    exact h v w (by show BRow _ _ _ _; rw [List.append_nil]; exact hrow) ⟨rfl, rfl, rfl, Nat.le_refl _, fun _ _ _ => rfl⟩
  | some ad =>
    have h63 : L.length + m ≤ maxLen := by unfold maxLen; omega
    have h40 : (L.length + m) * 40 ≤ 140737488355328 := by omega
    refine wpList_append_own_at w hgd s x 65 ho base 77 i0 _ 3 40 Try.underlying65 hi hz0 hz1 hz2 rfl (by decide) v L.length (flB L) hs hrow ad m c (flB N) hx (by rw [flB_length, hm]) ?_ (flB_one _) h63 h40 hbase ?_
    · intro j u hu
      obtain ⟨ad', h1, h2⟩ := hN.c j u hu
      obtain rfl := Option.some.inj h1
      exact h2
    · intro v' w' h1 h2 _ _
      refine h v' w' ?_ h2
      show World.ownsRow _ _ _ _ _ _ _
      rw [List.length_append, flB_append, hm]; exact h1

/-- The first i blocks. -/
theorem sl_lo {w : World} {B : Nat} {v : Value} {K : List Bk} (h : BRow w B v K) {i : Nat} (hi : i ≤ K.length) :
    ∃ ao c, (∀ w : World, (Instr.slice 65 v none (some (.int .i64 (i : Int))) none).run Try.prog w = .ok (.slice ao i c) w) ∧ BSl w ao c (K.take i) := by
  rcases h.shape with ⟨rfl, rfl⟩ | ⟨g, cap, rfl, h1, h2, hc⟩
  · obtain rfl : i = 0 := by simpa using hi
    refine ⟨none, 0, fun w => ?_, ⟨fun _ => rfl, fun j u hu => by simp [flB] at hu⟩⟩
    simp [go_sem]
  · have q1 : (0 : Int) ≤ (i : Int) := by omega
    have q2 : (i : Int) ≤ (cap : Int) := by omega
    have q3 : (i : Int).toNat = i := by omega
    refine ⟨some ⟨g, 0, none⟩, cap, fun w => ?_, ⟨fun e => (by cases e), fun j u hu => ⟨_, rfl, ?_⟩⟩⟩
    · simp [go_sem, q1, q2, q3]
    · have hj : j < (flB (K.take i)).length := (List.getElem?_eq_some_iff.1 hu).1
      rw [flB_length, List.length_take] at hj
      have e : w.cell? ⟨g, j, none⟩ = (flB K)[j]? := hc j (by omega)
      rw [← flB_take, List.getElem?_take_of_lt (by omega)] at hu
      rw [hu] at e
      rw [add_g]; simpa using e
/-- The blocks from i on. -/
theorem sl_hi {w : World} {B : Nat} {v : Value} {K : List Bk} (h : BRow w B v K) {i : Nat} (hi : i ≤ K.length) :
    ∃ ao c, (∀ w : World, (Instr.slice 65 v (some (.int .i64 (i : Int))) none none).run Try.prog w = .ok (.slice ao (K.length - i) c) w) ∧ BSl w ao c (K.drop i) := by
  rcases h.shape with ⟨rfl, rfl⟩ | ⟨g, cap, rfl, h1, h2, hc⟩
  · obtain rfl : i = 0 := by simpa using hi
    refine ⟨none, 0, fun w => ?_, ⟨fun _ => rfl, fun j u hu => by simp [flB] at hu⟩⟩
    simp [go_sem]
  · have q1 : (0 : Int) ≤ (i : Int) := by omega
    have q2 : (i : Int) ≤ (cap : Int) := by omega
    have q3 : (i : Int).toNat = i := by omega
    have q4 : (i : Int) ≤ (K.length : Int) := by omega
    have q5 : (K.length : Int) ≤ (cap : Int) := by omega
    by_cases hcp : cap = i
    · subst hcp
      have e : K.length = cap := by omega
      refine ⟨some ⟨g, 0, none⟩, 0, fun w => ?_, ⟨fun e => (by cases e), fun j u hu => ?_⟩⟩
      · rw [e]; simp [go_sem, q1, q2, q3]
      · rw [List.drop_eq_nil_of_le (by omega)] at hu
        simp [flB] at hu
    · have q6 : i ≤ cap := by omega
      have q7 : cap - i ≠ 0 := by omega
      refine ⟨some ⟨g, i * 3, none⟩, cap - i, fun w => ?_, ⟨fun e => (by cases e), fun j u hu => ⟨_, rfl, ?_⟩⟩⟩
      · simp [go_sem, q1, q2, q3, q4, q5, q6, q7, hcp, hi]
      · have hj : j < (flB (K.drop i)).length := (List.getElem?_eq_some_iff.1 hu).1
        rw [flB_length, List.length_drop] at hj
        have e : w.cell? ⟨g, i * 3 + j, none⟩ = (flB K)[i * 3 + j]? := hc _ (by omega)
        rw [← flB_drop, List.getElem?_drop] at hu
        rw [hu] at e
        rw [add_g]; simpa using e

theorem kept_nil {w w' : World} (h : w.grownBy w' (Value.slice none 0 0).ownBlock) : Kept No w w' := (Kept.refl No w).grown h (fun k e => by cases e)
theorem BRow.grown {w0 w w' : World} {v : Value} {L : List Bk} (h : BRow w w0.heap.size v L) (hk : Kept No w0 w) (hg : w.grownBy w' v.ownBlock) : Kept No w0 w' := hk.grown hg (fun k e => .inr (h.lt k e).1)

set_option maxRecDepth 20000 in
set_option maxHeartbeats 1000000 in
theorem RCut_any {w : World} {B : Nat} {v : Value} {K : List Bk} (h : BRow w B v K) (hl : K.length ≤ 100000) {i : Nat} (hi : i < K.length) :
    Calls Try.prog 68 #[v, .int .i64 (i : Int)] w fun e w' => ∃ v', e = .returned v' ∧ BRow w' w.heap.size v' (K.take i ++ K.drop (i + 1)) ∧ Kept No w w' := by
  obtain ⟨ao1, c1, hs1, hb1⟩ := sl_lo h (i := i) (by omega)
  obtain ⟨ao2, c2, hs2, hb2⟩ := sl_hi h (i := i + 1) (by omega)
  have e2 : ((i + 1 : Nat) : Int) = (i : Int) + 1 := by omega
  rw [e2] at hs2
  have HB : Hid (BSl w ao1 c1 (K.take i) ∧ BSl w ao2 c2 (K.drop (i + 1))) := ⟨hb1, hb2⟩
  clear hb1 hb2 e2
  obtain ⟨ao, cap, rfl⟩ := h.form
  clear h
  go_enter Try.func68, Try.ntmps68
  go_wp2_with (first
    | (refine app_bk rfl (.tmp 6) (.tmp 9) rfl w.heap.size (.slice none 0 0) [] rfl (World.ownsRow_nil _ _ _ _) ao1 i c1 (K.take i) (by rw [List.length_take]; omega) rfl HB.out.1 (by simp; omega) (Nat.le_refl _) ?_
       intro v1 w1 HR1 HG1
       have HK1 : Hid (Kept No w w1) := kept_nil HG1.out
       clear HG1
       obtain ⟨so, sc, rfl⟩ := BRow.form HR1.out
       have hll : ([] ++ K.take i).length = i := (by simp; omega)
       rw [hll] at HR1 ⊢)
    | (refine app_bk rfl (.tmp 11) (.tmp 15) rfl w.heap.size (.slice so i sc) ([] ++ K.take i) rfl HR1.out ao2 (K.length - (i + 1)) c2 (K.drop (i + 1)) (by rw [List.length_drop]) rfl (HB.out.2.no HK1.out) (by rw [hll]; omega) HK1.out.size ?_
       intro v2 w2 HR2 HG2
       have HK2 : Hid (Kept No w w2) := BRow.grown HR1.out HK1.out HG2.out
       clear HG2))
  go_ret
  exact ⟨_, rfl, HR2.out, HK2.out⟩

set_option maxRecDepth 20000 in
set_option maxHeartbeats 1000000 in
theorem RPut_any {w : World} {B : Nat} {v : Value} {K : List Bk} (h : BRow w B v K) (hl : K.length ≤ 100000) {i : Nat} (hi : i ≤ K.length) (b : Bk) :
    Calls Try.prog 67 #[v, .int .i64 (i : Int), .agg #[.int .i64 b.h, .int .i64 b.a, dv b.d b.xs.length]] w fun e w' => ∃ v', e = .returned v' ∧ BRow w' w.heap.size v' (K.take i ++ b :: K.drop i) ∧ Kept No w w' := by
  obtain ⟨ao1, c1, hs1, hb1⟩ := sl_lo h (i := i) (by omega)
  obtain ⟨ao2, c2, hs2, hb2⟩ := sl_hi h (i := i) (by omega)
  have HB : Hid (BSl w ao1 c1 (K.take i) ∧ BSl w ao2 c2 (K.drop i)) := ⟨hb1, hb2⟩
  clear hb1 hb2
  obtain ⟨ao, cap, rfl⟩ := h.form
  clear h
  obtain ⟨bh, ba, bd, bx⟩ := b
  dsimp only
  obtain ⟨u, hu⟩ : ∃ u, Hid (dv bd bx.length = u) := ⟨_, show _ = _ from rfl⟩
  obtain ⟨x1, hx1⟩ : ∃ x : Int, Hid ((bh : Int) = x) := ⟨_, show _ = _ from rfl⟩
  obtain ⟨x2, hx2⟩ : ∃ x : Int, Hid ((ba : Int) = x) := ⟨_, show _ = _ from rfl⟩
  have hu1 : u.cells = #[u] := by rw [← hu.out]; rfl
  rw [hu.out, hx1.out, hx2.out]
  obtain ⟨W, HW⟩ : ∃ W, Hid (w.alloc (.cells #[.int .i64 x1, .int .i64 x2, u] 77) = W) := ⟨_, show _ = _ from rfl⟩
  have hszW : W.heap.size = w.heap.size + 1 := by rw [← HW.out]; simp
  have HKW : Hid (Kept No w W) := by show Kept _ _ _; rw [← HW.out]; exact (Kept.refl _ _).alloc _
  have HBW : Hid (W.heap[w.heap.size]? = some (.cells #[.int .i64 x1, .int .i64 x2, u] 77 (0, 0))) := by show _ = _; rw [← HW.out]; exact World.alloc_heap_new w _
  have HBk : Hid (∀ W', Kept No W W' → BSl (W'.alloc (.cells #[.int .i64 x1, .int .i64 x2, u] 77)) (some ⟨W'.heap.size, 0, none⟩) 1 [⟨bh, ba, bd, bx⟩]) := fun W' _ => by
    refine ⟨fun e => (by cases e), fun j z hz => ⟨_, rfl, ?_⟩⟩
    have hc := cell_of (World.alloc_heap_new W' (.cells #[.int .i64 x1, .int .i64 x2, u] 77))
    rw [add_g, Nat.zero_add, hc]
    rw [show flB [(⟨bh, ba, bd, bx⟩ : Bk)] = [.int .i64 x1, .int .i64 x2, u] by simp [flB, hx1.out, hx2.out, hu.out]] at hz
    simpa using hz
  clear hu1
  go_enter Try.func67, Try.ntmps67
  go_wp2_with (first
    | (rw [HW.out]
       refine app_bk rfl (.tmp 8) (.tmp 11) rfl w.heap.size (.slice none 0 0) [] rfl (World.ownsRow_nil _ _ _ _) ao1 i c1 (K.take i) (by rw [List.length_take]; omega) rfl (HB.out.1.no HKW.out) (by simp; omega) HKW.out.size ?_
       intro v1 w1 HR1 HG1
       have HK1 : Hid (Kept No W w1) := kept_nil HG1.out
       clear HG1
       obtain ⟨so, sc, rfl⟩ := BRow.form HR1.out
       have hll : ([] ++ K.take i).length = i := (by simp; omega)
       rw [hll] at HR1 ⊢
       have d5 := cell_of (HK1.out.heap HBW.out id)
       have d50 : w1.cell? ⟨w.heap.size, 0, none⟩ = some (.int .i64 x1) := d5 0
       have d51 : w1.cell? ⟨w.heap.size, 1, none⟩ = some (.int .i64 x2) := d5 1
       have d52 : w1.cell? ⟨w.heap.size, 2, none⟩ = some u := d5 2
       clear d5)
    | (refine app_bk rfl (.tmp 13) (.tmp 15) rfl w.heap.size (.slice so i sc) ([] ++ K.take i) rfl (World.ownsRow.alloc HR1.out _) _ 1 1 [⟨bh, ba, bd, bx⟩] rfl rfl (HBk.out w1 HK1.out) (by rw [hll]; omega) (by have := (HKW.out.trans HK1.out).size; simp; omega) ?_
       intro v2 w2 HR2 HG2
       have HK2 : Hid (Kept No w w2) := ((HKW.out.trans HK1.out).alloc _).grown HG2.out (fun k e => .inr (World.ownsRow.lt HR1.out k e).1)
       clear HG2 d50 d51 d52 HK1 HR1
       obtain ⟨so2, sc2, rfl⟩ := BRow.form HR2.out
       have hl2 : ([] ++ K.take i ++ [(⟨bh, ba, bd, bx⟩ : Bk)]).length = i + 1 := (by simp; omega)
       rw [hl2] at HR2 ⊢)
    | (refine app_bk rfl (.tmp 17) (.tmp 20) rfl w.heap.size (.slice so2 (i + 1) sc2) ([] ++ K.take i ++ [(⟨bh, ba, bd, bx⟩ : Bk)]) rfl HR2.out ao2 (K.length - i) c2 (K.drop i) (by rw [List.length_drop]) rfl (HB.out.2.no HK2.out) (by rw [hl2]; omega) HK2.out.size ?_
       intro v3 w3 HR3 HG3
       have HK3 : Hid (Kept No w w3) := BRow.grown HR2.out HK2.out HG3.out
       clear HG3))
  go_ret
  refine ⟨_, rfl, ?_, HK3.out⟩
  have := HR3.out
  rw [List.nil_append, List.append_assoc] at this
  exact this
end Go.Proofs.Ytdaklohfecinjaa

/- The document's Place. -/
namespace Go.Proofs.Ytdaklohfecinjaa
open Go.RowKit
set_option linter.unusedSimpArgs false
set_option linter.unusedVariables false

/-- Where the k-th place among blocks begins. -/
def enK (K : List Bk) : Nat → Nat
  | 0 => 0
  | k + 1 => match K[k]? with | some b => b.a + b.xs.length | none => 0
/-- Up to where it goes. -/
def toK (K : List Bk) (size k : Nat) : Nat := match K[k]? with | some b => b.a | none => size
def gapK (K : List Bk) (size k : Nat) : Int := (toK K size k : Int) - (enK K k : Int)
theorem enK_succ {K : List Bk} {k : Nat} (hk : k < K.length) : enK K (k + 1) = K[k].a + K[k].xs.length := by
  simp [enK, List.getElem?_eq_getElem hk]
theorem toK_lt {K : List Bk} {size k : Nat} (hk : k < K.length) : toK K size k = K[k].a := by
  simp [toK, List.getElem?_eq_getElem hk]
theorem toK_end {K : List Bk} {size : Nat} : toK K size K.length = size := by simp [toK]
/-- What Place tells. -/
def PlaceIs (K : List Bk) (size : Nat) (n : Int) (at' i : Int) : Prop :=
  (∃ k : Nat, k ≤ K.length ∧ n ≤ gapK K size k ∧ (∀ j, j < k → gapK K size j < n) ∧ at' = (enK K k : Int) ∧ i = (k : Int)) ∨ ((∀ k, k ≤ K.length → gapK K size k < n) ∧ at' = -1 ∧ i = 0)
theorem PlaceIs.at {K : List Bk} {size : Nat} {n at' i : Int} (h : PlaceIs K size n at' i) {k : Nat} (hk : k ≤ K.length) (h1 : n ≤ gapK K size k) (h2 : ∀ j, j < k → gapK K size j < n) : at' = (enK K k : Int) ∧ i = (k : Int) := by
  rcases h with ⟨k', h3, h4, h5, h6, h7⟩ | ⟨h3, _⟩
  · have : k' = k := by
      rcases Nat.lt_trichotomy k' k with e | e | e
      · have := h2 k' e; omega
      · exact e
      · have := h5 k e; omega
    subst this
    exact ⟨h6, h7⟩
  · have := h3 k hk; omega
theorem PlaceIs.out {K : List Bk} {size : Nat} {n at' i : Int} (h : PlaceIs K size n at' i) (h1 : ∀ k, k ≤ K.length → gapK K size k < n) : at' = -1 ∧ i = 0 := by
  rcases h with ⟨k', h3, h4, h5, h6, h7⟩ | ⟨_, h3⟩
  · have := h1 k' h3; omega
  · exact h3

/-- Blocks with bounds. -/
def BdK (K : List Bk) : Prop := K.length ≤ 65536 ∧ ∀ b ∈ K, b.a + b.xs.length ≤ 65536
theorem BdK.en {K : List Bk} (h : BdK K) (k : Nat) : enK K k ≤ 65536 := by
  cases k with
  | zero => simp [enK]
  | succ k =>
    by_cases hk : k < K.length
    · rw [enK_succ hk]; exact h.2 _ (List.getElem_mem hk)
    · simp [enK, List.getElem?_eq_none (Nat.le_of_not_lt hk)]

set_option maxRecDepth 20000 in
set_option maxHeartbeats 2000000 in
theorem RPlace_any {w : World} {B : Nat} {v : Value} {K : List Bk} (h : BRow w B v K) (hb : BdK K) {size : Nat} (hsz : size ≤ 65536) {n at' i : Int} (hn : -1000000 ≤ n ∧ n ≤ 1000000) (hP : PlaceIs K size n at' i) :
    Calls Try.prog 66 #[v, .int .i64 (size : Int), .int .i64 n] w fun e w' => e = .returned (.tuple #[.int .i64 at', .int .i64 i]) ∧ ∃ m, w' = w.drewN m := by
  obtain ⟨ao, cap, hv⟩ := h.form
  have HC : Hid (∀ W : World, (∃ m, W = w.drewN m) → ∀ j (hj : j < K.length), ∃ g, ao = some ⟨g, 0, none⟩ ∧ W.cell? ⟨g, j * 3 + 1, none⟩ = some (.int .i64 K[j].a) ∧ W.cell? ⟨g, j * 3 + 2, none⟩ = some (dv K[j].d K[j].xs.length)) := fun W hW j hj => by
    obtain ⟨m, rfl⟩ := hW
    rcases h.shape with ⟨_, rfl⟩ | ⟨g, cap', e, _, _, hc⟩
    · simp at hj
    · rw [hv] at e; injection e with e1 e2 e3
      obtain ⟨g0, g1, g2⟩ := flB_get K j hj
      exact ⟨g, e1, (hc _ (by omega)).trans g1, (hc _ (by omega)).trans g2⟩
  subst hv
  have HP : Hid (PlaceIs K size n at' i) := hP
  have HB : Hid (BdK K) := hb
  have hKl := hb.1
  clear h hP hb
  obtain ⟨n1, n2⟩ := hn
  go_enter Try.func66, Try.ntmps66
  go_wp2_with fail
  go_loopw [8, 9] (fun a i wr => ∃ k : Nat, k ≤ K.length ∧ i = .int .i64 k ∧ Hid (a = .int .i64 (enK K k : Int)) ∧ Hid (∀ j, j < k → gapK K size j < n) ∧ Hid (∃ m, wr = w.drewN m)) (fun _ i _ => K.length - (intOf i).toNat)
  case atStart => exact ⟨0, Nat.zero_le _, rfl, rfl, fun j hj => by omega, 0, rfl⟩
  case round =>
    obtain ⟨k, hk, rfl, ha, hN, hW⟩ := hrel
    have ha' := ha.out
    subst ha'
    clear ha
    have heb := HB.out.en k
    obtain ⟨E, HE⟩ : ∃ E, Hid (enK K k = E) := ⟨_, show _ = _ from rfl⟩
    rw [HE.out] at heb ⊢
    have heb2 : (E : Int) ≤ 65536 := by omega
    have heb3 : (0 : Int) ≤ (E : Int) := by omega
    by_cases hlt : k < K.length
    · obtain ⟨g, rfl, d1, d2⟩ := HC.out wr hW.out k hlt
      have HT : Hid (gapK K size k = (K[k].a : Int) - (E : Int)) := by show _ = _; unfold gapK; rw [toK_lt hlt, HE.out]
      have HS : Hid (enK K (k + 1) = K[k].a + K[k].xs.length) := enK_succ hlt
      have hab := HB.out.2 _ (List.getElem_mem hlt)
      generalize K[k].a = a0 at d1 HT HS hab
      unfold dv at d2
      generalize K[k].xs.length = l0 at d2 HS hab
      generalize K[k].d = dd at d2
      have k1 : (k : Int) < (K.length : Int) := by omega
      have u1 : IntKind.i64.wrap ((a0 : Int) - (E : Int)) = (a0 : Int) - (E : Int) := by rw [IntKind.wrap_i64]; omega
      have u2 : IntKind.i64.wrap ((a0 : Int) + (l0 : Int)) = (a0 : Int) + (l0 : Int) := by rw [IntKind.wrap_i64]; omega
      by_cases hg : n ≤ (a0 : Int) - (E : Int)
      · obtain ⟨ea, ei⟩ := HP.out.at hk (by rw [HT.out]; exact hg) hN.out
        have HR : Hid (at' = (E : Int) ∧ i = (k : Int)) := ⟨by rw [ea, HE.out], ei⟩
        clear ea ei
        go_wp2
        go_ret2
        exact ⟨by rw [HR.out.1, HR.out.2]; rfl, hW.out⟩
      · have HN2 : Hid (∀ j, j < k + 1 → gapK K size j < n) := fun j hj => by
          rcases Nat.lt_succ_iff_lt_or_eq.1 hj with h1 | h1
          · exact hN.out j h1
          · subst h1; rw [HT.out]; omega
        go_wp2_with fail
        go_quiet (fail)
        go_wp2
        go_round
        case rel => exact ⟨k + 1, by omega, by go_num, by show _ = _; rw [HS.out]; simp, HN2, (by obtain ⟨m, hm⟩ := hW.out; exact ⟨m + nq, by rw [hm, World.drewN_drewN]⟩)⟩
        case measure => simp [intOf] <;> omega
    · obtain rfl : k = K.length := by omega
      have HT : Hid (gapK K size K.length = (size : Int) - (E : Int)) := by show _ = _; unfold gapK; rw [toK_end, HE.out]
      have u1 : IntKind.i64.wrap ((size : Int) - (E : Int)) = (size : Int) - (E : Int) := by rw [IntKind.wrap_i64]; omega
      by_cases hg : n ≤ (size : Int) - (E : Int)
      · obtain ⟨ea, ei⟩ := HP.out.at hk (by rw [HT.out]; exact hg) hN.out
        have HR : Hid (at' = (E : Int) ∧ i = (K.length : Int)) := ⟨by rw [ea, HE.out], ei⟩
        clear ea ei
        go_wp2
        go_ret2
        exact ⟨by rw [HR.out.1, HR.out.2]; rfl, hW.out⟩
      · obtain ⟨ea, ei⟩ := HP.out.out (fun j hj => by
          rcases Nat.lt_or_eq_of_le hj with h1 | h1
          · exact hN.out j h1
          · subst h1; rw [HT.out]; omega)
        have HR : Hid (at' = -1 ∧ i = 0) := ⟨ea, ei⟩
        clear ea ei
        go_wp2
        go_ret2
        exact ⟨by rw [HR.out.1, HR.out.2]; rfl, hW.out⟩
end Go.Proofs.Ytdaklohfecinjaa

/- The document's looks: Len, Addr, Live, Top, Gap, Load. -/
namespace Go.Proofs.Ytdaklohfecinjaa
open Go.RowKit
set_option linter.unusedSimpArgs false
set_option linter.unusedVariables false

section
variable {w : World} {B T size : Nat} {v : Value} {K : List Bk}

set_option maxHeartbeats 1000000 in
theorem RLen_none (h : Rt w B T size v K) (hb : BdK K) (x : Int) (hx : fdI K x = -1) :
    Calls Try.prog 19 #[.pointer (some ⟨T, 0, none⟩), .int .i64 x] w fun e w' => e = .returned (.int .i64 0) ∧ w = w' := by
  have H1 : Hid _ := RFind_any h (by have := hb.1; omega) x
  rw [hx] at H1
  go_enter Try.func19, Try.ntmps19
  go_wp2_with (go_at_call 51; refine Calls.mono H1.out ?_; rintro e w' ⟨rfl, rfl⟩)
  go_ret
  exact ⟨rfl, rfl⟩
set_option maxHeartbeats 1000000 in
theorem RAddr_none (h : Rt w B T size v K) (hb : BdK K) (x : Int) (hx : fdI K x = -1) :
    Calls Try.prog 21 #[.pointer (some ⟨T, 0, none⟩), .int .i64 x] w fun e w' => e = .returned (.int .i64 (-1)) ∧ w = w' := by
  have H1 : Hid _ := RFind_any h (by have := hb.1; omega) x
  rw [hx] at H1
  go_enter Try.func21, Try.ntmps21
  go_wp2_with (go_at_call 51; refine Calls.mono H1.out ?_; rintro e w' ⟨rfl, rfl⟩)
  go_ret
  exact ⟨rfl, rfl⟩
set_option maxHeartbeats 1000000 in
theorem RLen_some (h : Rt w B T size v K) (hb : BdK K) (x : Int) {k : Nat} (hk : k < K.length) (hx : fdI K x = k) :
    Calls Try.prog 19 #[.pointer (some ⟨T, 0, none⟩), .int .i64 x] w fun e w' => e = .returned (.int .i64 K[k].xs.length) ∧ w = w' := by
  have H1 : Hid _ := RFind_any h (by have := hb.1; omega) x
  rw [hx] at H1
  obtain ⟨c0, c1⟩ := h.cells
  obtain ⟨g, cap, rfl, d0, d1, d2⟩ := h.blk hk
  unfold dv at d2
  have hl := hb.1
  clear h hb hx
  generalize K[k].xs.length = z at d2 ⊢
  have k1 : (k : Int) < (K.length : Int) := by omega
  have k2 : ¬ (k : Int) < 0 := by omega
  go_enter Try.func19, Try.ntmps19
  go_wp2_with (go_at_call 51; refine Calls.mono H1.out ?_; rintro e w' ⟨rfl, rfl⟩)
  go_ret
  exact ⟨rfl, rfl⟩
set_option maxHeartbeats 1000000 in
theorem RAddr_some (h : Rt w B T size v K) (hb : BdK K) (x : Int) {k : Nat} (hk : k < K.length) (hx : fdI K x = k) :
    Calls Try.prog 21 #[.pointer (some ⟨T, 0, none⟩), .int .i64 x] w fun e w' => e = .returned (.int .i64 K[k].a) ∧ w = w' := by
  have H1 : Hid _ := RFind_any h (by have := hb.1; omega) x
  rw [hx] at H1
  obtain ⟨c0, c1⟩ := h.cells
  obtain ⟨g, cap, rfl, d0, d1, d2⟩ := h.blk hk
  have hl := hb.1
  clear h hb hx d0 d2
  generalize K[k].a = z at d1 ⊢
  have k1 : (k : Int) < (K.length : Int) := by omega
  have k2 : ¬ (k : Int) < 0 := by omega
  go_enter Try.func21, Try.ntmps21
  go_wp2_with (go_at_call 51; refine Calls.mono H1.out ?_; rintro e w' ⟨rfl, rfl⟩)
  go_ret
  exact ⟨rfl, rfl⟩

/-- The cells of all. -/
def sumL (K : List Bk) : Nat := (K.map fun b => b.xs.length).sum
theorem sumL_take {K : List Bk} {k : Nat} (hk : k < K.length) : sumL (K.take (k + 1)) = sumL (K.take k) + K[k].xs.length := by
  unfold sumL
  rw [List.take_succ_eq_append_getElem hk, List.map_append, List.sum_append]; simp
theorem BdK.sum {K : List Bk} (h : BdK K) : ∀ k, k ≤ K.length → sumL (K.take k) ≤ k * 65536
  | 0, _ => by simp [sumL]
  | k + 1, hk => by
    rw [sumL_take (by omega)]
    have := h.sum k (by omega)
    have := h.2 _ (List.getElem_mem (show k < K.length by omega))
    omega

set_option maxRecDepth 20000 in
set_option maxHeartbeats 1000000 in
theorem RLive_any (h : Rt w B T size v K) (hb : BdK K) :
    Calls Try.prog 47 #[.pointer (some ⟨T, 0, none⟩)] w fun e w' => e = .returned (.int .i64 (sumL K : Nat)) ∧ w = w' := by
  obtain ⟨c1, c0⟩ := h.cells
  obtain ⟨ao, cap, hv⟩ := h.row.form
  have HC : Hid (∀ j (hj : j < K.length), ∃ g, ao = some ⟨g, 0, none⟩ ∧ w.cell? ⟨g, j * 3 + 2, none⟩ = some (dv K[j].d K[j].xs.length)) := fun j hj => by
    obtain ⟨g, cap', e, _, _, h0⟩ := h.blk hj
    rw [hv] at e; injection e with e1 e2 e3
    exact ⟨g, e1, h0⟩
  rw [hv] at c0
  have hl := hb.1
  have HB : Hid (∀ k, k ≤ K.length → sumL (K.take k) ≤ k * 65536) := hb.sum
  have HB2 : Hid (∀ b ∈ K, b.a + b.xs.length ≤ 65536) := hb.2
  clear h hv hb
  go_enter Try.func47, Try.ntmps47
  go_wp2_with fail
  go_loop [3, 4] (fun n i => ∃ k : Nat, k ≤ K.length ∧ i = .int .i64 k ∧ Hid (n = .int .i64 (sumL (K.take k) : Nat))) (fun _ i => K.length - (intOf i).toNat)
  case atStart => exact ⟨0, Nat.zero_le _, rfl, rfl⟩
  case round =>
    obtain ⟨k, hk, rfl, hn⟩ := hrel
    have hn' := hn.out
    subst hn'
    clear hn
    have b1 := HB.out k hk
    by_cases hlt : k < K.length
    · obtain ⟨g, rfl, d2⟩ := HC.out k hlt
      unfold dv at d2
      have HS : Hid (sumL (K.take (k + 1)) = sumL (K.take k) + K[k].xs.length) := sumL_take hlt
      have b2 := HB2.out _ (List.getElem_mem hlt)
      generalize K[k].xs.length = l0 at d2 HS b2
      generalize K[k].d = dd at d2
      generalize sumL (K.take k) = S0 at HS b1 ⊢
      have k1 : (k : Int) < (K.length : Int) := by omega
      have u2 : IntKind.i64.wrap ((S0 : Int) + (l0 : Int)) = (S0 : Int) + (l0 : Int) := by rw [IntKind.wrap_i64]; omega
      go_wp2
      go_round
      case rel => exact ⟨k + 1, by omega, by go_num, by show _ = _; rw [HS.out]; simp⟩
      case measure => simp [intOf] <;> omega
    · obtain rfl : k = K.length := by omega
      rw [List.take_length]
      go_wp2
      go_ret
      exact ⟨rfl, rfl⟩

/-- The greatest of the first k gaps. -/
def gxK (K : List Bk) (size : Nat) : Nat → Int
  | 0 => 0
  | k + 1 => max (gxK K size k) (gapK K size k)
theorem gxK_bd {K : List Bk} {size : Nat} (hb : BdK K) (hs : size ≤ 65536) : ∀ k, 0 ≤ gxK K size k ∧ gxK K size k ≤ 65536
  | 0 => ⟨Int.le_refl _, by show (0 : Int) ≤ 65536; omega⟩
  | k + 1 => by
    have ih := gxK_bd hb hs k
    have : gapK K size k ≤ 65536 := by
      unfold gapK
      have : toK K size k ≤ 65536 := by
        by_cases hk : k < K.length
        · rw [toK_lt hk]; have := hb.2 _ (List.getElem_mem hk); omega
        · unfold toK; rw [List.getElem?_eq_none (Nat.le_of_not_lt hk)]; exact hs
      omega
    show 0 ≤ max _ _ ∧ max _ _ ≤ 65536
    omega

set_option maxRecDepth 20000 in
set_option maxHeartbeats 2000000 in
theorem RGap_any (h : Rt w B T size v K) (hb : BdK K) (hsz : size ≤ 65536) :
    Calls Try.prog 49 #[.pointer (some ⟨T, 0, none⟩)] w fun e w' => e = .returned (.int .i64 (gxK K size (K.length + 1))) ∧ Kept No w w' := by
  obtain ⟨ao, cap, hv⟩ := h.row.form
  have HC : Hid (∀ W : World, Kept No w W → W.cell? ⟨T, 0, none⟩ = some (.int .i64 (size : Int)) ∧ W.cell? ⟨T, 1, none⟩ = some (.slice ao K.length cap) ∧ ∀ j (hj : j < K.length), ∃ g, ao = some ⟨g, 0, none⟩ ∧ W.cell? ⟨g, j * 3 + 1, none⟩ = some (.int .i64 K[j].a) ∧ W.cell? ⟨g, j * 3 + 2, none⟩ = some (dv K[j].d K[j].xs.length)) := fun W hW => by
    have hR := h.no hW
    have hc := hR.cells
    rw [hv] at hc
    refine ⟨hc.1, hc.2, fun j hj => ?_⟩
    obtain ⟨g, cap', e, _, h1, h2⟩ := hR.blk hj
    rw [hv] at e; injection e with e1 e2 e3
    exact ⟨g, e1, h1, h2⟩
  have HB : Hid (BdK K) := hb
  have hKl := hb.1
  clear h hb hv
  obtain ⟨R, HRR⟩ : ∃ R, Hid (gxK K size (K.length + 1) = R) := ⟨_, show _ = _ from rfl⟩
  rw [HRR.out]
  go_enter Try.func49, Try.ntmps49
  go_wp2_with fail
  go_loopw [3, 4, 5] (fun s a i wr => ∃ k : Nat, k ≤ K.length ∧ i = .int .i64 k ∧ Hid (a = .int .i64 (enK K k : Int)) ∧ Hid (s = .int .i64 (gxK K size k)) ∧ Hid (Kept No w wr)) (fun _ _ i _ => K.length - (intOf i).toNat)
  case atStart => exact ⟨0, Nat.zero_le _, rfl, rfl, rfl, Kept.refl _ _⟩
  case round =>
    obtain ⟨k, hk, rfl, ha, hs, HK⟩ := hrel
    have ha' := ha.out
    subst ha'
    have hs' := hs.out
    subst hs'
    clear ha hs
    obtain ⟨c0, c1, hcc⟩ := HC.out wr HK.out
    have HCC : Hid (∀ j (hj : j < K.length), ∃ g, ao = some ⟨g, 0, none⟩ ∧ wr.cell? ⟨g, j * 3 + 1, none⟩ = some (.int .i64 K[j].a) ∧ wr.cell? ⟨g, j * 3 + 2, none⟩ = some (dv K[j].d K[j].xs.length)) := hcc
    clear hcc
    have heb := HB.out.en k
    have hgb := gxK_bd HB.out hsz k
    have HX : Hid (gxK K size (k + 1) = max (gxK K size k) (gapK K size k)) := show _ = _ from rfl
    obtain ⟨E, HE⟩ : ∃ E, Hid (enK K k = E) := ⟨_, show _ = _ from rfl⟩
    rw [HE.out] at heb ⊢
    obtain ⟨G, HG⟩ : ∃ G, Hid (gxK K size k = G) := ⟨_, show _ = _ from rfl⟩
    rw [HG.out] at hgb HX ⊢
    obtain ⟨g1, g2⟩ := hgb
    by_cases hlt : k < K.length
    · obtain ⟨g, rfl, d1, d2⟩ := HCC.out k hlt
      have HT : Hid (gapK K size k = (K[k].a : Int) - (E : Int)) := by show _ = _; unfold gapK; rw [toK_lt hlt, HE.out]
      have HS : Hid (enK K (k + 1) = K[k].a + K[k].xs.length) := enK_succ hlt
      have hab := HB.out.2 _ (List.getElem_mem hlt)
      generalize K[k].a = a0 at d1 HT HS hab
      unfold dv at d2
      generalize K[k].xs.length = l0 at d2 HS hab
      generalize K[k].d = dd at d2
      have k1 : (k : Int) < (K.length : Int) := by omega
      have u1 : IntKind.i64.wrap ((a0 : Int) - (E : Int)) = (a0 : Int) - (E : Int) := by rw [IntKind.wrap_i64]; omega
      have u2 : IntKind.i64.wrap ((a0 : Int) + (l0 : Int)) = (a0 : Int) + (l0 : Int) := by rw [IntKind.wrap_i64]; omega
      clear HCC
      by_cases hg : G < (a0 : Int) - (E : Int)
      · have HM : Hid (gxK K size (k + 1) = (a0 : Int) - (E : Int)) := by show _ = _; rw [HX.out, HT.out]; omega
        go_wp2_with fail
        go_quiet (fail)
        go_wp2
        go_round
        case rel => exact ⟨k + 1, by omega, by go_num, by show _ = _; rw [HS.out]; simp, by show _ = _; rw [HM.out], HK.out.drewN nq⟩
        case measure => simp [intOf] <;> omega
      · have HM : Hid (gxK K size (k + 1) = G) := by show _ = _; rw [HX.out, HT.out]; omega
        go_wp2_with fail
        go_quiet (fail)
        go_wp2
        go_round
        case rel => exact ⟨k + 1, by omega, by go_num, by show _ = _; rw [HS.out]; simp, by show _ = _; rw [HM.out], HK.out.drewN nq⟩
        case measure => simp [intOf] <;> omega
    · obtain rfl : k = K.length := by omega
      have HT : Hid (gapK K size K.length = (size : Int) - (E : Int)) := by show _ = _; unfold gapK; rw [toK_end, HE.out]
      have u1 : IntKind.i64.wrap ((size : Int) - (E : Int)) = (size : Int) - (E : Int) := by rw [IntKind.wrap_i64]; omega
      clear HCC
      by_cases hg : G < (size : Int) - (E : Int)
      · have HM : Hid (R = (size : Int) - (E : Int)) := by show _ = _; rw [← HRR.out, HX.out, HT.out]; omega
        go_wp2
        go_ret
        exact ⟨by rw [HM.out]; rfl, HK.out⟩
      · have HM : Hid (R = G) := by show _ = _; rw [← HRR.out, HX.out, HT.out]; omega
        go_wp2
        go_ret
        exact ⟨by rw [HM.out]; rfl, HK.out⟩

/-- Where the last block ends. -/
theorem RTop_nil (h : Rt w B T size v []) :
    Calls Try.prog 48 #[.pointer (some ⟨T, 0, none⟩)] w fun e w' => e = .returned (.int .i64 0) ∧ w = w' := by
  obtain ⟨c1, c0⟩ := h.cells
  obtain ⟨ao, cap, rfl⟩ := h.row.form
  clear h
  go_enter Try.func48, Try.ntmps48
  go_wp2
  go_ret
  exact ⟨rfl, rfl⟩
set_option maxRecDepth 20000 in
set_option maxHeartbeats 2000000 in
theorem RTop_some (h : Rt w B T size v K) (hb : BdK K) (hK : 0 < K.length) :
    Calls Try.prog 48 #[.pointer (some ⟨T, 0, none⟩)] w fun e w' => e = .returned (.int .i64 (enK K K.length : Nat)) ∧ Kept No w w' := by
  have mixed : Try.prog.follows .mixedOrders = true := by kernel_rfl
  obtain ⟨c1, c0⟩ := h.cells
  obtain ⟨n, hn⟩ : ∃ n, K.length = n + 1 := ⟨K.length - 1, by omega⟩
  have hlt : n < K.length := by omega
  obtain ⟨g, cap, hv, d0, d1, d2⟩ := h.blk hlt
  have HE : Hid (enK K K.length = K[n].a + K[n].xs.length) := by show _ = _; rw [hn, enK_succ hlt]
  have hab := hb.2 _ (List.getElem_mem hlt)
  have hKl := hb.1
  rw [HE.out]
  rw [hv] at c0
  unfold dv at d2
  generalize K[n].a = a0 at d1 hab ⊢
  generalize K[n].xs.length = l0 at d2 hab ⊢
  generalize K[n].h = h0 at d0
  generalize K[n].d = dd at d2
  clear h hb HE hv
  generalize K.length = m at c0 hn hlt hKl hK ⊢
  have v1 : IntKind.i64.wrap ((m : Int) - 1) = (m : Int) - 1 := by rw [IntKind.wrap_i64]; omega
  have v2 : (0 : Int) ≤ (m : Int) - 1 := by omega
  have v3 : (m : Int) - 1 < (m : Int) := by omega
  have v4 : ((m : Int) - 1).toNat = n := by omega
  have v5 : (1 : Int) ≤ (m : Int) := by omega
  have v6 : m - 1 = n := by omega
  have n3 : ((m : Int) == 0) = false := by rw [beq_eq_false_iff_ne]; omega
  have u2 : IntKind.i64.wrap ((a0 : Int) + (l0 : Int)) = (a0 : Int) + (l0 : Int) := by rw [IntKind.wrap_i64]; omega
  clear hlt hn
  go_enter Try.func48, Try.ntmps48
  go_wp2_with fail
  go_region_held3 (fun w' => w'.cell? ⟨T, 1, none⟩ = some (.slice (some ⟨g, 0, none⟩) m cap) ∧ w'.cell? ⟨g, n * 3, none⟩ = some (.int .i64 (h0 : Int)) ∧ w'.cell? ⟨g, n * 3 + 1, none⟩ = some (.int .i64 (a0 : Int)) ∧ w'.cell? ⟨g, n * 3 + 2, none⟩ = some (.slice (some ⟨dd, 0, none⟩) l0 l0)) (go_keep) (fail)
  go_wp2
  go_ret
  exact ⟨by simp, (((Kept.refl _ _).drew).alloc _)⟩
end
end Go.Proofs.Ytdaklohfecinjaa

/- The document's Load, Store, Free. -/
namespace Go.Proofs.Ytdaklohfecinjaa
open Go.RowKit
set_option linter.unusedSimpArgs false
set_option linter.unusedVariables false

section
variable {w : World} {B T size : Nat} {v : Value} {K : List Bk}

set_option maxHeartbeats 1000000 in
theorem RLoad_none (h : Rt w B T size v K) (hb : BdK K) (x j : Int) (hx : fdI K x = -1) :
    Calls Try.prog 43 #[.pointer (some ⟨T, 0, none⟩), .int .i64 x, .int .i64 j] w fun e w' => e = .returned (.tuple #[.int .i64 0, .int .i64 5]) ∧ w = w' := by
  have H1 : Hid _ := RFind_any h (by have := hb.1; omega) x
  rw [hx] at H1
  go_enter Try.func43, Try.ntmps43
  go_wp2_with (go_at_call 51; refine Calls.mono H1.out ?_; rintro e w' ⟨rfl, rfl⟩)
  go_ret2
  exact ⟨rfl, rfl⟩
set_option maxHeartbeats 1000000 in
theorem RStore_none (h : Rt w B T size v K) (hb : BdK K) (x j y : Int) (hx : fdI K x = -1) :
    Calls Try.prog 42 #[.pointer (some ⟨T, 0, none⟩), .int .i64 x, .int .i64 j, .int .i64 y] w fun e w' => e = .returned (.int .i64 5) ∧ w = w' := by
  have H1 : Hid _ := RFind_any h (by have := hb.1; omega) x
  rw [hx] at H1
  go_enter Try.func42, Try.ntmps42
  go_wp2_with (go_at_call 51; refine Calls.mono H1.out ?_; rintro e w' ⟨rfl, rfl⟩)
  go_ret
  exact ⟨rfl, rfl⟩
set_option maxHeartbeats 1000000 in
theorem RLoad_arg (h : Rt w B T size v K) (hb : BdK K) (x j : Int) {k : Nat} (hk : k < K.length) (hx : fdI K x = k) (hj : j < 0 ∨ (K[k].xs.length : Int) ≤ j) :
    Calls Try.prog 43 #[.pointer (some ⟨T, 0, none⟩), .int .i64 x, .int .i64 j] w fun e w' => e = .returned (.tuple #[.int .i64 0, .int .i64 1]) ∧ w = w' := by
  have H1 : Hid _ := RFind_any h (by have := hb.1; omega) x
  rw [hx] at H1
  obtain ⟨c0, c1⟩ := h.cells
  obtain ⟨g, cap, rfl, d0, d1, d2⟩ := h.blk hk
  unfold dv at d2
  have hl := hb.1
  clear h hb hx
  generalize K[k].xs.length = z at d2 hj ⊢
  have k1 : (k : Int) < (K.length : Int) := by omega
  have k2 : ¬ (k : Int) < 0 := by omega
  by_cases j0 : j < 0
  · have j0' : decide (j < 0) = true := decide_eq_true j0
    go_enter Try.func43, Try.ntmps43
    go_wp2_with (go_at_call 51; refine Calls.mono H1.out ?_; rintro e w' ⟨rfl, rfl⟩)
    go_ret2
    exact ⟨rfl, rfl⟩
  · have j0' : decide (j < 0) = false := decide_eq_false j0
    have j1 : (z : Int) ≤ j := by omega
    go_enter Try.func43, Try.ntmps43
    go_wp2_with (go_at_call 51; refine Calls.mono H1.out ?_; rintro e w' ⟨rfl, rfl⟩)
    go_ret2
    exact ⟨rfl, rfl⟩
set_option maxHeartbeats 1000000 in
theorem RStore_arg (h : Rt w B T size v K) (hb : BdK K) (x j y : Int) {k : Nat} (hk : k < K.length) (hx : fdI K x = k) (hj : j < 0 ∨ (K[k].xs.length : Int) ≤ j) :
    Calls Try.prog 42 #[.pointer (some ⟨T, 0, none⟩), .int .i64 x, .int .i64 j, .int .i64 y] w fun e w' => e = .returned (.int .i64 1) ∧ w = w' := by
  have H1 : Hid _ := RFind_any h (by have := hb.1; omega) x
  rw [hx] at H1
  obtain ⟨c0, c1⟩ := h.cells
  obtain ⟨g, cap, rfl, d0, d1, d2⟩ := h.blk hk
  unfold dv at d2
  have hl := hb.1
  clear h hb hx
  generalize K[k].xs.length = z at d2 hj ⊢
  have k1 : (k : Int) < (K.length : Int) := by omega
  have k2 : ¬ (k : Int) < 0 := by omega
  by_cases j0 : j < 0
  · have j0' : decide (j < 0) = true := decide_eq_true j0
    go_enter Try.func42, Try.ntmps42
    go_wp2_with (go_at_call 51; refine Calls.mono H1.out ?_; rintro e w' ⟨rfl, rfl⟩)
    go_ret
    exact ⟨rfl, rfl⟩
  · have j0' : decide (j < 0) = false := decide_eq_false j0
    have j1 : (z : Int) ≤ j := by omega
    go_enter Try.func42, Try.ntmps42
    go_wp2_with (go_at_call 51; refine Calls.mono H1.out ?_; rintro e w' ⟨rfl, rfl⟩)
    go_ret
    exact ⟨rfl, rfl⟩
set_option maxHeartbeats 1000000 in
theorem RLoad_some (h : Rt w B T size v K) (hb : BdK K) (x : Int) (j : Nat) {k : Nat} (hk : k < K.length) (hx : fdI K x = k) (hj : j < K[k].xs.length) :
    Calls Try.prog 43 #[.pointer (some ⟨T, 0, none⟩), .int .i64 x, .int .i64 j] w fun e w' => e = .returned (.tuple #[.int .i64 (K[k].xs.getD j 0), .int .i64 0]) ∧ w = w' := by
  have H1 : Hid _ := RFind_any h (by have := hb.1; omega) x
  rw [hx] at H1
  obtain ⟨c0, c1⟩ := h.cells
  obtain ⟨g, cap, rfl, d0, d1, d2⟩ := h.blk hk
  have c2 := cl_cell (h.dat _ (List.getElem_mem hk)).1 hj
  unfold dv at d2
  have hl := hb.1
  have hab := hb.2 _ (List.getElem_mem hk)
  clear h hb hx
  generalize K[k].xs.getD j 0 = y at c2 ⊢
  generalize K[k].xs.length = z at d2 hj hab ⊢
  generalize K[k].d = dd at d2 c2
  have k1 : (k : Int) < (K.length : Int) := by omega
  have k2 : ¬ (k : Int) < 0 := by omega
  have j0' : decide ((j : Int) < 0) = false := decide_eq_false (by omega)
  have j1 : (j : Int) < (z : Int) := by omega
  go_enter Try.func43, Try.ntmps43
  go_wp2_with (go_at_call 51; refine Calls.mono H1.out ?_; rintro e w' ⟨rfl, rfl⟩)
  go_ret2
  exact ⟨rfl, rfl⟩

/-- One cell of a block is another. -/
def setX (K : List Bk) (k j : Nat) (y : Int) : List Bk := K.modify k fun b => ⟨b.h, b.a, b.d, b.xs.set j y⟩
theorem setX_flB (K : List Bk) (k j : Nat) (y : Int) : flB (setX K k j y) = flB K := by
  induction K generalizing k with
  | nil => cases k <;> rfl
  | cons b K ih =>
    cases k with
    | zero => simp [setX, flB]
    | succ k =>
      have := ih k
      simp only [setX, flB, List.modify_succ_cons, List.flatMap_cons] at this ⊢
      rw [this]
theorem setX_d (K : List Bk) (k j : Nat) (y : Int) : (setX K k j y).map Bk.d = K.map Bk.d := by
  induction K generalizing k with
  | nil => cases k <;> rfl
  | cons b K ih =>
    cases k with
    | zero => simp [setX]
    | succ k => have := ih k; simp only [setX, List.modify_succ_cons, List.map_cons] at this ⊢; rw [this]
theorem setX_len (K : List Bk) (k j : Nat) (y : Int) : (setX K k j y).length = K.length := by simp [setX]
theorem setX_get {K : List Bk} {k j : Nat} {y : Int} {i : Nat} (hi : i < K.length) : (setX K k j y)[i]'(by rw [setX_len]; exact hi) = if k = i then ⟨K[i].h, K[i].a, K[i].d, K[i].xs.set j y⟩ else K[i] := by
  simp [setX, List.getElem_modify]

theorem d_inj {K : List Bk} (hn : (K.map Bk.d).Nodup) {i k : Nat} (hi : i < K.length) (hk : k < K.length) (e : K[i].d = K[k].d) : i = k := by
  have := (List.nodup_iff_pairwise_ne.1 hn)
  rw [List.pairwise_iff_getElem] at this
  rcases Nat.lt_trichotomy i k with h | h | h
  · exact absurd (by rw [List.getElem_map, List.getElem_map]; exact e) (this i k (by simpa using hi) (by simpa using hk) h)
  · exact h
  · exact absurd (by rw [List.getElem_map, List.getElem_map]; exact e.symm) (this k i (by simpa using hk) (by simpa using hi) h)

set_option maxHeartbeats 1000000 in
theorem RStore_some (h : Rt w B T size v K) (hb : BdK K) (x y : Int) (j : Nat) {k : Nat} (hk : k < K.length) (hx : fdI K x = k) (hj : j < K[k].xs.length) :
    Calls Try.prog 42 #[.pointer (some ⟨T, 0, none⟩), .int .i64 x, .int .i64 j, .int .i64 y] w fun e w' => e = .returned (.int .i64 0) ∧ Rt w' B T size v (setX K k j y) ∧ Kept (RF T v K) w w' := by
  have H1 : Hid _ := RFind_any h (by have := hb.1; omega) x
  rw [hx] at H1
  have HR : Hid (Rt w B T size v K) := h
  obtain ⟨c0, c1⟩ := h.cells
  obtain ⟨g, cap, hv, d0, d1, d2⟩ := h.blk hk
  have c2 := cl_cell (h.dat _ (List.getElem_mem hk)).1 hj
  have c3 := cl_frozen (h.dat _ (List.getElem_mem hk)).1 j
  unfold dv at d2
  have hl := hb.1
  have hab := hb.2 _ (List.getElem_mem hk)
  have HJ : Hid (j < K[k].xs.length) := hj
  rw [hv] at c1
  clear h hb hx
  generalize K[k].xs.getD j 0 = y0 at c2
  obtain ⟨z, HZ⟩ : ∃ z, Hid (K[k].xs.length = z) := ⟨_, show _ = _ from rfl⟩
  rw [HZ.out] at d2 hj hab
  obtain ⟨dd, HD⟩ : ∃ z, Hid (K[k].d = z) := ⟨_, show _ = _ from rfl⟩
  rw [HD.out] at d2 c2 c3
  have k1 : (k : Int) < (K.length : Int) := by omega
  have k2 : ¬ (k : Int) < 0 := by omega
  have j0' : decide ((j : Int) < 0) = false := decide_eq_false (by omega)
  have j1 : (j : Int) < (z : Int) := by omega
  go_enter Try.func42, Try.ntmps42
  go_wp2_with (go_at_call 51; refine Calls.mono H1.out ?_; rintro e w' ⟨rfl, rfl⟩)
  go_ret
  have hR := HR.out
  have hk1 : Kept (Only dd) w (w.setCell ⟨dd, j, none⟩ (.int .i64 y)) := Kept.one w dd _ _
  have hnT : T ≠ dd := fun e => by
    have h1 := hR.hT
    have h2 := (hR.dat _ (List.getElem_mem hk)).1
    rw [HD.out, ← e, h1] at h2
    unfold cl at h2
    injection h2 with h2
    injection h2 with _ h3
    exact absurd h3 (by decide)
  have hnV : ∀ g, v.ownBlock = some g → g ≠ dd := fun g hg => by
    have h2 := (hR.dat _ (List.getElem_mem hk)).1
    rw [HD.out] at h2
    exact hR.row.ne hg h2 (by decide)
  refine ⟨rfl, ⟨hk1.heap hR.hT hnT, ?_, fun b hb => ?_, by rw [setX_d]; exact hR.nod, hR.bT⟩, hk1.mono (fun q e => ?_)⟩
  · have := hR.row.kept hk1 hnV
    unfold BRow at this ⊢
    rw [setX_flB, setX_len]; exact this
  · obtain ⟨i, hi, rfl⟩ := List.getElem_of_mem hb
    have hi' : i < K.length := by rw [setX_len] at hi; exact hi
    rw [setX_get hi']
    have hd := hR.dat _ (List.getElem_mem hi')
    by_cases e : k = i
    · subst e
      rw [if_pos rfl]
      refine ⟨?_, hd.2⟩
      dsimp only
      rw [HD.out]
      have := hp_setCells dd [y] j w K[k].xs (by rw [← HD.out]; exact hd.1) (by have := HJ.out; simp; omega)
      rw [putL_cons _ _ _ _ (by have := HJ.out; simp; omega), putL_nil] at this
      exact this
    · rw [if_neg e]
      refine ⟨hk1.heap hd.1 (fun e2 => e (d_inj hR.nod hk hi' (by rw [HD.out]; exact e2.symm))), hd.2⟩
  · refine .inr (.inr ?_)
    rw [show q = dd from e, ← HD.out]
    exact List.mem_map_of_mem (List.getElem_mem hk)

set_option maxHeartbeats 1000000 in
theorem RFree_none (h : Rt w B T size v K) (hb : BdK K) (x : Int) (hx : fdI K x = -1) :
    Calls Try.prog 40 #[.pointer (some ⟨T, 0, none⟩), .int .i64 x] w fun e w' => e = .returned (.int .i64 5) ∧ w = w' := by
  have H1 : Hid _ := RFind_any h (by have := hb.1; omega) x
  rw [hx] at H1
  go_enter Try.func40, Try.ntmps40
  go_wp2_with (go_at_call 51; refine Calls.mono H1.out ?_; rintro e w' ⟨rfl, rfl⟩)
  go_ret
  exact ⟨rfl, rfl⟩
end
/-- Other blocks in it. -/
theorem Rt.renew {w w1 : World} {B T size : Nat} {v v' : Value} {K K' : List Bk} (h : Rt w B T size v K) (hk : Kept No w w1) (hrow : BRow w1 w.heap.size v' K') (hB : B ≤ w.heap.size)
    (hd : ∀ b ∈ K', w1.heap[b.d]? = some (cl b.xs) ∧ B ≤ b.d) (hn : (K'.map Bk.d).Nodup) :
    Rt (w1.setCell ⟨T, 1, none⟩ v') B T size v' K' ∧ Kept (RF T v K) w (w1.setCell ⟨T, 1, none⟩ v') := by
  have hT := hk.heap h.hT id
  have hs : Kept (Only T) w1 (w1.setCell ⟨T, 1, none⟩ v') := Kept.one w1 T _ _
  refine ⟨⟨?_, (hrow.kept hs (fun g hg => hrow.ne hg hT (by decide))).base hB, fun b hb => ⟨hs.heap (hd b hb).1 (fun e => ?_), (hd b hb).2⟩, hn, h.bT⟩, (hk.no.trans (hs.mono (fun q e => .inl e)))⟩
  · rw [hp_set_same hT]; rfl
  · have h2 := (hd b hb).1
    rw [show b.d = T from e, hT] at h2
    unfold cl at h2
    injection h2 with h2
    injection h2 with _ h3
    exact absurd h3 (by decide)
theorem cut_d {K : List Bk} {i : Nat} (hn : (K.map Bk.d).Nodup) : ((K.take i ++ K.drop (i + 1)).map Bk.d).Nodup := by
  rw [← List.eraseIdx_eq_take_drop_succ]
  exact hn.sublist ((List.eraseIdx_sublist K i).map _)
theorem cut_mem {K : List Bk} {i : Nat} {b : Bk} (hb : b ∈ K.take i ++ K.drop (i + 1)) : b ∈ K := by
  rcases List.mem_append.1 hb with h | h
  · exact List.mem_of_mem_take h
  · exact List.mem_of_mem_drop h

set_option maxHeartbeats 1000000 in
theorem RFree_some {w : World} {B T size : Nat} {v : Value} {K : List Bk} (h : Rt w B T size v K) (hb : BdK K) (hB : B ≤ w.heap.size) (x : Int) {k : Nat} (hk : k < K.length) (hx : fdI K x = k) :
    Calls Try.prog 40 #[.pointer (some ⟨T, 0, none⟩), .int .i64 x] w fun e w' => e = .returned (.int .i64 0) ∧ (∃ v', Rt w' B T size v' (K.take k ++ K.drop (k + 1))) ∧ Kept (RF T v K) w w' := by
  have H1 : Hid _ := RFind_any h (by have := hb.1; omega) x
  rw [hx] at H1
  have HR : Hid (Rt w B T size v K) := h
  have HC : Hid _ := RCut_any h.row (by have := hb.1; omega) hk
  obtain ⟨c0, c1⟩ := h.cells
  obtain ⟨ao, cap, hv⟩ := h.row.form
  subst hv
  have k2 : ¬ (k : Int) < 0 := by omega
  clear h hx
  go_enter Try.func40, Try.ntmps40
  go_wp2_with (first
    | (go_at_call 51; refine Calls.mono H1.out ?_; rintro e w' ⟨rfl, rfl⟩)
    | (go_at_call 68
       refine Calls.mono HC.out ?_
       rintro e w1 ⟨v', rfl, hr1, hk1⟩
       have HR1 : Hid (BRow w1 w.heap.size v' (K.take k ++ K.drop (k + 1)) ∧ Kept No w w1) := ⟨hr1, hk1⟩
       have d1 := (HR.out.no hk1).cells.2
       have f1 := frozen_of (HR.out.no hk1).hT 1
       obtain ⟨so, sc, rfl⟩ := hr1.form
       generalize (K.take k ++ K.drop (k + 1)).length = NN at HR1 ⊢
       clear hr1 hk1))
  go_ret
  have := HR.out.renew HR1.out.2 HR1.out.1 hB (fun b hb => ⟨HR1.out.2.heap (HR.out.dat b (cut_mem hb)).1 id, (HR.out.dat b (cut_mem hb)).2⟩) (cut_d HR.out.nod)
  exact ⟨rfl, ⟨_, this.1⟩, this.2⟩
end Go.Proofs.Ytdaklohfecinjaa
