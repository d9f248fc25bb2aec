/- Joined: N0 N1 N2 N3 N4 N5. -/
import Derived.Test.YtnfamebihpnjlaaKC
import Derived.Maps.AppendAt
import Derived.BigQuiet
import Derived.Test.YtnfamebihpnjlaaY3
import Derived.Test.YtnfamebihpnjlaaZ2
/- The document's table: what it is in memory; New, Find, Text. -/
namespace Go.Proofs.Ytnfamebihpnjlaa
open Go.RowKit
set_option linter.unusedSimpArgs false
set_option linter.unusedVariables false

/-- Entries as the document's cells. -/
def flS (L : List Ent) : List Value := L.flatMap fun e => [.string e.s, .int .i64 e.h]
theorem flS_append (a b : List Ent) : flS (a ++ b) = flS a ++ flS b := by simp [flS]
theorem flS_get : ∀ (L : List Ent) (j : Nat) (hj : j < L.length), (flS L)[j * 2]? = some (.string L[j].s) ∧ (flS L)[j * 2 + 1]? = some (.int .i64 L[j].h)
  | [], _, h => by simp at h
  | p :: L, 0, h => by simp [flS]
  | p :: L, j + 1, h => by
    have ih := flS_get L j (by simpa using h)
    have e1 : flS (p :: L) = Value.string p.s :: Value.int .i64 p.h :: flS L := rfl
    rw [e1, show (j + 1) * 2 = j * 2 + 1 + 1 by omega]
    simpa using ih
theorem flS_one (L : List Ent) : ∀ u ∈ flS L, u.oneCell' = true := by
  intro u hu
  obtain ⟨e, _, h⟩ := List.mem_flatMap.1 hu
  rcases List.mem_cons.1 h with rfl | h
  · rfl
  · rw [List.mem_singleton.1 h]; rfl
/-- A row of the document's entries. -/
def SRow (w : World) (B : Nat) (v : Value) (L : List Ent) : Prop := w.ownsRow B 66 2 v L.length (flS L)
/-- The document's table in memory, made since block B. -/
structure Rt (w : World) (B T n : Nat) (v : Value) (L : List Ent) : Prop where
  hT : w.heap[T]? = some (.cells #[v, .int .i64 (n : Int)] 36 (0, 0))
  row : SRow w B v L
  bT : B ≤ T
/-- Its blocks. -/
def RF (T : Nat) (v : Value) (k : Nat) : Prop := k = T ∨ v.ownBlock = some k
theorem Rt.kept {S : Nat → Prop} {w w' : World} {B T n : Nat} {v : Value} {L : List Ent} (h : Rt w B T n v L) (hk : Kept S w w') (hS : ∀ k, RF T v k → ¬ S k) : Rt w' B T n v L :=
  ⟨hk.heap h.hT (hS T (Or.inl rfl)), row_kept h.row hk (fun g hg => hS g (Or.inr hg)), h.bT⟩
theorem Rt.no {w w' : World} {B T n : Nat} {v : Value} {L : List Ent} (h : Rt w B T n v L) (hk : Kept No w w') : Rt w' B T n v L := h.kept hk (fun _ _ e => e)
theorem Rt.cells {w : World} {B T n : Nat} {v : Value} {L : List Ent} (h : Rt w B T n v L) : w.cell? ⟨T, 0, none⟩ = some v ∧ w.cell? ⟨T, 1, none⟩ = some (.int .i64 (n : Int)) := by
  constructor
  · rw [cell_of h.hT]; rfl
  · rw [cell_of h.hT]; rfl
theorem Rt.lt {w : World} {B T n : Nat} {v : Value} {L : List Ent} (h : Rt w B T n v L) {k : Nat} (hk : RF T v k) : B ≤ k ∧ k < w.heap.size := by
  rcases hk with rfl | hk
  · exact ⟨h.bT, hp_lt h.hT⟩
  · exact h.row.lt k hk
theorem Rt.shape {w : World} {B T n : Nat} {v : Value} {L : List Ent} (h : Rt w B T n v L) : (v = nilS ∧ L = []) ∨ ∃ g cap, v = .slice (some ⟨g, 0, none⟩) L.length cap ∧ ∀ j (hj : j < L.length), w.cell? ⟨g, j * 2, none⟩ = some (.string L[j].s) ∧ w.cell? ⟨g, j * 2 + 1, none⟩ = some (.int .i64 L[j].h) := by
  rcases h.row.2 with ⟨h1, h2⟩ | ⟨g, cap, cur, rfl, _⟩
  · exact Or.inl ⟨h1, List.eq_nil_of_length_eq_zero h2⟩
  · refine Or.inr ⟨g, cap, rfl, fun j hj => ?_⟩
    obtain ⟨g0, g1⟩ := flS_get L j hj
    exact ⟨(World.ownsRow.cellAt h.row _ (by omega)).trans g0, (World.ownsRow.cellAt h.row _ (by omega)).trans g1⟩

theorem RNew_any (w : World) : Calls Try.prog 10 #[] w fun e w' => e = .returned (.pointer (some ⟨w.heap.size, 0, none⟩)) ∧ Rt w' w.heap.size w.heap.size 4 nilS [] ∧ Kept No w w' := by
  go_enter Try.func10, Try.ntmps10
  go_wp2
  go_ret
  exact ⟨rfl, ⟨World.alloc_heap_new w _, World.ownsRow_nil _ _ _ _, Nat.le_refl _⟩, (Kept.refl _ _).alloc _⟩

/-- The first k have another text. -/
def NoS (L : List Ent) (s : ByteArray) (k : Nat) : Prop := ∀ j (hj : j < L.length), j < k → L[j].s.data.toList ≠ s.data.toList
/-- The first k have another handle. -/
def NoH (L : List Ent) (x : Int) (k : Nat) : Prop := ∀ j (hj : j < L.length), j < k → L[j].h ≠ x
theorem find_at {L : List Ent} {p : Ent → Bool} {k : Nat} (hk : k < L.length) (h1 : ∀ j (hj : j < L.length), j < k → p L[j] = false) (h2 : p L[k] = true) : L.find? p = some L[k] := by
  induction L generalizing k with
  | nil => simp at hk
  | cons x L ih =>
    cases k with
    | zero => simp [List.find?_cons, show p x = true from h2]
    | succ k =>
      have hx : p x = false := h1 0 (by simp) (by omega)
      rw [List.find?_cons, hx]
      simp only [List.getElem_cons_succ]
      exact ih (by simpa using hk) (fun j hj hjk => h1 (j + 1) (by simpa using hj) (by omega)) h2
theorem find_out {L : List Ent} {p : Ent → Bool} (h1 : ∀ j (hj : j < L.length), p L[j] = false) : L.find? p = none := by
  rw [List.find?_eq_none]
  intro x hx
  obtain ⟨j, hj, rfl⟩ := List.getElem_of_mem hx
  simp [h1 j hj]
theorem findV_at {L : List Ent} {s : ByteArray} {k : Nat} (hk : k < L.length) (hn : NoS L s k) (h : L[k].s.data.toList = s.data.toList) : findV L s = .tuple #[.int .i64 L[k].h, .bool true] := by
  have : find L s = some L[k].h := by
    unfold find
    rw [find_at hk (fun j hj hjk => by simpa using hn j hj hjk) (by simpa using h)]; rfl
  exact findV_some this
theorem findV_out {L : List Ent} {s : ByteArray} (hn : NoS L s L.length) : findV L s = .tuple #[.int .i64 0, .bool false] := by
  have : find L s = none := by
    unfold find
    rw [find_out (fun j hj => by simpa using hn j hj hj)]; rfl
  exact findV_none this
theorem textV_at {L : List Ent} {x : Int} {k : Nat} (hk : k < L.length) (hn : NoH L x k) (h : L[k].h = x) : textV L x = .tuple #[.string L[k].s, .bool true] := by
  have : lookE L x = some (L[k].s, L[k].q) := by
    unfold lookE
    rw [find_at hk (fun j hj hjk => by simpa using hn j hj hjk) (by simpa using h)]; rfl
  unfold textV; rw [this]; rfl
theorem textV_out {L : List Ent} {x : Int} (hn : NoH L x L.length) : textV L x = .tuple #[.string i0.1, .bool false] := by
  have : lookE L x = none := by
    unfold lookE
    rw [find_out (fun j hj => by simpa using hn j hj hj)]; rfl
  unfold textV; rw [this]; rfl

set_option maxRecDepth 20000 in
set_option maxHeartbeats 1000000 in
theorem RFind_any {w : World} {B T n : Nat} {v : Value} {L : List Ent} (h : Rt w B T n v L) (hl : L.length ≤ 100000) (s : ByteArray) :
    Calls Try.prog 18 #[.pointer (some ⟨T, 0, none⟩), .string s] w fun e w' => e = .returned (findV L s) ∧ w = w' := by
  obtain ⟨c0, c1⟩ := h.cells
  rcases h.shape with ⟨rfl, rfl⟩ | ⟨g, cap, rfl, hc⟩
  · clear h
    have HF : Hid (findV [] s = .tuple #[.int .i64 0, .bool false]) := show _ = _ from rfl
    rw [HF.out]
    go_enter Try.func18, Try.ntmps18
    go_wp2_with fail
    go_loop [6] (fun i => i = .int .i64 0) (fun _ => 0)
    case atStart => rfl
    case round =>
      subst hrel
      go_wp2
      go_ret2
      exact ⟨rfl, rfl⟩
  · have HC : Hid (∀ j (hj : j < L.length), w.cell? ⟨g, j * 2, none⟩ = some (.string L[j].s) ∧ w.cell? ⟨g, j * 2 + 1, none⟩ = some (.int .i64 L[j].h)) := hc
    clear h hc
    go_enter Try.func18, Try.ntmps18
    go_wp2_with fail
    go_loop [6] (fun i => ∃ k : Nat, k ≤ L.length ∧ i = .int .i64 k ∧ Hid (NoS L s k)) (fun i => L.length - (ivO i).toNat)
    case atStart => exact ⟨0, Nat.zero_le _, rfl, fun j hj hlt => by omega⟩
    case round =>
      obtain ⟨k, hk, rfl, hN⟩ := hrel
      by_cases hlt : k < L.length
      · obtain ⟨d0, d1⟩ := HC.out k hlt
        by_cases hxs : L[k].s.data.toList = s.data.toList
        · have hxs' : (L[k].s.toList == s.toList) = true := by rw [ByteArray.toList_eq, ByteArray.toList_eq]; simpa using hxs
          have HF : Hid (findV L s = .tuple #[.int .i64 L[k].h, .bool true]) := findV_at hlt hN.out hxs
          clear hxs hN
          generalize L[k].s = z at d0 hxs'
          generalize L[k].h = z' at d1 HF
          go_wp2
          go_ret2
          exact ⟨by rw [HF.out]; rfl, rfl⟩
        · have hxs' : (L[k].s.toList == s.toList) = false := by rw [ByteArray.toList_eq, ByteArray.toList_eq]; simpa using hxs
          have HN2 : Hid (NoS L s (k + 1)) := fun j hj hlt2 => by
            rcases Nat.lt_succ_iff_lt_or_eq.1 hlt2 with h1 | h1
            · exact hN.out j hj h1
            · subst h1; exact hxs
          clear hxs hN
          generalize L[k].s = z at d0 hxs'
          generalize L[k].h = z' at d1
          go_wp2
          go_round
          case rel => exact ⟨k + 1, by omega, by go_num, HN2⟩
          case measure => simp [ivO] <;> omega
      · obtain rfl : k = L.length := by omega
        have HF : Hid (findV L s = .tuple #[.int .i64 0, .bool false]) := findV_out hN.out
        clear hN
        go_wp2
        go_ret2
        exact ⟨by rw [HF.out]; rfl, rfl⟩

set_option maxRecDepth 20000 in
set_option maxHeartbeats 1000000 in
theorem RText_any {w : World} {B T n : Nat} {v : Value} {L : List Ent} (h : Rt w B T n v L) (hl : L.length ≤ 100000) (x : Int) :
    Calls Try.prog 20 #[.pointer (some ⟨T, 0, none⟩), .int .i64 x] w fun e w' => e = .returned (textV L x) ∧ w = w' := by
  obtain ⟨c0, c1⟩ := h.cells
  rcases h.shape with ⟨rfl, rfl⟩ | ⟨g, cap, rfl, hc⟩
  · clear h
    have HF : Hid (textV [] x = .tuple #[.string i0.1, .bool false]) := show _ = _ from rfl
    rw [HF.out]
    go_enter Try.func20, Try.ntmps20
    go_wp2_with fail
    go_loop [6] (fun i => i = .int .i64 0) (fun _ => 0)
    case atStart => rfl
    case round =>
      subst hrel
      go_wp2
      go_ret2
      exact ⟨rfl, rfl⟩
  · have HC : Hid (∀ j (hj : j < L.length), w.cell? ⟨g, j * 2, none⟩ = some (.string L[j].s) ∧ w.cell? ⟨g, j * 2 + 1, none⟩ = some (.int .i64 L[j].h)) := hc
    clear h hc
    go_enter Try.func20, Try.ntmps20
    go_wp2_with fail
    go_loop [6] (fun i => ∃ k : Nat, k ≤ L.length ∧ i = .int .i64 k ∧ Hid (NoH L x k)) (fun i => L.length - (ivO i).toNat)
    case atStart => exact ⟨0, Nat.zero_le _, rfl, fun j hj hlt => by omega⟩
    case round =>
      obtain ⟨k, hk, rfl, hN⟩ := hrel
      by_cases hlt : k < L.length
      · obtain ⟨d0, d1⟩ := HC.out k hlt
        by_cases hxs : L[k].h = x
        · have HF : Hid (textV L x = .tuple #[.string L[k].s, .bool true]) := textV_at hlt hN.out hxs
          clear hN
          generalize L[k].s = z at d0 HF
          rw [hxs] at d1
          clear hxs
          go_wp2
          go_ret2
          exact ⟨by rw [HF.out]; rfl, rfl⟩
        · have HN2 : Hid (NoH L x (k + 1)) := fun j hj hlt2 => by
            rcases Nat.lt_succ_iff_lt_or_eq.1 hlt2 with h1 | h1
            · exact hN.out j hj h1
            · subst h1; exact hxs
          clear hN
          generalize L[k].s = z at d0
          generalize L[k].h = z' at d1 hxs
          have hxb : (z' == x) = false := by rw [beq_eq_false_iff_ne]; exact hxs
          go_wp2
          go_round
          case rel => exact ⟨k + 1, by omega, by go_num, HN2⟩
          case measure => simp [ivO] <;> omega
      · obtain rfl : k = L.length := by omega
        have HF : Hid (textV L x = .tuple #[.string i0.1, .bool false]) := textV_out hN.out
        clear hN
        go_wp2
        go_ret2
        exact ⟨by rw [HF.out]; rfl, rfl⟩
end Go.Proofs.Ytnfamebihpnjlaa

/- The document's Put. -/
namespace Go.Proofs.Ytnfamebihpnjlaa
open Go.RowKit
set_option linter.unusedSimpArgs false
set_option linter.unusedVariables false

theorem info66 : (Try.prog.info? 66).map (fun i => (i.zero, i.size, i.bytes)) = some (some (.agg #[.string ⟨#[]⟩, .int .i64 0]), 2, 24) := by kernel_rfl

/-- An entry is appended. -/
theorem app_str {ops : Array Oper} {rest : List Oper} {o : Oper} {a : Act} {Q : Exit → Act → World → Prop} {w : World} (hgd : o.guard = none) (s x : Operand)
    (ho : o.op = .call { callee := .builtin .append, args := #[s, x], argTypes := #[34, 34] }) (base : Nat) (v : Value) (L : List Ent) (hs : a.eval s = v) (hrow : SRow w base v L)
    (N : Nat) (e : Ent) (hx : a.eval x = .slice (some ⟨N, 0, none⟩) 1 1) (hN : w.heap[N]? = some (.cells #[.string e.s, .int .i64 e.h] 66 (0, 0))) (hlen : L.length + 1 ≤ 1000000) (hbase : base ≤ w.heap.size)
    (h : ∀ v' w', Hid (SRow w' base v' (L ++ [e])) → Hid (w.grownBy w' v.ownBlock) → Hid (v'.ownBlock = v.ownBlock ∨ v'.ownBlock = some w.heap.size) → wpList Try.prog ops Q rest (a.put o.dst v') w') : wpList Try.prog ops Q (o :: rest) a w := by
  obtain ⟨i0, hi, hz0, hz1, hz2⟩ := info_parts info66
  have hn : ∀ j u, (flS [e])[j]? = some u → w.cell? ((⟨N, 0, none⟩ : Addr).add j) = some u := by
    intro j u hu
    have hc := cell_of hN
    rcases j with _ | _ | j
    · simp [flS] at hu; subst hu; simpa [Addr.add] using hc 0
    · simp [flS] at hu; subst hu; simpa [Addr.add] using hc 1
    · simp [flS] at hu
  refine wpList_plain hgd fun K hK => ?_
  obtain ⟨v', w', hr, h2, h3, _, h5⟩ := run_append_own_at (P := Try.prog) w base 34 o.type 66 i0 _ 2 24 Try.underlying34 hi hz0 hz1 hz2 rfl (by decide) v L.length (flS L) hrow ⟨N, 0, none⟩ 1 1 (flS [e]) rfl hn (flS_one _) (by unfold maxLen; omega) (by omega) hbase
  unfold Oper.wp execOp
  simp only [ho, resolve, invoke, builtin, Sem.run_bind, Sem.run_pure, Result.andThen_ok, List.map_toArray, List.map_cons, List.map_nil, hs, hx, hr]
  refine hK _ _ (h v' w' ?_ h3 h5)
  show World.ownsRow _ _ _ _ _ _ _
  rw [List.length_append, flS_append]; exact h2

theorem SRow.form {w : World} {B : Nat} {v : Value} {L : List Ent} (h : SRow w B v L) : ∃ ao c, v = .slice ao L.length c := by
  rcases h.2 with ⟨rfl, h0⟩ | ⟨g, cap, cur, rfl, _⟩
  · exact ⟨_, _, by rw [h0]⟩
  · exact ⟨_, _, rfl⟩
theorem SRow.ne {w : World} {B : Nat} {v : Value} {L : List Ent} (h : SRow w B v L) {g k : Nat} (hg : v.ownBlock = some g) {c : Array Value} {e : TypeId} {f : Nat × Nat} (hk : w.heap[k]? = some (.cells c e f)) (he : e ≠ 66) : g ≠ k := by
  rcases h.2 with ⟨h1, _⟩ | ⟨g', cap, cur, h1, h2, h3, h4⟩
  · rw [h1] at hg; cases hg
  · rw [h1] at hg
    simp [Value.ownBlock] at hg
    subst hg
    intro e1
    subst e1
    rw [h3] at hk
    injection hk with hk
    injection hk with _ h6
    exact he h6.symm

theorem RPut_arg {w : World} (T : Nat) (s : ByteArray) (x : Int) (hx : x < 1) :
    Calls Try.prog 31 #[.pointer (some ⟨T, 0, none⟩), .string s, .int .i64 x] w fun e w' => e = .returned (.int .i64 1) ∧ w = w' := by
  go_enter Try.func31, Try.ntmps31
  go_wp2
  go_ret
  exact ⟨rfl, rfl⟩

set_option maxRecDepth 20000 in
set_option maxHeartbeats 1000000 in
theorem RPut_there {w : World} {B T n : Nat} {v : Value} {L : List Ent} (h : Rt w B T n v L) (hl : L.length ≤ 100000) (s : ByteArray) (x : Int) (hx : 1 ≤ x) (hh : hasB L s x = true) :
    Calls Try.prog 31 #[.pointer (some ⟨T, 0, none⟩), .string s, .int .i64 x] w fun e w' => e = .returned (.int .i64 17) ∧ w = w' := by
  have H1 : Hid _ := RFind_any h hl s
  have H2 : Hid _ := RText_any h hl x
  unfold hasB at hh
  have hx1 : ¬ x < 1 := by omega
  have e1 : findV L s = .tuple #[.int .i64 ((find L s).getD 0), .bool (find L s).isSome] := rfl
  have e2 : textV L x = .tuple #[.string ((lookE L x).getD i0).1, .bool (lookE L x).isSome] := rfl
  rw [e1] at H1
  rw [e2] at H2
  clear e1 e2
  generalize (find L s).getD 0 = z1 at H1
  generalize ((lookE L x).getD i0).1 = z2 at H2
  generalize (find L s).isSome = b1 at H1 hh
  generalize (lookE L x).isSome = b2 at H2 hh
  cases b1 with
  | true =>
    go_enter Try.func31, Try.ntmps31
    go_wp2_with (first | (go_at_call 18; refine Calls.mono H1.out ?_; rintro e w' ⟨rfl, rfl⟩) | (go_at_call 20; refine Calls.mono H2.out ?_; rintro e w' ⟨rfl, rfl⟩))
    go_ret
    exact ⟨rfl, rfl⟩
  | false =>
    cases b2 with
    | true =>
      go_enter Try.func31, Try.ntmps31
      go_wp2_with (first | (go_at_call 18; refine Calls.mono H1.out ?_; rintro e w' ⟨rfl, rfl⟩) | (go_at_call 20; refine Calls.mono H2.out ?_; rintro e w' ⟨rfl, rfl⟩))
      go_ret
      exact ⟨rfl, rfl⟩
    | false => cases hh

set_option maxRecDepth 20000 in
set_option maxHeartbeats 1000000 in
theorem RPut_new {w : World} {B T n : Nat} {v : Value} {L : List Ent} (h : Rt w B T n v L) (hl : L.length ≤ 50000) (hn : n ≤ 100000) (hB : B ≤ w.heap.size) (s : ByteArray) (x : Int) (hx : 1 ≤ x) (hh : hasB L s x = false) (q : Nat) :
    Calls Try.prog 31 #[.pointer (some ⟨T, 0, none⟩), .string s, .int .i64 x] w fun e w' => e = .returned (.int .i64 0) ∧ ∃ v', Rt w' B T (if n < L.length + 1 then 2 * n else n) v' (L ++ [⟨x, s, q⟩]) ∧ Kept (RF T v) w w' ∧ ∀ k, RF T v' k → RF T v k ∨ w.heap.size ≤ k := by
  have mixed : Try.prog.follows .mixedOrders = true := by kernel_rfl
  have hx1 : ¬ x < 1 := by omega
  have H1 : Hid (Calls Try.prog 18 #[.pointer (some ⟨T, 0, none⟩), .string s] w fun e w' => e = .returned (.tuple #[.int .i64 0, .bool false]) ∧ w = w') := by
    have := RFind_any h (by omega) s
    rw [findV_none (by unfold hasB at hh; simp at hh; exact hh.2)] at this
    exact this
  have H2 : Hid (Calls Try.prog 20 #[.pointer (some ⟨T, 0, none⟩), .int .i64 x] w fun e w' => e = .returned (.tuple #[.string i0.1, .bool false]) ∧ w = w') := by
    have := RText_any h (by omega) x
    have e : textV L x = .tuple #[.string i0.1, .bool false] := by unfold textV; rw [show lookE L x = none by unfold hasB at hh; simp at hh; exact hh.1]; rfl
    rw [e] at this
    exact this
  obtain ⟨c0, c1⟩ := h.cells
  have HR : Hid (Rt w B T n v L) := h
  clear h hh
  obtain ⟨n', HN⟩ : ∃ n', Hid ((if n < L.length + 1 then 2 * n else n) = n') := ⟨_, show _ = _ from rfl⟩
  rw [HN.out]
  obtain ⟨W0, HW0⟩ : ∃ W0, Hid (W0 = w.alloc (.cells #[.string s, .int .i64 x] 66)) := ⟨_, show _ = _ from rfl⟩
  go_enter Try.func31, Try.ntmps31
  go_wp2_with
    (first
    | (go_at_call 18; refine Calls.mono H1.out ?_; rintro e w' ⟨rfl, rfl⟩)
    | (go_at_call 20; refine Calls.mono H2.out ?_; rintro e w' ⟨rfl, rfl⟩)
    | (refine app_str rfl (.tmp 33) (.tmp 37) rfl B v L rfl (World.ownsRow.alloc HR.out.row _) w.heap.size ⟨x, s, q⟩ rfl (World.alloc_heap_new w _) (by omega) (by simp; omega) ?_
       intro v' w1 HR1 HG1 HV1
       have HK1 : Hid (Kept (fun k => v.ownBlock = some k) w w1) := ((Kept.refl _ _).alloc _).grown HG1.out (fun k hk => Or.inl hk)
       have hT1 : w1.heap[T]? = some (.cells #[v, .int .i64 (n : Int)] 36 (0, 0)) := HK1.out.heap HR.out.hT (fun e => (SRow.ne HR.out.row e HR.out.hT (by decide)) rfl)
       have d0 : w1.cell? ⟨T, 0, none⟩ = some v := (by rw [cell_of hT1]; rfl)
       have f0 := frozen_of hT1 0
       obtain ⟨so, sc, rfl⟩ := SRow.form HR1.out
       have hll : (L ++ [(⟨x, s, q⟩ : Ent)]).length = L.length + 1 := (by simp)
       rw [hll]
       have HT1 : Hid (w1.heap[T]? = some (.cells #[v, .int .i64 (n : Int)] 36 (0, 0))) := hT1
       clear hT1))
  have hT2 : (w1.setCell ⟨T, 0, none⟩ (.slice so (L.length + 1) sc)).heap[T]? = some (.cells #[.slice so (L.length + 1) sc, .int .i64 (n : Int)] 36 (0, 0)) := by
    rw [hp_set_same HT1.out]; rfl
  have HT2 : Hid ((w1.setCell ⟨T, 0, none⟩ (.slice so (L.length + 1) sc)).drew.heap[T]? = some (.cells #[.slice so (L.length + 1) sc, .int .i64 (n : Int)] 36 (0, 0))) := hT2
  have g0 : (w1.setCell ⟨T, 0, none⟩ (.slice so (L.length + 1) sc)).cell? ⟨T, 0, none⟩ = some (.slice so (L.length + 1) sc) := by rw [cell_of hT2]; rfl
  have g1 : (w1.setCell ⟨T, 0, none⟩ (.slice so (L.length + 1) sc)).cell? ⟨T, 1, none⟩ = some (.int .i64 (n : Int)) := by rw [cell_of hT2]; rfl
  clear hT2
  rw [hll] at HR1 HV1
  have HK2 : Hid (Kept (fun k => k = T) w1 (w1.setCell ⟨T, 0, none⟩ (.slice so (L.length + 1) sc)).drew) := ((Kept.refl (fun k => k = T) w1).set T 0 _ (Or.inl rfl)).drew
  have HR2 : Hid (SRow (w1.setCell ⟨T, 0, none⟩ (.slice so (L.length + 1) sc)).drew B (.slice so (L.length + 1) sc) (L ++ [⟨x, s, q⟩])) := row_kept HR1.out HK2.out (fun g hg e => SRow.ne HR1.out hg HT1.out (by decide) e)
  have HK3 : Hid (Kept (RF T v) w (w1.setCell ⟨T, 0, none⟩ (.slice so (L.length + 1) sc)).drew) := (HK1.out.mono (fun k hk => Or.inr hk)).trans (HK2.out.mono (fun k hk => Or.inl hk))
  have HF3 : Hid (∀ k, RF T (.slice so (L.length + 1) sc) k → RF T v k ∨ w.heap.size ≤ k) := by
    rintro k (e | e)
    · exact Or.inl (Or.inl e)
    · rcases HV1.out with e1 | e1
      · exact Or.inl (Or.inr (by rw [← e1]; exact e))
      · rw [e1] at e
        injection e with e
        rw [World.size_alloc] at e
        exact Or.inr (by omega)
  clear HR1 HG1 HV1 HK1 HK2 HT1 d0 f0 hll
  go_big_region_o
  generalize (w1.setCell ⟨T, 0, none⟩ (.slice so (L.length + 1) sc)).drew = W2 at HT2 HR2 HK3 ⊢
  clear g0 g1
  have g1 : W2.cell? ⟨T, 1, none⟩ = some (.int .i64 (n : Int)) := by rw [cell_of HT2.out]; rfl
  have f1 := frozen_of HT2.out 1
  by_cases hc : n < L.length + 1
  · have hcz : (n : Int) < (L.length : Int) + 1 := by omega
    have hn' : 2 * n = n' := by rw [← HN.out, if_pos hc]
    subst hn'
    go_wp2
    go_ret
    refine ⟨rfl, .slice so (L.length + 1) sc, ⟨?_, row_kept HR2.out ((Kept.refl (fun k => k = T) W2).set T 1 _ (Or.inl rfl)) (fun g hg e => SRow.ne HR2.out hg HT2.out (by decide) e), HR.out.bT⟩, HK3.out.trans (((Kept.refl (fun k => k = T) W2).set T 1 _ (Or.inl rfl)).mono (fun k e => Or.inl e)), HF3.out⟩
    rw [hp_set_same HT2.out]
    simp
  · have hcz : ¬ (n : Int) < (L.length : Int) + 1 := by omega
    have hn' : n = n' := by rw [← HN.out, if_neg hc]
    subst hn'
    go_wp2
    go_ret
    exact ⟨rfl, .slice so (L.length + 1) sc, ⟨HT2.out, HR2.out, HR.out.bT⟩, HK3.out, HF3.out⟩
end Go.Proofs.Ytnfamebihpnjlaa

/- The document's Drop. -/
namespace Go.Proofs.Ytnfamebihpnjlaa
open Go.RowKit
set_option linter.unusedSimpArgs false
set_option linter.unusedVariables false

theorem RDrop_none {w : World} {B T n : Nat} {v : Value} {L : List Ent} (h : Rt w B T n v L) (hl : L.length ≤ 100000) (x : Int) (hh : lookE L x = none) :
    Calls Try.prog 32 #[.pointer (some ⟨T, 0, none⟩), .int .i64 x] w fun e w' => e = .returned (.int .i64 5) ∧ w = w' := by
  have H2 : Hid (Calls Try.prog 20 #[.pointer (some ⟨T, 0, none⟩), .int .i64 x] w fun e w' => e = .returned (.tuple #[.string i0.1, .bool false]) ∧ w = w') := by
    have := RText_any h (by omega) x
    have e : textV L x = .tuple #[.string i0.1, .bool false] := by unfold textV; rw [hh]; rfl
    rw [e] at this
    exact this
  go_enter Try.func32, Try.ntmps32
  go_wp2_with (go_at_call 20; refine Calls.mono H2.out ?_; rintro e w' ⟨rfl, rfl⟩)
  go_ret
  exact ⟨rfl, rfl⟩

theorem SRow.base {w : World} {B B' : Nat} {v : Value} {L : List Ent} (h : SRow w B v L) (hB : B' ≤ B) : SRow w B' v L := by
  refine ⟨h.1, h.2.imp id ?_⟩
  rintro ⟨g, cap, cur, e1, e2, r⟩
  exact ⟨g, cap, cur, e1, by omega, r⟩
theorem rm_snoc (L : List Ent) (x : Int) (e : Ent) : rm (L ++ [e]) x = if e.h = x then rm L x else rm L x ++ [e] := by
  unfold rm
  rw [List.filter_append]
  by_cases h : e.h = x <;> simp [h]
theorem rm_len (L : List Ent) (x : Int) : (rm L x).length ≤ L.length := List.length_filter_le _ _

/-- While the others are gathered. -/
structure DI (w : World) (L : List Ent) (x : Int) (o : Value) (k : Nat) (wr : World) : Prop where
  kp : Kept No w wr
  row : SRow wr w.heap.size o (rm (L.take k) x)

set_option maxRecDepth 20000 in
set_option maxHeartbeats 4000000 in
theorem RDrop_some {w : World} {B T n : Nat} {v : Value} {L : List Ent} (h : Rt w B T n v L) (hl : L.length ≤ 50000) (hn : n ≤ 100000) (hB : B ≤ w.heap.size) (x : Int) (hh : (lookE L x).isSome = true) :
    Calls Try.prog 32 #[.pointer (some ⟨T, 0, none⟩), .int .i64 x] w fun e w' => e = .returned (.int .i64 0) ∧ ∃ v', Rt w' B T (if 4 < n ∧ 4 * (rm L x).length < n then n / 2 else n) v' (rm L x) ∧ Kept (RF T v) w w' ∧ ∀ k, RF T v' k → RF T v k ∨ w.heap.size ≤ k := by
  have mixed : Try.prog.follows .mixedOrders = true := by kernel_rfl
  obtain ⟨z, H2⟩ : ∃ z, Hid (Calls Try.prog 20 #[.pointer (some ⟨T, 0, none⟩), .int .i64 x] w fun e w' => e = .returned (.tuple #[.string z, .bool true]) ∧ w = w') := by
    have := RText_any h (by omega) x
    refine ⟨((lookE L x).getD i0).1, ?_⟩
    have e : textV L x = .tuple #[.string ((lookE L x).getD i0).1, .bool true] := by unfold textV; rw [hh]
    rw [e] at this
    exact this
  have HR : Hid (Rt w B T n v L) := h
  obtain ⟨n', HN⟩ : ∃ n', Hid ((if 4 < n ∧ 4 * (rm L x).length < n then n / 2 else n) = n') := ⟨_, show _ = _ from rfl⟩
  rw [HN.out]
  rcases h.shape with ⟨_, rfl⟩ | ⟨g, cap, rfl, hc⟩
  · exact absurd hh (by simp [lookE])
  have HT : Hid (∀ W, Kept No w W → W.cell? ⟨T, 0, none⟩ = some (.slice (some ⟨g, 0, none⟩) L.length cap)) := fun W hW => by
    have e := hW.heap HR.out.hT id
    rw [cell_of e]; rfl
  have HC : Hid (∀ W, Kept No w W → ∀ j (hj : j < L.length), W.cell? ⟨g, j * 2, none⟩ = some (.string L[j].s) ∧ W.cell? ⟨g, j * 2 + 1, none⟩ = some (.int .i64 L[j].h)) := fun W hW j hj => by
    have hr := (HR.out.no hW).shape
    rcases hr with ⟨e, _⟩ | ⟨g', cap', e, hc'⟩
    · cases e
    · injection e with e1 e2 e3
      injection e1 with e1
      injection e1 with e1
      subst e1
      exact hc' j hj
  clear h hc hh
  have hI0 : Hid (DI w L x (.slice none 0 0) 0 w) := ⟨Kept.refl _ _, World.ownsRow_nil _ _ _ _⟩
  go_enter Try.func32, Try.ntmps32
  go_wp2_with (go_at_call 20; refine Calls.mono H2.out ?_; rintro e w' ⟨rfl, rfl⟩)
  go_loopw [7, 8] (fun o i wr => ∃ k : Nat, k ≤ L.length ∧ i = .int .i64 k ∧ Hid (DI w L x o k wr)) (fun _ i _ => L.length - (ivO i).toNat)
  case atStart => exact ⟨0, Nat.zero_le _, rfl, hI0.out⟩
  case round =>
    clear hI0
    obtain ⟨k, hk, rfl, HI⟩ := hrel
    have c0 := HT.out wr HI.out.kp
    by_cases hlt : k < L.length
    · have k1 : (k : Int) < (L.length : Int) := by omega
      obtain ⟨d0, d1⟩ := HC.out wr HI.out.kp k hlt
      obtain ⟨e, HE⟩ : ∃ e, Hid (L[k] = e) := ⟨_, show _ = _ from rfl⟩
      rw [HE.out] at d0 d1
      have HS : Hid (L.take (k + 1) = L.take k ++ [e]) := by show _ = _; rw [List.take_add_one, List.getElem?_eq_getElem hlt, HE.out]; rfl
      have hml : (rm (L.take k) x).length + 1 ≤ 100000 := by have := rm_len (L.take k) x; rw [List.length_take] at this; omega
      clear HE
      by_cases hx : e.h = x
      · have HI2 : Hid (DI w L x u7 (k + 1) wr) := ⟨HI.out.kp, by rw [HS.out, rm_snoc, if_pos hx]; exact HI.out.row⟩
        rw [hx] at d1
        clear HI HS hml
        generalize e.s = zs at d0
        go_wp2
        go_round
        case rel => exact ⟨k + 1, by omega, by go_num, HI2.out⟩
        case measure => simp [ivO] <;> omega
      · have HX : Hid (rm (L.take (k + 1)) x = rm (L.take k) x ++ [e]) := by show _ = _; rw [HS.out, rm_snoc, if_neg hx]
        obtain ⟨eh, es, eq⟩ := e
        have hb : (eh == x) = false := by rw [beq_eq_false_iff_ne]; exact hx
        have hb2 : ¬ eh = x := hx
        have e0 : wr.cell? ⟨g, k * 2, none⟩ = some (.string es) := d0
        have e1 : wr.cell? ⟨g, k * 2 + 1, none⟩ = some (.int .i64 eh) := d1
        have hz := HI.out.kp.size
        clear d0 d1 hx HS
        go_wp2_with
          (refine app_str rfl (.tmp 36) (.tmp 44) rfl w.heap.size u7 (rm (L.take k) x) rfl (World.ownsRow.alloc HI.out.row _) wr.heap.size ⟨eh, es, eq⟩ rfl (World.alloc_heap_new wr _) (by omega) (by simp; omega) ?_
           intro v' w1 HR1 HG1 HV1
           have HI2 : Hid (DI w L x v' (k + 1) w1) := ⟨HI.out.kp.trans' ((((Kept.refl (fun k => u7.ownBlock = some k) wr).alloc _).grown HG1.out (fun k hk => Or.inl hk))) (fun i hi => Or.inr (World.ownsRow.lt HI.out.row i hi).1), (by rw [HX.out]; exact HR1.out)⟩
           clear HR1 HG1 HV1 HI HX e0 e1 c0)
        go_round
        case rel => exact ⟨k + 1, by omega, by go_num, HI2.out⟩
        case measure => simp [ivO] <;> omega
    · obtain rfl : k = L.length := by omega
      have HRr : Hid (SRow wr w.heap.size u7 (rm L x)) := by have := HI.out.row; rw [List.take_length] at this; exact this
      have HK : Hid (Kept No w wr) := HI.out.kp
      obtain ⟨so, sc, rfl⟩ := SRow.form HRr.out
      have hml := rm_len L x
      generalize hm : (rm L x).length = m at HRr HN hml ⊢
      have hT0 : wr.heap[T]? = some (.cells #[.slice (some ⟨g, 0, none⟩) L.length cap, .int .i64 (n : Int)] 36 (0, 0)) := HK.out.heap HR.out.hT id
      have f0 := frozen_of hT0 0
      have HT0 : Hid (wr.heap[T]? = some (.cells #[.slice (some ⟨g, 0, none⟩) L.length cap, .int .i64 (n : Int)] 36 (0, 0))) := hT0
      clear hT0 HI hk
      go_wp2_with fail
      have hT2 : (wr.setCell ⟨T, 0, none⟩ (.slice so m sc)).heap[T]? = some (.cells #[.slice so m sc, .int .i64 (n : Int)] 36 (0, 0)) := by
        rw [hp_set_same HT0.out]; rfl
      have g0 : (wr.setCell ⟨T, 0, none⟩ (.slice so m sc)).cell? ⟨T, 0, none⟩ = some (.slice so m sc) := by rw [cell_of hT2]; rfl
      have g1 : (wr.setCell ⟨T, 0, none⟩ (.slice so m sc)).cell? ⟨T, 1, none⟩ = some (.int .i64 (n : Int)) := by rw [cell_of hT2]; rfl
      have f1 := frozen_of hT2 1
      have HT2 : Hid (∀ q, ((wr.setCell ⟨T, 0, none⟩ (.slice so m sc)).drewN q).heap[T]? = some (.cells #[.slice so m sc, .int .i64 (n : Int)] 36 (0, 0))) := fun q => hT2
      have HK2 : Hid (∀ q, Kept (fun k => k = T) wr ((wr.setCell ⟨T, 0, none⟩ (.slice so m sc)).drewN q)) := fun q => ((Kept.refl (fun k => k = T) wr).set T 0 _ (Or.inl rfl)).drewN q
      have HR2 : Hid (∀ q, SRow ((wr.setCell ⟨T, 0, none⟩ (.slice so m sc)).drewN q) w.heap.size (.slice so m sc) (rm L x)) := fun q => row_kept HRr.out (HK2.out q) (fun g hg e => SRow.ne HRr.out hg HT0.out (by decide) e)
      have HF : Hid (∀ k, RF T (.slice so m sc) k → RF T (.slice (some ⟨g, 0, none⟩) L.length cap) k ∨ w.heap.size ≤ k) := by
        rintro k (e | e)
        · exact Or.inl (Or.inl e)
        · exact Or.inr (World.ownsRow.lt HRr.out k e).1
      clear hT2 f0 HRr
      generalize wr.setCell ⟨T, 0, none⟩ (.slice so m sc) = W at g0 g1 f1 HT2 HK2 HR2 ⊢
      have hd2 : Int.tdiv (n : Int) 2 = (n : Int) / 2 := Int.tdiv_eq_ediv_of_nonneg (by omega)
      have h9 : wrap64 ((n : Int) / 2) = (n : Int) / 2 := by unfold wrap64; omega
      have hd3 : ((n / 2 : Nat) : Int) = (n : Int) / 2 := by omega
      by_cases h4 : 4 < n
      · have h4z : (4 : Int) < (n : Int) := by omega
        have h4d : decide ((4 : Int) < (n : Int)) = true := decide_eq_true h4z
        by_cases hmn : 4 * m < n
        · have hmz : 4 * (m : Int) < (n : Int) := by omega
          have hmd : decide (4 * (m : Int) < (n : Int)) = true := decide_eq_true hmz
          have hn' : n / 2 = n' := by rw [← HN.out, if_pos ⟨h4, hmn⟩]
          subst hn'
          go_quiet (fail)
          go_wp2
          go_ret
          refine ⟨rfl, .slice so m sc, ⟨?_, SRow.base (L := rm L x) (row_kept (HR2.out nq) ((Kept.refl (fun k => k = T) _).set T 1 _ (Or.inl rfl)) (fun g hg e => SRow.ne (HR2.out nq) hg (HT2.out nq) (by decide) e)) hB, HR.out.bT⟩, (HK.out.no).trans (((HK2.out nq).trans ((Kept.refl (fun k => k = T) _).set T 1 _ (Or.inl rfl))).mono (fun k e => Or.inl e)), HF.out⟩
          rw [hp_set_same (HT2.out nq)]
          simp [hd3]
        · have hmz : ¬ 4 * (m : Int) < (n : Int) := by omega
          have hmd : decide (4 * (m : Int) < (n : Int)) = false := decide_eq_false hmz
          have hn' : n = n' := by rw [← HN.out, if_neg (fun h => hmn h.2)]
          subst hn'
          go_quiet (fail)
          go_wp2
          go_ret
          exact ⟨rfl, .slice so m sc, ⟨HT2.out nq, SRow.base (HR2.out nq) hB, HR.out.bT⟩, (HK.out.no).trans ((HK2.out nq).mono (fun k e => Or.inl e)), HF.out⟩
      · have h4z : ¬ (4 : Int) < (n : Int) := by omega
        have h4d : decide ((4 : Int) < (n : Int)) = false := decide_eq_false h4z
        have hn' : n = n' := by rw [← HN.out, if_neg (fun h => h4 h.1)]
        subst hn'
        go_quiet (fail)
        go_wp2
        go_ret
        exact ⟨rfl, .slice so m sc, ⟨HT2.out nq, SRow.base (HR2.out nq) hB, HR.out.bT⟩, (HK.out.no).trans ((HK2.out nq).mono (fun k e => Or.inl e)), HF.out⟩
end Go.Proofs.Ytnfamebihpnjlaa

/- The document's Chain. -/
namespace Go.Proofs.Ytnfamebihpnjlaa
open Go.RowKit
set_option linter.unusedSimpArgs false
set_option linter.unusedVariables false

/-- A row of ints a call has made. -/
def IRow (w : World) (B : Nat) (v : Value) (l : List Int) : Prop := w.ownsRow B 3 1 v l.length (ic l)
/-- An int is appended. -/
theorem app_int {ops : Array Oper} {rest : List Oper} {o : Oper} {a : Act} {Q : Exit → Act → World → Prop} {w : World} (hgd : o.guard = none) (s x : Operand)
    (ho : o.op = .call { callee := .builtin .append, args := #[s, x], argTypes := #[42, 42] }) (base : Nat) (v : Value) (l : List Int) (hs : a.eval s = v) (hrow : IRow w base v l)
    (N : Nat) (e : Int) (hx : a.eval x = .slice (some ⟨N, 0, none⟩) 1 1) (hN : w.heap[N]? = some (.cells #[.int .i64 e] 3 (0, 0))) (hlen : l.length + 1 ≤ 1000000) (hbase : base ≤ w.heap.size)
    (h : ∀ v' w', Hid (IRow w' base v' (l ++ [e])) → Hid (w.grownBy w' v.ownBlock) → wpList Try.prog ops Q rest (a.put o.dst v') w') : wpList Try.prog ops Q (o :: rest) a w := by
  obtain ⟨i0, hi, hz0, hz1, hz2⟩ := info_parts info3
  refine wpList_append_own _ hgd s x 42 ho base 3 i0 _ 1 8 Try.underlying42 hi hz0 hz1 hz2 rfl (by decide) v l.length (ic l) hs hrow ⟨N, 0, none⟩ 1 1 (ic [e]) hx rfl ?_ ?_
      (by unfold maxLen; omega) (by omega) hbase ?_
  · intro j u hu
    have hc := cell_of hN
    rcases j with _ | j
    · simp [ic] at hu; subst hu; simpa [Addr.add] using hc 0
    · simp [ic] at hu
  · intro u hu
    obtain ⟨m, _, rfl⟩ := List.mem_map.1 hu; rfl
  · intro v' w' h1 h2 h3
    refine h v' w' ?_ h2
    show World.ownsRow _ _ _ _ _ _ _
    rw [List.length_append, ic_append]; exact h1

/-- While a chain is gathered, from the back. -/
structure CI (w : World) (L : List Ent) (n b : Nat) (o : Value) (k : Nat) (wr : World) : Prop where
  kp : Kept No w wr
  row : IRow wr w.heap.size o (cL (L.drop k) n b).reverse
theorem cL_cons (e : Ent) (L : List Ent) (n b : Nat) : cL (e :: L) n b = if bk e.s n = b then e.h :: cL L n b else cL L n b := by
  unfold cL
  by_cases h : bk e.s n = b <;> simp [h]

theorem RChain_neg {w : World} {B T n : Nat} {v : Value} {L : List Ent} (h : Rt w B T n v L) (hl : L.length ≤ 100000) :
    Calls Try.prog 23 #[.pointer (some ⟨T, 0, none⟩), .int .i64 (-1)] w fun e w' => e = .returned (.slice none 0 0) ∧ w = w' := by
  obtain ⟨c0, c1⟩ := h.cells
  obtain ⟨so, sc, rfl⟩ := SRow.form h.row
  clear h
  generalize L.length = m at c0 hl
  go_enter Try.func23, Try.ntmps23
  go_wp2_with fail
  go_loop [5, 6] (fun o i => o = .slice none 0 0 ∧ i = .int .i64 ((m : Int) - 1)) (fun _ _ => 0)
  case atStart => exact ⟨rfl, by first | rfl | go_num⟩
  case round =>
    obtain ⟨rfl, rfl⟩ := hrel
    by_cases hm : (0 : Int) ≤ (m : Int) - 1
    · go_wp2
      go_ret
      exact ⟨rfl, rfl⟩
    · go_wp2
      go_ret
      exact ⟨rfl, rfl⟩

set_option maxRecDepth 20000 in
set_option maxHeartbeats 4000000 in
theorem RChain_any {w : World} {B T n : Nat} {v : Value} {L : List Ent} (h : Rt w B T n v L) (hl : L.length ≤ 50000) (hn : n ≤ 100000) (n1 : 1 ≤ n) (hsz : ∀ e ∈ L, e.s.size ≤ maxLen) {b : Nat} (hb : b ≤ 100000) :
    Calls Try.prog 23 #[.pointer (some ⟨T, 0, none⟩), .int .i64 b] w fun e w' => ∃ v', e = .returned v' ∧ IRow w' w.heap.size v' (cL L n b).reverse ∧ Kept No w w' := by
  have mixed : Try.prog.follows .mixedOrders = true := by kernel_rfl
  have HR : Hid (Rt w B T n v L) := h
  have HZ : Hid (∀ e ∈ L, e.s.size ≤ maxLen) := hsz
  obtain ⟨so, sc, hv⟩ := SRow.form h.row
  have HT : Hid (∀ W, Kept No w W → W.cell? ⟨T, 0, none⟩ = some (.slice so L.length sc) ∧ W.cell? ⟨T, 1, none⟩ = some (.int .i64 (n : Int))) := fun W hW => by
    have e := (HR.out.no hW).cells
    rw [hv] at e; exact e
  have HC : Hid (∀ j (hj : j < L.length), ∃ g, so = some ⟨g, 0, none⟩ ∧ ∀ W, Kept No w W → W.cell? ⟨g, j * 2, none⟩ = some (.string L[j].s) ∧ W.cell? ⟨g, j * 2 + 1, none⟩ = some (.int .i64 L[j].h)) := fun j hj => by
    rcases h.shape with ⟨_, rfl⟩ | ⟨g, cap, e, _⟩
    · simp at hj
    · refine ⟨g, ?_, fun W hW => ?_⟩
      · rw [hv] at e; injection e with e1 e2 e3
      · rcases (HR.out.no hW).shape with ⟨_, e4⟩ | ⟨g', cap', e4, hc'⟩
        · rw [e4] at hj; simp at hj
        · rw [e] at e4
          injection e4 with e1 e2 e3
          injection e1 with e1
          injection e1 with e1
          subst e1
          exact hc' j hj
  have hI0 : Hid (CI w L n b (.slice none 0 0) L.length w) := ⟨Kept.refl _ _, by rw [List.drop_length]; exact World.ownsRow_nil _ _ _ _⟩
  obtain ⟨c0, c1⟩ := HT.out w (Kept.refl _ _)
  clear h hsz hv
  go_enter Try.func23, Try.ntmps23
  go_wp2_with fail
  clear c0 c1
  go_loopw [5, 6] (fun o i wr => ∃ k : Nat, k ≤ L.length ∧ i = .int .i64 ((k : Int) - 1) ∧ Hid (CI w L n b o k wr)) (fun _ i _ => (ivO i + 1).toNat)
  case atStart => exact ⟨L.length, Nat.le_refl _, by first | rfl | go_num, hI0.out⟩
  case round =>
    clear hI0
    obtain ⟨k, hk, rfl, HI⟩ := hrel
    obtain ⟨c0, c1⟩ := HT.out wr HI.out.kp
    have hbz : (0 : Int) ≤ (b : Int) := by omega
    by_cases hk0 : 1 ≤ k
    · obtain ⟨j, rfl⟩ : ∃ j, k = j + 1 := ⟨k - 1, by omega⟩
      have e2 : ((j + 1 : Nat) : Int) - 1 = (j : Int) := by omega
      rw [e2]
      have hj : j < L.length := by omega
      have j1 : (j : Int) < (L.length : Int) := by omega
      have j0 : (0 : Int) ≤ (j : Int) := by omega
      obtain ⟨g, hso, hcc⟩ := HC.out j hj
      subst hso
      obtain ⟨d0, d1⟩ := hcc wr HI.out.kp
      have HD : Hid (L.drop j = L[j] :: L.drop (j + 1)) := List.drop_eq_getElem_cons hj
      have HSz : Hid (L[j].s.size ≤ maxLen) := HZ.out _ (List.getElem_mem _)
      obtain ⟨e, HE⟩ : ∃ e, Hid (L[j] = e) := ⟨_, show _ = _ from rfl⟩
      rw [HE.out] at d0 d1 HD HSz
      clear HE hcc
      obtain ⟨eh, es, eq⟩ := e
      have e0 : wr.cell? ⟨g, j * 2, none⟩ = some (.string es) := d0
      have e1 : wr.cell? ⟨g, j * 2 + 1, none⟩ = some (.int .i64 eh) := d1
      clear d0 d1 e2
      obtain ⟨x, hx⟩ : ∃ x, Hid (x = hashL es.data.toList) := ⟨_, show _ = _ from rfl⟩
      obtain ⟨b1, b2⟩ : 0 ≤ x ∧ x < 4294967296 := by rw [hx.out]; exact hash_bd _
      obtain ⟨m, HM⟩ : ∃ m, Hid (bk es n = m) := ⟨_, show _ = _ from rfl⟩
      have hmn : m < n := by rw [← HM.out]; exact bk_lt es (by omega)
      have hmod : Int.tmod x (n : Int) = (m : Int) := by
        rw [Int.tmod_eq_emod_of_nonneg b1, ← HM.out]
        unfold bk
        rw [← hx.out, Int.natCast_emod, Int.toNat_of_nonneg b1]
      have hmod2 : x % (n : Int) = (m : Int) := by rw [← hmod, Int.tmod_eq_emod_of_nonneg b1]
      have hnz : (n : Int) ≠ 0 := by omega
      have HH : Hid (∀ w, Calls Try.prog 37 #[.string es] w fun e w' => e = .returned (.int .u32 x) ∧ w = w') := fun w => by rw [hx.out]; exact RHash_any es w HSz.out
      have hml : (cL (L.drop (j + 1)) n b).reverse.length + 1 ≤ 100000 := by
        have := cL_len (L.drop (j + 1)) n b
        rw [List.length_reverse]; rw [List.length_drop] at this; omega
      have hz := HI.out.kp.size
      by_cases hmb : m = b
      · have HX : Hid ((cL (L.drop j) n b).reverse = (cL (L.drop (j + 1)) n b).reverse ++ [eh]) := by show _ = _; rw [HD.out, cL_cons, if_pos (HM.out.trans hmb), List.reverse_cons]
        have hmz : (m : Int) = (b : Int) := by omega
        have hmd : ((m : Int) == (b : Int)) = true := by simp [hmz]
        go_wp2_with fail
        go_quiet (first | (go_at_call 37; exact quiet_same (HH.out _)))
        have HI1 : Hid (Kept No w (wr.drewN nq) ∧ IRow (wr.drewN nq) w.heap.size u5 (cL (L.drop (j + 1)) n b).reverse) := ⟨HI.out.kp.drewN nq, row_kept HI.out.row ((Kept.refl No wr).drewN nq) (fun _ _ e => e)⟩
        have c0' : (wr.drewN nq).cell? ⟨T, 0, none⟩ = some (.slice (some ⟨g, 0, none⟩) L.length sc) := c0
        have e1' : (wr.drewN nq).cell? ⟨g, j * 2 + 1, none⟩ = some (.int .i64 eh) := e1
        have hz' : w.heap.size ≤ (wr.drewN nq).heap.size := hz
        clear HI e0 e1 c0 c1 hz
        generalize wr.drewN nq = W at HI1 c0' e1' hz' ⊢
        go_wp2_with
          (refine app_int rfl (.tmp 38) (.tmp 47) rfl w.heap.size u5 (cL (L.drop (j + 1)) n b).reverse rfl (World.ownsRow.alloc HI1.out.2 _) W.heap.size eh rfl (World.alloc_heap_new W _) (by omega) (by simp; omega) ?_
           intro v' w1 HR1 HG1
           have HI2 : Hid (CI w L n b v' j w1) := ⟨HI1.out.1.trans' ((((Kept.refl (fun k => u5.ownBlock = some k) W).alloc _).grown HG1.out (fun k hk => Or.inl hk))) (fun i hi => Or.inr (World.ownsRow.lt HI1.out.2 i hi).1), (by rw [HX.out]; exact HR1.out)⟩
           clear HR1 HG1 HI1 HX c0' e1')
        go_round
        case rel => exact ⟨j, by omega, by go_num, HI2.out⟩
        case measure => simp [ivO] <;> omega
      · have HX : Hid ((cL (L.drop j) n b).reverse = (cL (L.drop (j + 1)) n b).reverse) := by show _ = _; rw [HD.out, cL_cons, if_neg (fun e => hmb (HM.out.symm.trans e))]
        have hmz : ¬ (m : Int) = (b : Int) := by omega
        have hmd : ((m : Int) == (b : Int)) = false := by rw [beq_eq_false_iff_ne]; exact hmz
        go_wp2_with fail
        go_quiet (first | (go_at_call 37; exact quiet_same (HH.out _)))
        have HI2 : Hid (CI w L n b u5 j (wr.drewN nq)) := ⟨HI.out.kp.drewN nq, by rw [HX.out]; exact row_kept HI.out.row ((Kept.refl No wr).drewN nq) (fun _ _ e => e)⟩
        clear HI HX e0 e1 c0 c1
        generalize wr.drewN nq = W at HI2 ⊢
        go_wp2
        go_round
        case rel => exact ⟨j, by omega, by go_num, HI2.out⟩
        case measure => simp [ivO] <;> omega
    · obtain rfl : k = 0 := by omega
      have hkz : ¬ (0 : Int) ≤ ((0 : Nat) : Int) - 1 := by omega
      have HF : Hid (IRow wr w.heap.size u5 (cL L n b).reverse ∧ Kept No w wr) := ⟨HI.out.row, HI.out.kp⟩
      clear HI
      go_wp2
      go_ret
      exact ⟨_, rfl, HF.out.1, HF.out.2⟩
end Go.Proofs.Ytnfamebihpnjlaa

/- Both tables side by side: a call. -/
namespace Go.Proofs.Ytnfamebihpnjlaa
open Go.RowKit
set_option linter.unusedSimpArgs false
set_option linter.unusedVariables false

/-- What Put answers and makes. -/
def putO (n p : Nat) (L : List Ent) (s : ByteArray) (x : Int) : Int × Nat × Nat × List Ent :=
  if x < 1 then (1, n, p, L) else if hasB L s x = true then (17, n, p, L) else (0, (if n < L.length + 1 then 2 * n else n), p + 1, L ++ [⟨x, s, p + 1⟩])
/-- What Drop answers and makes. -/
def dropO (n p : Nat) (L : List Ent) (x : Int) : Int × Nat × Nat × List Ent :=
  if (lookE L x).isSome = true then (0, (if 4 < n ∧ 4 * (rm L x).length < n then n / 2 else n), p, rm L x) else (5, n, p, L)
/-- What a call answers and makes. -/
def actO (n p : Nat) (L : List Ent) (a : Ac) : Int × Nat × Nat × List Ent :=
  if a.kind = 1 then putO n p L a.s a.h else if a.kind = 2 then dropO n p L a.h else (0, n, p, L)

/-- The program's table and the document's, both made since w0. -/
def DS (w0 w : World) (A T n p : Nat) (L : List Ent) (m : Nat) (K : List Ent) : Prop :=
  ∃ C M vs v, Rep w w0.heap.size A C M n p p vs L ∧ Rt w w0.heap.size T m v K ∧ Kept No w0 w
theorem apart {w : World} {B B' A C M n p nn T m : Nat} {vs : List Value} {v : Value} {L K : List Ent} (h : Rep w B A C M n p nn vs L) (h2 : Rt w B' T m v K) {k : Nat} (h3 : FP A C M vs k) (h4 : RF T v k) : False := by
  obtain ⟨c, t, hk, ht⟩ : ∃ c t, w.heap[k]? = some (.cells c t (0, 0)) ∧ (t = 36 ∨ t = 66) := by
    rcases h4 with rfl | h4
    · exact ⟨_, _, h2.hT, Or.inl rfl⟩
    · rcases h2.row.2 with ⟨e, _⟩ | ⟨g, cap, cur, e, _, e2, _⟩
      · rw [e] at h4; cases h4
      · rw [e] at h4
        simp [Value.ownBlock] at h4
        subst h4
        exact ⟨_, _, e2, Or.inr rfl⟩
  rcases h3 with rfl | rfl | rfl | ⟨u, hu, h3⟩
  · have := h.hA
    rw [hk] at this
    unfold tb at this
    injection this with this
    injection this with _ this
    rcases ht with rfl | rfl <;> exact absurd this (by decide)
  · have := h.hC
    rw [hk] at this
    unfold chO at this
    injection this with this
    injection this with _ this
    rcases ht with rfl | rfl <;> exact absurd this (by decide)
  · exact h.map.not_cells hk rfl
  · obtain ⟨b, hb, rfl⟩ := List.getElem_of_mem hu
    exact row3_ne (h.row b hb) h3 hk (by rcases ht with rfl | rfl <;> decide) rfl
section
variable {w0 w w' : World} {A T n p m : Nat} {L K : List Ent}
theorem DS.no (h : DS w0 w A T n p L m K) (hk : Kept No w w') : DS w0 w' A T n p L m K := by
  obtain ⟨C, M, vs, v, h1, h2, h3⟩ := h
  exact ⟨C, M, vs, v, h1.no hk, h2.no hk, h3.trans hk⟩
theorem DS.since (h : DS w0 w A T n p L m K) : Kept No w0 w := by
  obtain ⟨C, M, vs, v, h1, h2, h3⟩ := h
  exact h3

/-- What is so of a table that calls have made. -/
structure WfT (n p : Nat) (L : List Ent) : Prop where
  inv : Inv4 n p L.length
  ord : Ord L
theorem WfT.start : WfT 4 0 [] := ⟨Inv4.start, List.Pairwise.nil⟩

theorem DS.put (h : DS w0 w A T n p L m K) (hw : WfT n p L) (hp : p ≤ 10000) (s : ByteArray) (hs : s.size ≤ maxLen) (x : Int) (hx : wf x) :
    Calls Try.prog 27 #[.pointer (some ⟨A, 0, none⟩), .string s, .int .i64 x] w fun e w' => e = .returned (.int .i64 (putO n p L s x).1) ∧ DS w0 w' A T (putO n p L s x).2.1 (putO n p L s x).2.2.1 (putO n p L s x).2.2.2 m K ∧ WfT (putO n p L s x).2.1 (putO n p L s x).2.2.1 (putO n p L s x).2.2.2 := by
  obtain ⟨C, M, vs, v, h1, h2, h3⟩ := h
  have hx2 : x ≤ 9223372036854775807 := by
    have : IntKind.i64.max = 9223372036854775807 := by decide
    unfold wf at hx; simp [Lit.wf] at hx; omega
  have hle : L.length ≤ p := h1.map.le
  have hS : ∀ k, RF T v k → ¬ FP A C M vs k := fun k a b => apart h1 h2 b a
  unfold putO
  by_cases hx1 : x < 1
  · simp only [hx1, if_true]
    refine (Put_arg h1 s x hx1).mono ?_
    rintro e w' ⟨rfl, rfl⟩
    exact ⟨rfl, ⟨C, M, vs, v, h1, h2, h3⟩, hw⟩
  · simp only [hx1, if_false]
    by_cases hh : hasB L s x = true
    · simp only [hh, if_true]
      refine (Put_there h1 s hs x (by omega) hx2 hh).mono ?_
      rintro e w' ⟨rfl, hk⟩
      exact ⟨rfl, ⟨C, M, vs, v, h1.no hk, h2.no hk, h3.trans hk⟩, hw⟩
    · have hf : hasB L s x = false := by simpa using hh
      have ho : Ord (L ++ [⟨x, s, p + 1⟩]) := ord_snoc hw.ord (fun y hy => by have := h1.good.le y hy; show y.q < p + 1; omega)
      simp only [hf, Bool.false_eq_true, if_false]
      by_cases hr : n < L.length + 1
      · simp only [hr, if_true]
        have hbd := hw.inv.bd
        refine (Put_more_ord h1 s hs x (by omega) hx2 hf (by omega) hr (by omega) (by omega) hw.ord).mono ?_
        rintro e w' ⟨rfl, C', vs', h4, h5, _⟩
        exact ⟨rfl, ⟨C', M, vs', v, h4, h2.kept h5 hS, kept_fp h1 h3 h5⟩, ⟨by simpa using hw.inv.twice (by omega) hle, ho⟩⟩
      · simp only [hr, if_false]
        refine (Put_front h1 s hs x (by omega) hx2 hf (by omega) (by omega)).mono ?_
        rintro e w' ⟨rfl, vs', h4, h5, _⟩
        exact ⟨rfl, ⟨C, M, vs', v, h4, h2.kept h5 hS, kept_fp h1 h3 h5⟩, ⟨by simpa using hw.inv.more (by omega), ho⟩⟩

theorem DS.drop (h : DS w0 w A T n p L m K) (hw : WfT n p L) (hp : p ≤ 10000) (x : Int) (hx : wf x) :
    Calls Try.prog 29 #[.pointer (some ⟨A, 0, none⟩), .int .i64 x] w fun e w' => e = .returned (.int .i64 (dropO n p L x).1) ∧ DS w0 w' A T (dropO n p L x).2.1 (dropO n p L x).2.2.1 (dropO n p L x).2.2.2 m K ∧ WfT (dropO n p L x).2.1 (dropO n p L x).2.2.1 (dropO n p L x).2.2.2 := by
  obtain ⟨C, M, vs, v, h1, h2, h3⟩ := h
  have hle : L.length ≤ p := h1.map.le
  have hS : ∀ k, RF T v k → ¬ FP A C M vs k := fun k a b => apart h1 h2 b a
  unfold dropO
  by_cases hh : (lookE L x).isSome = true
  · simp only [hh, if_true]
    obtain ⟨e, he, rfl⟩ := lookE_isSome.1 hh
    have hlen := rm_length h1.good.hnd he
    have hm : n % 4 = 0 := by obtain ⟨k, hk⟩ := hw.inv.pw; rw [hk, Nat.pow_add]; omega
    by_cases hr : 4 < n ∧ 4 * (rm L e.h).length < n
    · simp only [hr, and_self, if_true]
      rw [hlen] at hr
      obtain ⟨h8, hI2⟩ := hw.inv.half (by omega) (by omega)
      refine (Drop_fewer_ord h1 he h8 (by omega) (by omega) hw.ord).mono ?_
      rintro r w' ⟨rfl, C', vs', h4, h5, _⟩
      exact ⟨rfl, ⟨C', M, vs', v, h4, h2.kept h5 hS, kept_fp h1 h3 h5⟩, ⟨by rw [hlen]; exact hI2, ord_rm hw.ord _⟩⟩
    · rw [if_neg hr]
      rw [hlen] at hr
      have hr2 : n ≤ 4 ∨ n ≤ 4 * (L.length - 1) + 3 := by omega
      refine (Drop_front h1 he hr2).mono ?_
      rintro r w' ⟨rfl, vs', h4, h5, _⟩
      exact ⟨rfl, ⟨C, M, vs', v, h4, h2.kept h5 hS, kept_fp h1 h3 h5⟩, ⟨by rw [hlen]; exact hw.inv.less hr2, ord_rm hw.ord _⟩⟩
  · have hn : lookE L x = none := by cases h : lookE L x with
      | none => rfl
      | some y => rw [h] at hh; exact absurd rfl hh
    rw [if_neg hh]
    refine (Drop_none h1 x hx hn).mono ?_
    rintro e w' ⟨rfl, hk⟩
    exact ⟨rfl, ⟨C, M, vs, v, h1.no hk, h2.no hk, h3.trans hk⟩, hw⟩

theorem DS.rput (h : DS w0 w A T n p L m K) (hK : K.length ≤ 50000) (hm : m ≤ 100000) (s : ByteArray) (x : Int) (q : Nat) :
    Calls Try.prog 31 #[.pointer (some ⟨T, 0, none⟩), .string s, .int .i64 x] w fun e w' => e = .returned (.int .i64 (putO m q K s x).1) ∧ DS w0 w' A T n p L (putO m q K s x).2.1 (putO m q K s x).2.2.2 := by
  obtain ⟨C, M, vs, v, h1, h2, h3⟩ := h
  have hS : ∀ k, FP A C M vs k → ¬ RF T v k := fun k a b => apart h1 h2 a b
  unfold putO
  by_cases hx1 : x < 1
  · simp only [hx1, if_true]
    refine (RPut_arg T s x hx1).mono ?_
    rintro e w' ⟨rfl, rfl⟩
    exact ⟨rfl, C, M, vs, v, h1, h2, h3⟩
  · simp only [hx1, if_false]
    by_cases hh : hasB K s x = true
    · simp only [hh, if_true]
      refine (RPut_there h2 (by omega) s x (by omega) hh).mono ?_
      rintro e w' ⟨rfl, rfl⟩
      exact ⟨rfl, C, M, vs, v, h1, h2, h3⟩
    · have hf : hasB K s x = false := by simpa using hh
      simp only [hf, Bool.false_eq_true, if_false]
      refine (RPut_new h2 hK hm h3.size s x (by omega) hf (q + 1)).mono ?_
      rintro e w' ⟨rfl, v', h4, h5, _⟩
      exact ⟨rfl, C, M, vs, v', h1.kept h5 hS, h4, h3.trans' h5 (fun i hi => Or.inr (h2.lt hi).1)⟩
theorem DS.rdrop (h : DS w0 w A T n p L m K) (hK : K.length ≤ 50000) (hm : m ≤ 100000) (x : Int) (q : Nat) :
    Calls Try.prog 32 #[.pointer (some ⟨T, 0, none⟩), .int .i64 x] w fun e w' => e = .returned (.int .i64 (dropO m q K x).1) ∧ DS w0 w' A T n p L (dropO m q K x).2.1 (dropO m q K x).2.2.2 := by
  obtain ⟨C, M, vs, v, h1, h2, h3⟩ := h
  have hS : ∀ k, FP A C M vs k → ¬ RF T v k := fun k a b => apart h1 h2 a b
  unfold dropO
  by_cases hh : (lookE K x).isSome = true
  · simp only [hh, if_true]
    refine (RDrop_some h2 hK hm h3.size x hh).mono ?_
    rintro e w' ⟨rfl, v', h4, h5, _⟩
    exact ⟨rfl, C, M, vs, v', h1.kept h5 hS, h4, h3.trans' h5 (fun i hi => Or.inr (h2.lt hi).1)⟩
  · have hn : lookE K x = none := by cases h : lookE K x with
      | none => rfl
      | some y => rw [h] at hh; exact absurd rfl hh
    rw [if_neg hh]
    refine (RDrop_none h2 (by omega) x hn).mono ?_
    rintro e w' ⟨rfl, rfl⟩
    exact ⟨rfl, C, M, vs, v, h1, h2, h3⟩

set_option maxRecDepth 20000 in
set_option maxHeartbeats 1000000 in
theorem DS.do (h : DS w0 w A T n p L m K) (hw : WfT n p L) (hp : p ≤ 10000) (a : Ac) (ha : wf a.h) (hs : a.s.size ≤ maxLen) :
    Calls Try.prog 13 #[.pointer (some ⟨A, 0, none⟩), acV a] w fun e w' => e = .returned (.int .i64 (actO n p L a).1) ∧ DS w0 w' A T (actO n p L a).2.1 (actO n p L a).2.2.1 (actO n p L a).2.2.2 m K ∧ WfT (actO n p L a).2.1 (actO n p L a).2.2.1 (actO n p L a).2.2.2 := by
  obtain ⟨kind, s, x⟩ := a
  have H : Hid (DS w0 w A T n p L m K) := h
  have HWf : Hid (WfT n p L) := hw
  have HB : Hid (wf x ∧ s.size ≤ maxLen) := ⟨ha, hs⟩
  clear h ha hs hw
  obtain ⟨W, HW⟩ : ∃ W, Hid (W = w.alloc (.cells #[.int .i64 kind, .string s, .int .i64 x] 31)) := ⟨_, show _ = _ from rfl⟩
  have HT : Hid (DS w0 W A T n p L m K) := by show DS _ _ _ _ _ _ _ _ _; rw [HW.out]; exact H.out.no ((Kept.refl _ _).alloc _)
  have c0 : W.cell? ⟨w.heap.size, 0, none⟩ = some (.int .i64 kind) := by rw [HW.out]; simp
  have c1 : W.cell? ⟨w.heap.size, 1, none⟩ = some (.string s) := by rw [HW.out]; simp
  have c2 : W.cell? ⟨w.heap.size, 2, none⟩ = some (.int .i64 x) := by rw [HW.out]; simp
  by_cases h1 : kind = 1
  · subst h1
    have HP : Hid _ := HT.out.put HWf.out hp s HB.out.2 x HB.out.1
    obtain ⟨r, HRR⟩ : ∃ r, Hid (actO n p L ⟨1, s, x⟩ = r ∧ putO n p L s x = r) := ⟨_, rfl, by unfold actO; rfl⟩
    rw [HRR.out.1]
    rw [HRR.out.2] at HP
    go_enter Try.func13, Try.ntmps13
    go_wp2_with fail
    rw [← HW.out]
    go_wp2_with fail
    refine Calls.mono HP.out ?_
    rintro e w1 ⟨rfl, h1⟩
    have HE : Hid _ := h1
    clear h1 HP
    go_wp2_with (go_at_call 28; refine (no_any _ _).mono ?_; rintro e w' ⟨rfl, rfl⟩)
    go_ret
    exact ⟨rfl, HE.out⟩
  · have b1 : (kind == 1) = false := by rw [beq_eq_false_iff_ne]; exact h1
    by_cases h2 : kind = 2
    · subst h2
      have HP : Hid _ := HT.out.drop HWf.out hp x HB.out.1
      obtain ⟨r, HRR⟩ : ∃ r, Hid (actO n p L ⟨2, s, x⟩ = r ∧ dropO n p L x = r) := ⟨_, rfl, by unfold actO; rfl⟩
      rw [HRR.out.1]
      rw [HRR.out.2] at HP
      go_enter Try.func13, Try.ntmps13
      go_wp2_with fail
      rw [← HW.out]
      go_wp2_with fail
      refine Calls.mono HP.out ?_
      rintro e w1 ⟨rfl, h1⟩
      have HE : Hid _ := h1
      clear h1 HP
      go_wp2_with (go_at_call 28; refine (no_any _ _).mono ?_; rintro e w' ⟨rfl, rfl⟩)
      go_ret
      exact ⟨rfl, HE.out⟩
    · have b2 : (kind == 2) = false := by rw [beq_eq_false_iff_ne]; exact h2
      have e : actO n p L ⟨kind, s, x⟩ = (0, n, p, L) := by unfold actO; simp only [h1, h2, if_false]
      rw [e]
      go_enter Try.func13, Try.ntmps13
      go_wp2_with fail
      all_goals (try rw [← HW.out])
      all_goals go_wp2
      all_goals go_ret
      all_goals exact ⟨rfl, HT.out, HWf.out⟩

set_option maxRecDepth 20000 in
set_option maxHeartbeats 1000000 in
theorem DS.asked (h : DS w0 w A T n p L m K) (hK : K.length ≤ 50000) (hm : m ≤ 100000) (q : Nat) (a : Ac) :
    Calls Try.prog 14 #[.pointer (some ⟨T, 0, none⟩), acV a] w fun e w' => e = .returned (.int .i64 (actO m q K a).1) ∧ DS w0 w' A T n p L (actO m q K a).2.1 (actO m q K a).2.2.2 := by
  obtain ⟨kind, s, x⟩ := a
  have H : Hid (DS w0 w A T n p L m K) := h
  clear h
  obtain ⟨W, HW⟩ : ∃ W, Hid (W = w.alloc (.cells #[.int .i64 kind, .string s, .int .i64 x] 31)) := ⟨_, show _ = _ from rfl⟩
  have HT : Hid (DS w0 W A T n p L m K) := by show DS _ _ _ _ _ _ _ _ _; rw [HW.out]; exact H.out.no ((Kept.refl _ _).alloc _)
  have c0 : W.cell? ⟨w.heap.size, 0, none⟩ = some (.int .i64 kind) := by rw [HW.out]; simp
  have c1 : W.cell? ⟨w.heap.size, 1, none⟩ = some (.string s) := by rw [HW.out]; simp
  have c2 : W.cell? ⟨w.heap.size, 2, none⟩ = some (.int .i64 x) := by rw [HW.out]; simp
  by_cases h1 : kind = 1
  · subst h1
    have HP : Hid _ := HT.out.rput hK hm s x q
    obtain ⟨r, HRR⟩ : ∃ r, Hid (actO m q K ⟨1, s, x⟩ = r ∧ putO m q K s x = r) := ⟨_, rfl, by unfold actO; rfl⟩
    rw [HRR.out.1]
    rw [HRR.out.2] at HP
    go_enter Try.func14, Try.ntmps14
    go_wp2_with fail
    rw [← HW.out]
    go_wp2_with fail
    refine Calls.mono HP.out ?_
    rintro e w1 ⟨rfl, h1⟩
    have HE : Hid _ := h1
    clear h1 HP
    go_wp2
    go_ret
    exact ⟨rfl, HE.out⟩
  · have b1 : (kind == 1) = false := by rw [beq_eq_false_iff_ne]; exact h1
    by_cases h2 : kind = 2
    · subst h2
      have HP : Hid _ := HT.out.rdrop hK hm x q
      obtain ⟨r, HRR⟩ : ∃ r, Hid (actO m q K ⟨2, s, x⟩ = r ∧ dropO m q K x = r) := ⟨_, rfl, by unfold actO; rfl⟩
      rw [HRR.out.1]
      rw [HRR.out.2] at HP
      go_enter Try.func14, Try.ntmps14
      go_wp2_with fail
      rw [← HW.out]
      go_wp2_with fail
      refine Calls.mono HP.out ?_
      rintro e w1 ⟨rfl, h1⟩
      have HE : Hid _ := h1
      clear h1 HP
      go_wp2
      go_ret
      exact ⟨rfl, HE.out⟩
    · have b2 : (kind == 2) = false := by rw [beq_eq_false_iff_ne]; exact h2
      have e : actO m q K ⟨kind, s, x⟩ = (0, m, q, K) := by unfold actO; simp only [h1, h2, if_false]
      rw [e]
      go_enter Try.func14, Try.ntmps14
      go_wp2_with fail
      all_goals (try rw [← HW.out])
      all_goals go_wp2
      all_goals go_ret
      all_goals exact ⟨rfl, HT.out⟩
end

set_option maxHeartbeats 1000000 in
theorem Chain_out {w : World} {B A C M n p nn : Nat} {vs : List Value} {L : List Ent} (h : Rep w B A C M n p nn vs L) {k : Int} (hk : k < 0 ∨ (n : Int) ≤ k) :
    Calls Try.prog 22 #[.pointer (some ⟨A, 0, none⟩), .int .i64 k] w fun e w' => e = .returned (.slice none 0 0) ∧ w = w' := by
  obtain ⟨a0, a1, a2⟩ := tb_cells h.hA
  have HBk : Hid _ := Buckets_any w h.hA
  have n2 := h.n2
  clear h
  by_cases k1 : k < 0
  · go_enter Try.func22, Try.ntmps22
    go_wp2_with (go_at_call 16; refine Calls.mono HBk.out ?_; rintro e w' ⟨rfl, rfl⟩)
    go_ret
    exact ⟨rfl, rfl⟩
  · have k2 : (n : Int) ≤ k := by omega
    go_enter Try.func22, Try.ntmps22
    go_wp2_with (go_at_call 16; refine Calls.mono HBk.out ?_; rintro e w' ⟨rfl, rfl⟩)
    go_ret
    exact ⟨rfl, rfl⟩
end Go.Proofs.Ytnfamebihpnjlaa

/- Two like rows of ints. -/
namespace Go.Proofs.Ytnfamebihpnjlaa
open Go.RowKit
set_option linter.unusedSimpArgs false
set_option linter.unusedVariables false

theorem IRow.form {w : World} {B : Nat} {v : Value} {l : List Int} (h : IRow w B v l) : ∃ ao c, v = .slice ao l.length c ∧ ∀ j (hj : j < l.length), ∃ g, ao = some ⟨g, 0, none⟩ ∧ w.cell? ⟨g, j, none⟩ = some (.int .i64 l[j]) := by
  rcases row_shape h with ⟨rfl, rfl⟩ | ⟨g, cap, rfl, _⟩
  · exact ⟨_, _, rfl, fun j hj => by simp at hj⟩
  · exact ⟨_, _, rfl, fun j hj => ⟨g, rfl, row_cell h rfl hj⟩⟩
theorem IRow.no {w w' : World} {B : Nat} {v : Value} {l : List Int} (h : IRow w B v l) (hk : Kept No w w') : IRow w' B v l := row_kept h hk (fun _ _ e => e)
theorem IRow.nil (w : World) (B : Nat) : IRow w B (.slice none 0 0) [] := World.ownsRow_nil _ _ _ _

set_option maxRecDepth 20000 in
set_option maxHeartbeats 1000000 in
theorem Ints_same {w : World} {B B' : Nat} {v v' : Value} {l : List Int} (h : IRow w B v l) (h' : IRow w B' v' l) (hl : l.length ≤ 100000) :
    Calls Try.prog 21 #[v, v'] w fun e w' => e = .returned (.bool true) ∧ Kept No w w' := by
  have mixed : Try.prog.follows .mixedOrders = true := by kernel_rfl
  obtain ⟨ao, c, rfl, _⟩ := h.form
  obtain ⟨ao', c', rfl, _⟩ := h'.form
  have HC : Hid (∀ W, Kept No w W → ∀ j (hj : j < l.length), ∃ g g', ao = some ⟨g, 0, none⟩ ∧ ao' = some ⟨g', 0, none⟩ ∧ W.cell? ⟨g, j, none⟩ = some (.int .i64 l[j]) ∧ W.cell? ⟨g', j, none⟩ = some (.int .i64 l[j])) := fun W hW j hj => by
    obtain ⟨a1, q1, e1, f1⟩ := (h.no hW).form
    obtain ⟨a2, q2, e2, f2⟩ := (h'.no hW).form
    injection e1 with e1 _ _
    injection e2 with e2 _ _
    subst e1 e2
    obtain ⟨g, x1, x2⟩ := f1 j hj
    obtain ⟨g', y1, y2⟩ := f2 j hj
    exact ⟨g, g', x1, y1, x2, y2⟩
  clear h h'
  go_enter Try.func21, Try.ntmps21
  go_wp2_with fail
  go_loopw [5] (fun i wr => ∃ j : Nat, j ≤ l.length ∧ i = .int .i64 j ∧ Hid (Kept No w wr)) (fun i _ => l.length - (ivO i).toNat)
  case atStart => exact ⟨0, Nat.zero_le _, rfl, Kept.refl _ _⟩
  case round =>
    obtain ⟨j, hj, rfl, HK⟩ := hrel
    by_cases hlt : j < l.length
    · obtain ⟨g, g', rfl, rfl, c1, c2⟩ := HC.out wr HK.out j hlt
      have j1 : (j : Int) < (l.length : Int) := by omega
      generalize l[j] = z at c1 c2
      have HK2 : Hid (Kept No w wr.drew) := HK.out.drew
      go_wp2_with fail
      go_big_region_o
      generalize wr.drew = W at HK2 ⊢
      clear c1 c2
      go_wp2
      go_round
      case rel => exact ⟨j + 1, by omega, by go_num, HK2.out⟩
      case measure => simp [ivO] <;> omega
    · obtain rfl : j = l.length := by omega
      go_wp2
      go_ret
      exact ⟨rfl, HK.out⟩

theorem DS.chains {w0 w : World} {A T n p : Nat} {L : List Ent} (h : DS w0 w A T n p L n L) (hp : p ≤ 10000) {k : Int} (h1 : -1 ≤ k) (h2 : k ≤ n) :
    (∃ l : List Int, l.length ≤ 100000 ∧ Calls Try.prog 22 #[.pointer (some ⟨A, 0, none⟩), .int .i64 k] w fun e w' => ∃ v', e = .returned v' ∧ IRow w' w.heap.size v' l ∧ Kept No w w' ∧
      Calls Try.prog 23 #[.pointer (some ⟨T, 0, none⟩), .int .i64 k] w' fun e w'' => ∃ v'', e = .returned v'' ∧ IRow w'' w'.heap.size v'' l ∧ Kept No w' w'') := by
  obtain ⟨C, M, vs, v, h3, h4, h5⟩ := h
  have hle : L.length ≤ p := h3.map.le
  by_cases hk : k < 0
  · obtain rfl : k = -1 := by omega
    refine ⟨[], by simp, (Chain_out h3 (Or.inl hk)).mono ?_⟩
    rintro e w' ⟨rfl, rfl⟩
    refine ⟨_, rfl, IRow.nil _ _, Kept.refl _ _, (RChain_neg h4 (by omega)).mono ?_⟩
    rintro e w' ⟨rfl, rfl⟩
    exact ⟨_, rfl, IRow.nil _ _, Kept.refl _ _⟩
  · obtain ⟨b, rfl⟩ : ∃ b : Nat, k = (b : Int) := ⟨k.toNat, by omega⟩
    have n2 := h3.n2
    have n1 := h3.n1
    have hsz := h3.good.siz
    refine ⟨(cL L n b).reverse, by have := cL_len L n b; rw [List.length_reverse]; omega, ?_⟩
    have hR : ∀ w', Kept No w w' → Calls Try.prog 23 #[.pointer (some ⟨T, 0, none⟩), .int .i64 b] w' fun e w'' => ∃ v'', e = .returned v'' ∧ IRow w'' w'.heap.size v'' (cL L n b).reverse ∧ Kept No w' w'' := fun w' hk =>
      RChain_any (h4.no hk) (by omega) n2 (by omega) hsz (by omega)
    by_cases hb : b < n
    · refine (Chain_any h3 hb).mono ?_
      rintro e w' ⟨v', rfl, h6, h7⟩
      exact ⟨v', rfl, by unfold IRow; rw [List.length_reverse]; exact h6, h7, hR _ h7⟩
    · have hz : cL L n b = [] := by
        unfold cL
        rw [List.map_eq_nil_iff, List.filter_eq_nil_iff]
        intro e he
        have := bk_lt e.s (n := n) (by omega)
        simp; omega
      refine (Chain_out h3 (Or.inr (by omega))).mono ?_
      rintro e w' ⟨rfl, rfl⟩
      exact ⟨_, rfl, by rw [hz]; exact IRow.nil _ _, Kept.refl _ _, hR _ (Kept.refl _ _)⟩
end Go.Proofs.Ytnfamebihpnjlaa
