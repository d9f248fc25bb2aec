/- Joined: J9 JA JB JC. -/
import Derived.Test.YtdaklohfecinjaaJa
import Derived.Test.YtdaklohfecinjaaJx8
import Derived.Test.YtdaklohfecinjaaV1
/- The document's Handles. -/
namespace Go.Proofs.Ytdaklohfecinjaa
open Go.RowKit
set_option linter.unusedSimpArgs false
set_option linter.unusedVariables false

theorem jinfo3 : (Try.prog.info? 3).map (fun i => (i.zero, i.size, i.bytes)) = some (some (.int .i64 0), 1, 8) := by kernel_rfl
/-- Numbers as ints. -/
def icN (l : List Nat) : List Value := l.map fun t : Nat => .int .i64 (t : Int)
theorem icN_append (a b : List Nat) : icN (a ++ b) = icN a ++ icN b := by simp [icN]
theorem icN_len (l : List Nat) : (icN l).length = l.length := by simp [icN]
/-- A row of ints. -/
def IRow (w : World) (B : Nat) (v : Value) (l : List Nat) : Prop := w.ownsRow B 3 1 v l.length (icN l)
theorem IRow.no {w w' : World} {B : Nat} {v : Value} {l : List Nat} (h : IRow w B v l) (hk : Kept No w w') : IRow w' B v l := ownsRow_no h hk
theorem IRow.form {w : World} {B : Nat} {v : Value} {l : List Nat} (h : IRow w B v l) : ∃ ao c, v = .slice ao l.length c ∧ ∀ j (hj : j < l.length), ∃ g, ao = some ⟨g, 0, none⟩ ∧ w.cell? ⟨g, j, none⟩ = some (.int .i64 (l[j] : Int)) := by
  have h00 := h
  rcases h.2 with ⟨rfl, h0⟩ | ⟨g, cap, cur, rfl, h2⟩
  · exact ⟨none, 0, by rw [h0], fun j hj => by omega⟩
  · refine ⟨_, _, rfl, fun j hj => ⟨g, rfl, ?_⟩⟩
    have := World.ownsRow.cellAt h00 j (by omega)
    rw [this]
    simp [icN, List.getElem?_eq_getElem hj]
/-- An int is appended. -/
theorem app_int {ops : Array Oper} {rest : List Oper} {o : Oper} {a : Act} {Q : Exit → Act → World → Prop} {w : World} (hgd : o.guard = none) (s x : Operand)
    (ho : o.op = .call { callee := .builtin .append, args := #[s, x], argTypes := #[39, 39] }) (base : Nat) (v : Value) (l : List Nat) (hs : a.eval s = v) (hrow : IRow w base v l)
    (N : Nat) (e : Nat) (hx : a.eval x = .slice (some ⟨N, 0, none⟩) 1 1) (hN : w.heap[N]? = some (.cells #[.int .i64 (e : Int)] 3 (0, 0))) (hlen : l.length + 1 ≤ 1000000) (hbase : base ≤ w.heap.size)
    (h : ∀ v' w', Hid (IRow w' base v' (l ++ [e])) → Hid (w.grownBy w' v.ownBlock) → wpList Try.prog ops Q rest (a.put o.dst v') w') : wpList Try.prog ops Q (o :: rest) a w := by
  obtain ⟨i0, hi, hz0, hz1, hz2⟩ := info_parts jinfo3
  have h63 : l.length + 1 ≤ maxLen := by unfold maxLen; omega
  have h8 : (l.length + 1) * 8 ≤ 140737488355328 := by omega
  refine wpList_append_own _ hgd s x 39 ho base 3 i0 _ 1 8 Try.underlying39 hi hz0 hz1 hz2 rfl (by decide) v l.length (icN l) hs hrow ⟨N, 0, none⟩ 1 1 (icN [e]) hx rfl ?_ ?_ h63 h8 hbase ?_
  · intro j u hu
    have hc := cell_of hN
    rcases j with _ | j
    · simp [icN] at hu; subst hu; simpa [Addr.add] using hc 0
    · simp [icN] at hu
  · intro u hu
    obtain ⟨m, _, rfl⟩ := List.mem_map.1 hu; rfl
  · intro v' w' h1 h2 h3
    refine h v' w' ?_ h2
    show World.ownsRow _ _ _ _ _ _ _
    rw [List.length_append, icN_append]; exact h1

theorem fdI_mem {K : List Bk} {x : Int} (h : ∃ b ∈ K, (b.h : Int) = x) : 0 ≤ fdI K x := by
  unfold fdI
  split
  · omega
  · rename_i e
    rw [List.findIdx?_eq_none_iff] at e
    obtain ⟨b, hb, h⟩ := h
    have := e b hb
    simp [h] at this
theorem fdI_not {K : List Bk} {x : Int} (h : ∀ b ∈ K, (b.h : Int) ≠ x) : fdI K x = -1 :=
  fdI_out (fun j hj _ => h _ (List.getElem_mem hj))

set_option maxRecDepth 20000 in
set_option maxHeartbeats 2000000 in
theorem RHandles_any {w : World} {B T size : Nat} {v : Value} {K : List Bk} (h : Rt w B T size v K) (hb : BdK K) (hl : List Nat) (hs : hl.Pairwise (· < ·)) (hm : ∀ t : Nat, t ∈ hl ↔ ∃ b ∈ K, b.h = t) (h1 : ∀ t ∈ hl, 1 ≤ t ∧ t ≤ 70000) (hlen : hl.length = K.length) :
    Calls Try.prog 46 #[.pointer (some ⟨T, 0, none⟩)] w fun e w' => ∃ v', e = .returned v' ∧ IRow w' w.heap.size v' hl ∧ Kept No w w' := by
  obtain ⟨ao, cap, hv⟩ := h.row.form
  have HT : Hid (∀ W, Kept No w W → W.cell? ⟨T, 1, none⟩ = some (.slice ao hl.length cap)) := fun W hW => by
    have := (h.no hW).cells.2
    rw [hv, ← hlen] at this; exact this
  have HF : Hid (∀ W, Kept No w W → ∀ x : Int, Calls Try.prog 51 #[.pointer (some ⟨T, 0, none⟩), .int .i64 x] W fun e w' => e = .returned (.int .i64 (fdI K x)) ∧ W = w') := fun W hW x => RFind_any (h.no hW) (by have := hb.1; omega) x
  have hll : hl.length ≤ 65536 := by have := hb.1; omega
  have HIn : Hid (∀ t : Nat, t ∈ hl → 0 ≤ fdI K t) := fun t ht => by obtain ⟨b, hb, e⟩ := (hm t).1 ht; exact fdI_mem ⟨b, hb, by rw [e]⟩
  have HOut : Hid (∀ t : Nat, t ∉ hl → fdI K t = -1) := fun t ht => fdI_not (fun b hb e => ht ((hm t).2 ⟨b, hb, by omega⟩))
  have HS : Hid (∀ i k (hi : i < hl.length) (hk : k < hl.length), i < k → hl[i] < hl[k]) := fun i k hi hk hik => List.pairwise_iff_getElem.1 hs i k hi hk hik
  have H1 : Hid (∀ t ∈ hl, 1 ≤ t ∧ t ≤ 70000) := h1
  clear h hb hs hm h1 hlen hv
  have HR0 : Hid (IRow w w.heap.size (.slice none 0 0) (hl.take 0) ∧ Kept No w w) := ⟨World.ownsRow_nil _ _ _ _, Kept.refl _ _⟩
  go_enter Try.func46, Try.ntmps46
  go_wp2_with fail
  go_loopw [3, 4] (fun o x wr => ∃ j t : Nat, j ≤ hl.length ∧ 1 ≤ t ∧ t ≤ 70001 ∧ x = .int .i64 t ∧ Hid (∀ i (hi : i < hl.length), (i < j → hl[i] < t) ∧ (j ≤ i → t ≤ hl[i])) ∧ Hid (IRow wr w.heap.size o (hl.take j) ∧ Kept No w wr)) (fun _ x _ => 70001 - (intOf x).toNat)
  case atStart => exact ⟨0, 1, Nat.zero_le _, Nat.le_refl _, by omega, rfl, fun i hi => ⟨fun e => by omega, fun _ => (H1.out _ (List.getElem_mem hi)).1⟩, HR0.out⟩
  case round =>
    clear HR0
    obtain ⟨j, t, hj, t1, t2, rfl, HJ, HR⟩ := hrel
    have c1 := HT.out wr HR.out.2
    obtain ⟨so, sc, e3, _⟩ := HR.out.1.form
    have hlj : (hl.take j).length = j := by rw [List.length_take]; omega
    rw [hlj] at e3
    have HFt : Hid _ := HF.out wr HR.out.2 (t : Int)
    by_cases hlt : j < hl.length
    · have htj := (HJ.out j hlt).2 (Nat.le_refl _)
      have hb7 := (H1.out _ (List.getElem_mem hlt)).2
      by_cases he : hl[j] = t
      · have hin := HIn.out t (by rw [← he]; exact List.getElem_mem hlt)
        have HJ2 : Hid (∀ i (hi : i < hl.length), (i < j + 1 → hl[i] < t + 1) ∧ (j + 1 ≤ i → t + 1 ≤ hl[i])) := fun i hi => by
          refine ⟨fun e => ?_, fun e => ?_⟩
          · rcases Nat.lt_succ_iff_lt_or_eq.1 e with e | e
            · have := (HJ.out i hi).1 e; omega
            · subst e; omega
          · have := HS.out j i hlt hi (by omega); omega
        have HX : Hid (hl.take (j + 1) = hl.take j ++ [t]) := by show _ = _; rw [List.take_succ_eq_append_getElem hlt, he]
        generalize fdI K (t : Int) = z at hin HFt
        have hjl : (j : Int) < (hl.length : Int) := by omega
        have hsz := HR.out.2.size
        subst e3
        have t3 : t ≤ 70000 := by omega
        clear he htj
        go_wp2_with (first
          | (go_at_call 51; refine Calls.mono HFt.out ?_; rintro e w' ⟨rfl, rfl⟩)
          | (refine app_int rfl (.tmp 19) (.tmp 21) rfl w.heap.size (.slice so j sc) (hl.take j) rfl (World.ownsRow.alloc HR.out.1 _) wr.heap.size t rfl (World.alloc_heap_new wr _) (by rw [hlj]; omega) (by simp; omega) ?_
             intro v' w1 HR1 HG1
             have HR2 : Hid (IRow w1 w.heap.size v' (hl.take (j + 1)) ∧ Kept No w w1) := ⟨(by rw [HX.out]; exact HR1.out), (HR.out.2.alloc _).grown HG1.out (fun k e => .inr (World.ownsRow.lt HR.out.1 k e).1)⟩
             clear HR1 HG1 HR HX))
        go_round
        case rel => exact ⟨j + 1, t + 1, by omega, by omega, by omega, by go_num, HJ2, HR2⟩
        case measure => simp [intOf] <;> omega
      · have hout := HOut.out t (fun hmem => by
          obtain ⟨i, hi, e⟩ := List.getElem_of_mem hmem
          rcases Nat.lt_trichotomy i j with h | h | h
          · have := (HJ.out i hi).1 h; omega
          · subst h; exact he e
          · have := HS.out j i hlt hi h; omega)
        have HJ2 : Hid (∀ i (hi : i < hl.length), (i < j → hl[i] < t + 1) ∧ (j ≤ i → t + 1 ≤ hl[i])) := fun i hi => by
          refine ⟨fun e => ?_, fun e => ?_⟩
          · have := (HJ.out i hi).1 e; omega
          · rcases Nat.lt_or_eq_of_le e with e | e
            · have := HS.out j i hlt hi e; omega
            · subst e; omega
        rw [hout] at HFt
        have hjl : (j : Int) < (hl.length : Int) := by omega
        subst e3
        go_wp2_with (go_at_call 51; refine Calls.mono HFt.out ?_; rintro e w' ⟨rfl, rfl⟩)
        go_round
        case rel => exact ⟨j, t + 1, by omega, by omega, by omega, by go_num, HJ2, HR⟩
        case measure => simp [intOf] <;> omega
    · obtain rfl : j = hl.length := by omega
      have HR2 : Hid (IRow wr w.heap.size (.slice so hl.length sc) hl ∧ Kept No w wr) := by have := HR.out; rw [List.take_length, e3] at this; exact this
      subst e3
      clear HR HJ
      go_wp2
      go_ret
      exact ⟨_, rfl, HR2.out.1, HR2.out.2⟩
end Go.Proofs.Ytdaklohfecinjaa

/- Both arenas side by side: plain facts. -/
namespace Go.Proofs.Ytdaklohfecinjaa
open Go.RowKit
set_option linter.unusedSimpArgs false
set_option linter.unusedVariables false

/-- The document's blocks are the program's. -/
def Cor (cs : List Int) (hb : List (Nat × Nd)) (K : List Bk) : Prop := K.map (fun b => (b.h, b.a, b.xs)) = hb.map (fun x => (x.1, x.2.a, data cs x.2))
theorem Cor.len {cs : List Int} {hb : List (Nat × Nd)} {K : List Bk} (h : Cor cs hb K) : K.length = hb.length := by
  have := congrArg List.length h
  simpa using this
theorem Cor.at {cs : List Int} {hb : List (Nat × Nd)} {K : List Bk} (h : Cor cs hb K) {i : Nat} (hi : i < hb.length) : ∃ hk : i < K.length, K[i].h = hb[i].1 ∧ K[i].a = hb[i].2.a ∧ K[i].xs = data cs hb[i].2 := by
  have hk : i < K.length := by rw [h.len]; exact hi
  refine ⟨hk, ?_⟩
  have := congrArg (fun l => l[i]?) h
  simp only [List.getElem?_map, List.getElem?_eq_getElem hi, List.getElem?_eq_getElem hk, Option.map_some, Option.some.injEq, Prod.mk.injEq] at this
  exact this
theorem cor_of {cs : List Int} {hb : List (Nat × Nd)} {K : List Bk} (hl : K.length = hb.length) (h : ∀ i (hi : i < hb.length) (hk : i < K.length), K[i].h = hb[i].1 ∧ K[i].a = hb[i].2.a ∧ K[i].xs = data cs hb[i].2) : Cor cs hb K := by
  unfold Cor
  apply List.ext_getElem?
  intro i
  rw [List.getElem?_map, List.getElem?_map]
  by_cases hi : i < hb.length
  · have hk : i < K.length := by omega
    obtain ⟨h1, h2, h3⟩ := h i hi hk
    rw [List.getElem?_eq_getElem hi, List.getElem?_eq_getElem hk]
    simp [h1, h2, h3]
  · rw [List.getElem?_eq_none (by omega), List.getElem?_eq_none (by omega)]; rfl
theorem Cor.take {cs : List Int} {hb : List (Nat × Nd)} {K : List Bk} (h : Cor cs hb K) (i : Nat) : Cor cs (hb.take i) (K.take i) := by
  unfold Cor at *; rw [List.map_take, List.map_take, h]
theorem Cor.drop {cs : List Int} {hb : List (Nat × Nd)} {K : List Bk} (h : Cor cs hb K) (i : Nat) : Cor cs (hb.drop i) (K.drop i) := by
  unfold Cor at *; rw [List.map_drop, List.map_drop, h]
theorem Cor.app {cs : List Int} {hb hc : List (Nat × Nd)} {K L : List Bk} (h : Cor cs hb K) (h' : Cor cs hc L) : Cor cs (hb ++ hc) (K ++ L) := by
  unfold Cor at *; rw [List.map_append, List.map_append, h, h']
theorem Cor.cons {cs : List Int} {hb : List (Nat × Nd)} {K : List Bk} (h : Cor cs hb K) {x : Nat × Nd} {b : Bk} (h1 : b.h = x.1) (h2 : b.a = x.2.a) (h3 : b.xs = data cs x.2) : Cor cs (x :: hb) (b :: K) := by
  unfold Cor at *; rw [List.map_cons, List.map_cons, h, h1, h2, h3]
/-- Other cells, where these blocks have the same. -/
theorem Cor.cells {cs cs' : List Int} {hb : List (Nat × Nd)} {K : List Bk} (h : Cor cs hb K) (he : ∀ x ∈ hb, data cs' x.2 = data cs x.2) : Cor cs' hb K := by
  unfold Cor at *
  rw [h]
  exact List.map_congr_left (fun x hx => by rw [he x hx])

theorem data_len {cs : List Int} {x : Nd} (h : x.a + x.s ≤ cs.length) : (data cs x).length = x.s := by unfold data; simp; omega
theorem data_same {cs cs' : List Int} {x : Nd} (h : x.a + x.s ≤ cs.length) (h' : x.a + x.s ≤ cs'.length) (he : ∀ j, j < x.s → cs'.getD (x.a + j) 0 = cs.getD (x.a + j) 0) : data cs' x = data cs x :=
  take_drop_ext h' h he
theorem data_is {cs : List Int} {x : Nd} {ys : List Int} (h : x.a + x.s ≤ cs.length) (hl : ys.length = x.s) (he : ∀ j, j < x.s → cs.getD (x.a + j) 0 = ys.getD j 0) : data cs x = ys := by
  have := take_drop_ext (a := x.a) (b := 0) (s := x.s) (xs := cs) (ys := ys) h (by omega) (fun j hj => by rw [he j hj, Nat.zero_add])
  unfold data
  rw [this, List.drop_zero, List.take_of_length_le (by omega)]

section
variable {w : World} {A C M F f size least n : Nat} {cs : List Int} {hb : List (Nat × Nd)} {K : List Bk}
theorem Rp.in (h : Rp w A C M F f size least n cs hb) {x : Nat × Nd} (hx : x ∈ hb) : x.2.a + x.2.s ≤ cs.length := by
  rw [h.len]; exact h.geo.bd _ (List.mem_cons_of_mem _ (List.mem_map_of_mem hx))
theorem Cor.xs (hc : Cor cs hb K) (hin : ∀ x ∈ hb, x.2.a + x.2.s ≤ cs.length) {i : Nat} (hi : i < hb.length) (hk : i < K.length) : K[i].xs.length = hb[i].2.s := by
  obtain ⟨_, _, _, e⟩ := hc.at hi
  rw [e, data_len (hin _ (List.getElem_mem hi))]
theorem Rp.bdK (h : Rp w A C M F f size least n cs hb) (hc : Cor cs hb K) : BdK K := by
  refine ⟨by rw [hc.len]; have := h.length_le; have := h.sz; omega, fun b hb' => ?_⟩
  obtain ⟨i, hi, rfl⟩ := List.getElem_of_mem hb'
  have hi' : i < hb.length := by rw [← hc.len]; exact hi
  obtain ⟨_, _, e2, _⟩ := hc.at hi'
  rw [hc.xs (fun x hx => h.in hx) hi' hi, e2]
  have := h.in (List.getElem_mem hi')
  have := h.len
  have := h.sz
  omega
theorem Cor.en (hc : Cor cs hb K) (hin : ∀ x ∈ hb, x.2.a + x.2.s ≤ cs.length) (F : Nat) {k : Nat} (hk : k < (nodes F hb).length) : enK K k = (nodes F hb)[k].a + (nodes F hb)[k].s := by
  cases k with
  | zero => rfl
  | succ k =>
    have hk' : k < hb.length := by simpa [nodes] using hk
    obtain ⟨h1, _, e2, _⟩ := hc.at hk'
    rw [enK_succ h1, hc.xs hin hk' h1, e2, nodes_at F hb hk']
theorem Cor.gap (hc : Cor cs hb K) (hin : ∀ x ∈ hb, x.2.a + x.2.s ≤ cs.length) (F size : Nat) {k : Nat} (hk : k < (nodes F hb).length) : gapK K size k = gap (nodes F hb) size k := by
  unfold gapK
  rw [hc.en hin F hk]
  unfold Go.Proofs.Ytdaklohfecinjaa.gap
  rw [List.drop_eq_getElem_cons hk]
  have hk' : k ≤ hb.length := by simpa [nodes, Nat.lt_succ_iff] using hk
  rcases Nat.lt_or_eq_of_le hk' with e | e
  · obtain ⟨h1, _, e2, _⟩ := hc.at e
    have h2 : k + 1 < (nodes F hb).length := by simp [nodes]; omega
    rw [List.drop_eq_getElem_cons h2, nodes_at F hb e, toK_lt h1, e2]
    simp
  · have h2 : (nodes F hb).drop (k + 1) = [] := List.drop_eq_nil_of_le (by simp [nodes]; omega)
    rw [h2]
    have : toK K size k = size := by rw [e, ← hc.len]; exact toK_end
    rw [this]
    simp
theorem gx_gm {k : Nat} (he : ∀ i, i < k → gapK K size i = Go.Proofs.Ytdaklohfecinjaa.gap (nodes F hb) size i) : gxK K size k = gm (nodes F hb) size k := by
  induction k with
  | zero => rfl
  | succ k ih =>
    show max _ _ = max _ _
    rw [ih (fun i hi => he i (by omega)), he k (by omega)]
theorem Cor.gx (hc : Cor cs hb K) (hin : ∀ x ∈ hb, x.2.a + x.2.s ≤ cs.length) (F size : Nat) : gxK K size (K.length + 1) = gm (nodes F hb) size (nodes F hb).length := by
  have e : K.length + 1 = (nodes F hb).length := by simp [nodes, hc.len]
  rw [e]
  exact gx_gm (fun i hi => hc.gap hin F size hi)
theorem topN_last : ∀ (l : List Nd) (hl : l ≠ []), topN l = (l.getLast hl).a + (l.getLast hl).s
  | [x], _ => rfl
  | x :: y :: r, _ => by
    have := topN_last (y :: r) (by simp)
    simpa [topN] using this
theorem Cor.tp (hc : Cor cs hb K) (hin : ∀ x ∈ hb, x.2.a + x.2.s ≤ cs.length) (F : Nat) : enK K K.length = topN (nodes F hb) := by
  have hl : K.length < (nodes F hb).length := by simp [nodes, hc.len]
  have hne : nodes F hb ≠ [] := by simp [nodes]
  have h1 : (nodes F hb).length - 1 = K.length := by simp [nodes, hc.len]
  have e : (nodes F hb).getLast hne = (nodes F hb)[K.length] := by
    rw [List.getLast_eq_getElem hne]
    simp only [h1]
  rw [hc.en hin F hl, topN_last _ hne, e]
theorem sumL_sumS (h : ∀ i (hi : i < hb.length) (hk : i < K.length), K[i].xs.length = hb[i].2.s) (hl : K.length = hb.length) (F k : Nat) : sumL (K.take k) = sumS ((nodes F hb).take (k + 1)) := by
  have e : K.map (fun b => b.xs.length) = hb.map (fun x => x.2.s) := by
    apply List.ext_getElem?
    intro i
    rw [List.getElem?_map, List.getElem?_map]
    by_cases hi : i < hb.length
    · have hk : i < K.length := by omega
      rw [List.getElem?_eq_getElem hi, List.getElem?_eq_getElem hk]
      simp [h i hi hk]
    · rw [List.getElem?_eq_none (by omega), List.getElem?_eq_none (by omega)]; rfl
  unfold sumL sumS nodes
  rw [List.map_take, e, List.take_succ_cons, List.map_cons, List.sum_cons, Nat.zero_add, ← List.map_take, ← List.map_take, List.map_map]
  rfl
theorem Cor.sum (hc : Cor cs hb K) (hin : ∀ x ∈ hb, x.2.a + x.2.s ≤ cs.length) (F : Nat) : sumL K = sumS (nodes F hb) := by
  have := sumL_sumS (fun i hi hk => hc.xs hin hi hk) hc.len F K.length
  rw [List.take_length, List.take_of_length_le (by simp [nodes, hc.len])] at this
  exact this
theorem mv_mvB (hc : Cor cs hb K) (hin : ∀ x ∈ hb, x.2.a + x.2.s ≤ cs.length) (F : Nat) : ∀ k, k ≤ hb.length → mvB K k = mv (nodes F hb) (k + 1)
  | 0, _ => by simp [mvB, mv, nodes, sumS]
  | k + 1, hk => by
    have ih := mv_mvB hc hin F k (by omega)
    have hk' : k < hb.length := by omega
    obtain ⟨h1, _, e2, _⟩ := hc.at hk'
    have h2 : k + 1 < (nodes F hb).length := by simp [nodes]; omega
    rw [mvB_succ h1, mv_succ h2, ih, e2, nodes_at F hb hk', sumL_sumS (fun i hi hk => hc.xs hin hi hk) hc.len F k]
theorem Cor.mvs (hc : Cor cs hb K) (hin : ∀ x ∈ hb, x.2.a + x.2.s ≤ cs.length) (F : Nat) : mvB K K.length = mv (nodes F hb) (nodes F hb).length := by
  rw [hc.len, mv_mvB hc hin F _ (Nat.le_refl _)]; simp [nodes]

/-- Handles. -/
theorem Cor.none (hc : Cor cs hb K) {x : Int} (h : look hb x = none) : fdI K x = -1 := by
  refine fdI_out (fun j hj _ => ?_)
  have hj' : j < hb.length := by rw [← hc.len]; exact hj
  obtain ⟨_, e, _⟩ := hc.at hj'
  rw [e]
  exact look_none.1 h _ (List.getElem_mem hj')
theorem Cor.some (hc : Cor cs hb K) (hn : (hb.map Prod.fst).Nodup) {k : Nat} (hk : k < hb.length) : fdI K (hb[k].1 : Int) = k := by
  obtain ⟨h1, e, _⟩ := hc.at hk
  refine fdI_at h1 (fun j hj hjk => ?_) (by rw [e])
  have hj' : j < hb.length := by omega
  obtain ⟨_, e2, _⟩ := hc.at hj'
  rw [e2]
  intro e3
  have := List.pairwise_iff_getElem.1 (List.nodup_iff_pairwise_ne.1 hn) j k (by simpa using hj') (by simpa using hk) hjk
  rw [List.getElem_map, List.getElem_map] at this
  omega
end
end Go.Proofs.Ytdaklohfecinjaa

/- Both arenas side by side: each call of both. -/
namespace Go.Proofs.Ytdaklohfecinjaa
open Go.RowKit
set_option linter.unusedSimpArgs false
set_option linter.unusedVariables false

/-- Calls that lie in boxes stay. -/
def St (w w' : World) : Prop := ∀ (k : Nat) (c : Array Value) (f : Nat × Nat), w.heap[k]? = some (.cells c 34 f) → w'.heap[k]? = some (.cells c 34 f)
theorem St.refl (w : World) : St w w := fun _ _ _ h => h
theorem St.trans {a b c : World} (h : St a b) (h' : St b c) : St a c := fun k x f e => h' k x f (h k x f e)
theorem St.no {w w' : World} (h : Kept No w w') : St w w' := fun k c f e => h.heap e id
theorem not_cells {w : World} {k : Nat} {c c' : Array Value} {t t' : TypeId} {f f' : Nat × Nat} (h : w.heap[k]? = some (.cells c t f)) (h' : w.heap[k]? = some (.cells c' t' f')) : t = t' := by
  rw [h] at h'
  injection h' with h'
  injection h' with _ h'

/-- The parts of both arenas. -/
structure Pt (w0 w : World) (A C M F f size least n : Nat) (cs : List Int) (hb : List (Nat × Nd)) (T : Nat) (v : Value) (K : List Bk) : Prop where
  rp : Rp w A C M F f size least n cs hb
  rt : Rt w w0.heap.size T size v K
  fp : ∀ k, FP A C M F hb k → w0.heap.size ≤ k
  kp : Kept No w0 w
  cd : C ∉ K.map Bk.d
  hh : ∀ x ∈ hb, x.1 ≤ 70000
/-- Both arenas have the same blocks. -/
def DS (w0 w : World) (A T size n : Nat) : Prop := ∃ C M F f least cs hb v K, Pt w0 w A C M F f size least n cs hb T v K ∧ Cor cs hb K

theorem fp_ty {w : World} {A C M F f size least n : Nat} {cs : List Int} {hb : List (Nat × Nd)} (h : Rp w A C M F f size least n cs hb) {k : Nat} (hk : FP A C M F hb k) {c : Array Value} {t : TypeId} {fz : Nat × Nat} (he : w.heap[k]? = some (.cells c t fz)) : t = 64 ∨ t = 61 ∨ (t = 2 ∧ k = C) := by
  rcases hk with rfl | rfl | rfl | hk
  · exact .inl (not_cells he h.hA)
  · exact .inr (.inr ⟨not_cells he h.hC, rfl⟩)
  · exact absurd rfl (h.map.not_cells he)
  · obtain ⟨x, hx, rfl⟩ := List.mem_map.1 hk
    obtain ⟨i, hi, rfl⟩ := List.getElem_of_mem hx
    obtain ⟨ah, hx⟩ := h.seg.at hi
    exact .inr (.inl (not_cells he hx))
theorem rf_ty {w : World} {B T size : Nat} {v : Value} {K : List Bk} (h : Rt w B T size v K) {k : Nat} (hk : RF T v K k) : ∃ c t fz, w.heap[k]? = some (.cells c t fz) ∧ (t = 67 ∨ t = 77 ∨ (t = 2 ∧ k ∈ K.map Bk.d)) := by
  rcases hk with rfl | hk | hk
  · exact ⟨_, _, _, h.hT, .inl rfl⟩
  · obtain ⟨c, hc⟩ := h.row.ty hk
    exact ⟨_, _, _, hc, .inr (.inl rfl)⟩
  · obtain ⟨b, hb, e⟩ := List.mem_map.1 hk
    have := (h.dat b hb).1
    rw [e] at this
    exact ⟨_, _, _, this, .inr (.inr ⟨rfl, hk⟩)⟩

section
variable {w0 w w' : World} {A C M F f size least n T : Nat} {cs : List Int} {hb : List (Nat × Nd)} {v : Value} {K : List Bk}
theorem Pt.apart (h : Pt w0 w A C M F f size least n cs hb T v K) {k : Nat} (h1 : FP A C M F hb k) (h2 : RF T v K k) : False := by
  obtain ⟨c, t, fz, he, ht⟩ := rf_ty h.rt h2
  have := fp_ty h.rp h1 he
  rcases ht with rfl | rfl | ⟨rfl, hm⟩
  · rcases this with e | e | ⟨e, _⟩ <;> exact absurd e (by decide)
  · rcases this with e | e | ⟨e, _⟩ <;> exact absurd e (by decide)
  · rcases this with e | e | ⟨_, e⟩
    · exact absurd e (by decide)
    · exact absurd e (by decide)
    · subst e; exact h.cd hm
theorem Pt.no (h : Pt w0 w A C M F f size least n cs hb T v K) (hk : Kept No w w') : Pt w0 w' A C M F f size least n cs hb T v K :=
  ⟨h.rp.no hk, h.rt.no hk, h.fp, h.kp.trans hk, h.cd, h.hh⟩
theorem Pt.mono {n' : Nat} (h : Pt w0 w A C M F f size least n cs hb T v K) (hn : n ≤ n') : Pt w0 w A C M F f size least n' cs hb T v K :=
  ⟨{ h.rp with map := h.rp.map.mono hn }, h.rt, h.fp, h.kp, h.cd, h.hh⟩
/-- The program has done something. -/
theorem Pt.prog (h : Pt w0 w A C M F f size least n cs hb T v K) {f' least' n' : Nat} {cs' : List Int} {hb' : List (Nat × Nd)} (hR : Rp w' A C M F f' size least' n' cs' hb') (hk : Kept (FP A C M F hb) w w')
    (hf : ∀ j, FP A C M F hb' j → FP A C M F hb j ∨ w.heap.size ≤ j) (hh : ∀ x ∈ hb', x.1 ≤ 70000) : Pt w0 w' A C M F f' size least' n' cs' hb' T v K ∧ St w w' := by
  refine ⟨⟨hR, h.rt.kept hk (fun k a b => h.apart b a), fun j e => ?_, h.kp.trans' hk (fun i e => .inr (h.fp i e)), h.cd, hh⟩, fun k c fz e => hk.heap e (fun e2 => ?_)⟩
  · rcases hf j e with e | e
    · exact h.fp j e
    · have := h.kp.size; omega
  · rcases fp_ty h.rp e2 e with e | e | ⟨e, _⟩ <;> exact absurd e (by decide)
/-- The document has. -/
theorem Pt.doc (h : Pt w0 w A C M F f size least n cs hb T v K) {v' : Value} {K' : List Bk} (hT : Rt w' w0.heap.size T size v' K') (hk : Kept (RF T v K) w w')
    (hd : ∀ b ∈ K', b.d ∈ K.map Bk.d ∨ w.heap.size ≤ b.d) : Pt w0 w' A C M F f size least n cs hb T v' K' ∧ St w w' := by
  refine ⟨⟨h.rp.kept hk (fun k a b => h.apart a b), hT, h.fp, h.kp.trans' hk (fun i e => .inr (h.rt.lt e).1), fun e => ?_, h.hh⟩, fun k c fz e => hk.heap e (fun e2 => ?_)⟩
  · obtain ⟨b, hb', e⟩ := List.mem_map.1 e
    rcases hd b hb' with e2 | e2
    · exact h.cd (by rw [← e]; exact e2)
    · have := hp_lt h.rp.hC; omega
  · obtain ⟨c', t, f', he, ht⟩ := rf_ty h.rt e2
    have := not_cells e he
    rcases ht with rfl | rfl | ⟨rfl, _⟩ <;> exact absurd this (by decide)
theorem Pt.inn (h : Pt w0 w A C M F f size least n cs hb T v K) : ∀ x ∈ hb, x.2.a + x.2.s ≤ cs.length := fun x hx => h.rp.in hx
theorem Pt.szB (h : Pt w0 w A C M F f size least n cs hb T v K) : w0.heap.size ≤ w.heap.size := h.kp.size
end

theorem DS.no {w0 w w' : World} {A T size n : Nat} (h : DS w0 w A T size n) (hk : Kept No w w') : DS w0 w' A T size n := by
  obtain ⟨C, M, F, f, least, cs, hb, v, K, h1, h2⟩ := h
  exact ⟨C, M, F, f, least, cs, hb, v, K, h1.no hk, h2⟩
theorem DS.mono {w0 w : World} {A T size n n' : Nat} (h : DS w0 w A T size n) (hn : n ≤ n') : DS w0 w A T size n' := by
  obtain ⟨C, M, F, f, least, cs, hb, v, K, h1, h2⟩ := h
  exact ⟨C, M, F, f, least, cs, hb, v, K, h1.mono hn, h2⟩
theorem DS.since {w0 w : World} {A T size n : Nat} (h : DS w0 w A T size n) : Kept No w0 w := by
  obtain ⟨C, M, F, f, least, cs, hb, v, K, h1, h2⟩ := h
  exact h1.kp

theorem gap_room {cs : List Int} {hb : List (Nat × Nd)} {K : List Bk} (hc : Cor cs hb K) (hin : ∀ x ∈ hb, x.2.a + x.2.s ≤ cs.length) {F size k : Nat} {m : Nat} (hk : k < (nodes F hb).length) (hg : (m : Int) ≤ gap (nodes F hb) size k) (hl : ∀ i, i < k → gap (nodes F hb) size i < m) :
    PlaceIs K size (m : Int) (((nodes F hb)[k].a + (nodes F hb)[k].s : Nat) : Int) (k : Int) := by
  refine .inl ⟨k, ?_, ?_, fun j hj => ?_, ?_, rfl⟩
  · have : k < hb.length + 1 := by simpa [nodes] using hk
    rw [hc.len]; omega
  · rw [hc.gap hin F size hk]; exact hg
  · rw [hc.gap hin F size (by omega)]; exact hl j hj
  · rw [hc.en hin F hk]
theorem gap_full {cs : List Int} {hb : List (Nat × Nd)} {K : List Bk} (hc : Cor cs hb K) (hin : ∀ x ∈ hb, x.2.a + x.2.s ≤ cs.length) {F size : Nat} {m : Nat} (hl : ∀ i, i < (nodes F hb).length → gap (nodes F hb) size i < m) :
    PlaceIs K size (m : Int) (-1) 0 := by
  refine .inr ⟨fun k hk => ?_, rfl, rfl⟩
  have : k < (nodes F hb).length := by rw [hc.len] at hk; simp [nodes]; omega
  rw [hc.gap hin F size this]
  exact hl k this

theorem DS.alloc {w0 w : World} {A T size n : Nat} (h : DS w0 w A T size n) (hn : n ≤ 1000) (m : Int) :
    Calls Try.prog 27 #[.pointer (some ⟨A, 0, none⟩), .int .i64 m] w fun e w1 => ∃ h0 er : Int, e = .returned (.tuple #[.int .i64 h0, .int .i64 er]) ∧ St w w1 ∧
      Calls Try.prog 39 #[.pointer (some ⟨T, 0, none⟩), .int .i64 m] w1 fun e' w2 => e' = .returned (.tuple #[.int .i64 h0, .int .i64 er]) ∧ DS w0 w2 A T size (n + 1) ∧ St w1 w2 := by
  obtain ⟨C, M, F, f, least, cs, hb, v, K, hP, hc⟩ := h
  have hR := hP.rp
  cases hr : rl m with
  | false =>
    refine (Alloc_arg m w hR hr).mono ?_
    rintro e w' ⟨he, rfl⟩
    refine ⟨0, 1, he, St.refl _, (RAlloc_arg T m hr _).mono ?_⟩
    rintro e w' ⟨he, rfl⟩
    exact ⟨he, ⟨C, M, F, f, least, cs, hb, v, K, hP.mono (by omega), hc⟩, St.refl _⟩
  | true =>
    obtain ⟨m, rfl⟩ := rl_nat hr
    have hm := rl_true hr
    rcases first_room (nodes F hb) size m (nodes F hb).length with ⟨k, h1, h2, h3⟩ | h1
    · refine (Alloc_room w hR hr (by omega) h1 h2 h3).mono ?_
      rintro e w1 ⟨h0, b, f', he, i1, i2, i3, hb0, hR', hk1⟩
      have hh0 : h0 ≤ 70000 := by
        obtain ⟨N, n1, n2, n3⟩ := free_handle hb 1
        have := hR.length_le
        have := hR.sz
        by_cases e : N < h0
        · exact absurd n3 (i3 N n1 e)
        · omega
      have hfp : ∀ j, FP A C M F (ins hb k (h0, ⟨b, (nodes F hb)[k].a + (nodes F hb)[k].s, m⟩)) j → FP A C M F hb j ∨ w.heap.size ≤ j := fun j e => by
        rcases fp_ins h1 e with e | e
        · exact .inl e
        · dsimp only at e; exact .inr (by omega)
      obtain ⟨hP1, hs1⟩ := hP.prog hR' hk1 hfp (fun x hx => by
        rcases ins_mem.1 hx with rfl | hx
        · exact hh0
        · exact hP.hh x hx)
      refine ⟨(h0 : Int), 0, he, hs1, (RAlloc_room hP1.rt (hR.bdK hc) hR.sz hP1.szB hr (by have : k < hb.length + 1 := (by simpa [nodes] using h1); rw [hc.len]; omega) (gap_room hc hP.inn h1 h2 h3) i1 (by omega) (hc.none i2) (fun i q1 q2 => ?_)).mono ?_⟩
      · obtain ⟨p, hp⟩ := Option.ne_none_iff_exists'.1 (i3 i q1 q2)
        obtain ⟨kk, hkk, e⟩ := look_at hp
        rw [← e, hc.some hR.hnd hkk]; omega
      · rintro e w2 ⟨he2, ⟨v', d, hT, hd⟩, hk2⟩
        obtain ⟨hP2, hs2⟩ := hP1.doc hT hk2 (fun c hcm => by
          rcases put_mem hcm with rfl | hcm
          · exact .inr hd
          · exact .inl (List.mem_map_of_mem hcm))
        refine ⟨he2, ⟨C, M, F, f', h0, _, _, v', _, hP2, ?_⟩, hs2⟩
        have hlen' := hR'.len
        have hnew := hR'.in (x := (h0, ⟨b, (nodes F hb)[k].a + (nodes F hb)[k].s, m⟩)) (ins_mem.2 (.inl rfl))
        rw [hlen'] at hnew
        dsimp only at hnew
        have hcs := hR.len
        have hc' : Cor (putL cs ((nodes F hb)[k].a + (nodes F hb)[k].s) (List.replicate m 0)) hb K := hc.cells (fun x hx => by
          have hap := hR'.apart (ins_mem.2 (.inr hx)) (ins_mem.2 (.inl rfl)) (show x.1 ≠ h0 from fun e => by
            have := look_none.1 i2 x hx; omega)
          dsimp only at hap
          refine data_same (hR.in hx) (by have := hR.in hx; omega) (fun j hj => putL_out (by simp; omega) (by simp; omega)))
        refine (hc'.take k).app ((hc'.drop k).cons rfl rfl ?_)
        symm
        refine data_is (by dsimp only; omega) (by simp) (fun j hj => ?_)
        dsimp only at hj ⊢
        rw [putL_getD _ _ _ (by simp; omega), if_pos (by simp; omega), show (nodes F hb)[k].a + (nodes F hb)[k].s + j - ((nodes F hb)[k].a + (nodes F hb)[k].s) = j by omega]
    · refine (Alloc_full w hR hr h1).mono ?_
      rintro e w1 ⟨he, ⟨f', hR'⟩, hk1⟩
      obtain ⟨hP1, hs1⟩ := hP.prog hR' (hk1.mono (fun j e => .inl e)) (fun j e => .inl e) hP.hh
      refine ⟨0, 8, he, hs1, (RAlloc_full hP1.rt (hR.bdK hc) hR.sz hr (gap_full hc hP.inn h1)).mono ?_⟩
      rintro e w2 ⟨he2, hk2⟩
      exact ⟨he2, ⟨C, M, F, f', least, cs, hb, v, K, (hP1.no hk2).mono (by omega), hc⟩, St.no hk2⟩

theorem DS.free {w0 w : World} {A T size n : Nat} (h : DS w0 w A T size n) (i : Int) (hw : wf i) :
    Calls Try.prog 35 #[.pointer (some ⟨A, 0, none⟩), .int .i64 i] w fun e w1 => ∃ er : Int, e = .returned (.int .i64 er) ∧ St w w1 ∧
      Calls Try.prog 40 #[.pointer (some ⟨T, 0, none⟩), .int .i64 i] w1 fun e' w2 => e' = .returned (.int .i64 er) ∧ DS w0 w2 A T size (n + 1) ∧ St w1 w2 := by
  obtain ⟨C, M, F, f, least, cs, hb, v, K, hP, hc⟩ := h
  have hR := hP.rp
  cases hl : look hb i with
  | none =>
    refine (Free_none i hw w hR hl).mono ?_
    rintro e w' ⟨he, rfl⟩
    refine ⟨5, he, St.refl _, (RFree_none hP.rt (hR.bdK hc) i (hc.none hl)).mono ?_⟩
    rintro e w' ⟨he, rfl⟩
    exact ⟨he, ⟨C, M, F, f, least, cs, hb, v, K, hP.mono (by omega), hc⟩, St.refl _⟩
  | some p =>
    obtain ⟨k, hk, rfl⟩ := look_at hl
    obtain ⟨hkK, _⟩ := hc.at hk
    refine (Free_some w hR hk hw).mono ?_
    rintro e w1 ⟨he, ⟨f', hR'⟩, hk1⟩
    obtain ⟨hP1, hs1⟩ := hP.prog hR' hk1 (fun j e => .inl (fp_sub (fun x hx => ⟨x, rem_mem hx, rfl⟩) e)) (fun x hx => hP.hh x (rem_mem hx))
    refine ⟨0, he, hs1, (RFree_some hP1.rt (hR.bdK hc) hP1.szB _ hkK (hc.some hR.hnd hk)).mono ?_⟩
    rintro e w2 ⟨he2, ⟨v', hT⟩, hk2⟩
    obtain ⟨hP2, hs2⟩ := hP1.doc hT hk2 (fun b hb => .inl (List.mem_map_of_mem (cut_mem hb)))
    exact ⟨he2, ⟨C, M, F, f', _, cs, _, v', _, hP2.mono (by omega), (hc.take k).app (hc.drop (k + 1))⟩, hs2⟩

theorem DS.store {w0 w : World} {A T size n : Nat} (h : DS w0 w A T size n) (i j y : Int) (hw : wf i) :
    Calls Try.prog 28 #[.pointer (some ⟨A, 0, none⟩), .int .i64 i, .int .i64 j, .int .i64 y] w fun e w1 => ∃ er : Int, e = .returned (.int .i64 er) ∧ St w w1 ∧
      Calls Try.prog 42 #[.pointer (some ⟨T, 0, none⟩), .int .i64 i, .int .i64 j, .int .i64 y] w1 fun e' w2 => e' = .returned (.int .i64 er) ∧ DS w0 w2 A T size (n + 1) ∧ St w1 w2 := by
  obtain ⟨C, M, F, f, least, cs, hb, v, K, hP, hc⟩ := h
  have hR := hP.rp
  cases hl : look hb i with
  | none =>
    refine (Store_none i j y hw w hR hl).mono ?_
    rintro e w' ⟨he, rfl⟩
    refine ⟨5, he, St.refl _, (RStore_none hP.rt (hR.bdK hc) i j y (hc.none hl)).mono ?_⟩
    rintro e w' ⟨he, rfl⟩
    exact ⟨he, ⟨C, M, F, f, least, cs, hb, v, K, hP.mono (by omega), hc⟩, St.refl _⟩
  | some p =>
    obtain ⟨k, hk, rfl⟩ := look_at hl
    obtain ⟨hkK, e1, e2, e3⟩ := hc.at hk
    have hxl := hc.xs hP.inn hk hkK
    by_cases hj : 0 ≤ j ∧ j < (hb[k].2.s : Int)
    · obtain ⟨j, rfl⟩ : ∃ j' : Nat, j = j' := ⟨j.toNat, by omega⟩
      have hjs : j < hb[k].2.s := by omega
      refine (Store_some (List.getElem_mem hk) hw j y hjs w hR).mono ?_
      rintro e w1 ⟨he, hR', hk1⟩
      obtain ⟨hP1, hs1⟩ := hP.prog hR' (hk1.mono (fun q e => .inr (.inl e))) (fun j e => .inl e) hP.hh
      refine ⟨0, he, hs1, (RStore_some hP1.rt (hR.bdK hc) _ y j hkK (hc.some hR.hnd hk) (by omega)).mono ?_⟩
      rintro e w2 ⟨he2, hT, hk2⟩
      obtain ⟨hP2, hs2⟩ := hP1.doc hT hk2 (fun b hb => .inl (by rw [← setX_d K k j y]; exact List.mem_map_of_mem hb))
      refine ⟨he2, ⟨C, M, F, f, least, _, hb, v, _, hP2.mono (by omega), cor_of (by rw [setX_len, hc.len]) (fun q hq hqK => ?_)⟩, hs2⟩
      obtain ⟨hqK', g1, g2, g3⟩ := hc.at hq
      rw [setX_get hqK']
      have hlen' := hR'.len
      have hcs := hR.len
      have hinq := hR.in (List.getElem_mem hq)
      have hink := hR.in (List.getElem_mem hk)
      have hpl : hb[k].2.a + j + [y].length ≤ cs.length := by simp; omega
      by_cases e : k = q
      · subst e
        rw [if_pos rfl]
        refine ⟨g1, g2, ?_⟩
        symm
        refine data_is (by omega) (by dsimp only; rw [List.length_set, g3, data_len hink]) (fun t ht => ?_)
        dsimp only
        rw [putL_getD _ _ _ hpl, g3]
        simp only [List.getD_eq_getElem?_getD]
        have hdl := data_len hink
        by_cases et : t = j
        · subst et
          rw [if_pos (by simp), List.getElem?_set_self (by omega)]
          simp
        · rw [if_neg (by simp; omega), List.getElem?_set_ne (Ne.symm et)]
          have := data_getD (cs := cs) (x := hb[k].2) (j := t) hink ht
          simp only [List.getD_eq_getElem?_getD] at this
          rw [this]
      · rw [if_neg e]
        refine ⟨g1, g2, ?_⟩
        rw [g3]
        have hap := hR.apart (List.getElem_mem hk) (List.getElem_mem hq) (fun e9 => by
          have := List.pairwise_iff_getElem.1 (List.nodup_iff_pairwise_ne.1 hR.hnd)
          rcases Nat.lt_or_gt_of_ne e with h | h
          · have := this k q (by simpa using hk) (by simpa using hq) h
            rw [List.getElem_map, List.getElem_map] at this
            exact this e9
          · have := this q k (by simpa using hq) (by simpa using hk) h
            rw [List.getElem_map, List.getElem_map] at this
            exact this e9.symm)
        symm
        exact data_same hinq (by omega) (fun t ht => putL_out hpl (by simp; omega))
    · refine (Store_arg (List.getElem_mem hk) hw j y (by simp; omega) w hR).mono ?_
      rintro e w' ⟨he, rfl⟩
      refine ⟨1, he, St.refl _, (RStore_arg hP.rt (hR.bdK hc) _ j y hkK (hc.some hR.hnd hk) (by rw [hxl]; omega)).mono ?_⟩
      rintro e w' ⟨he, rfl⟩
      exact ⟨he, ⟨C, M, F, f, least, cs, hb, v, K, hP.mono (by omega), hc⟩, St.refl _⟩

theorem DS.load {w0 w : World} {A T size n : Nat} (h : DS w0 w A T size n) (i j : Int) (hw : wf i) :
    Calls Try.prog 30 #[.pointer (some ⟨A, 0, none⟩), .int .i64 i, .int .i64 j] w fun e w1 => ∃ y er : Int, e = .returned (.tuple #[.int .i64 y, .int .i64 er]) ∧ St w w1 ∧
      Calls Try.prog 43 #[.pointer (some ⟨T, 0, none⟩), .int .i64 i, .int .i64 j] w1 fun e' w2 => e' = .returned (.tuple #[.int .i64 y, .int .i64 er]) ∧ DS w0 w2 A T size (n + 1) ∧ St w1 w2 := by
  obtain ⟨C, M, F, f, least, cs, hb, v, K, hP, hc⟩ := h
  have hR := hP.rp
  cases hl : look hb i with
  | none =>
    refine (Load_none i j hw w hR hl).mono ?_
    rintro e w' ⟨he, rfl⟩
    refine ⟨0, 5, he, St.refl _, (RLoad_none hP.rt (hR.bdK hc) i j (hc.none hl)).mono ?_⟩
    rintro e w' ⟨he, rfl⟩
    exact ⟨he, ⟨C, M, F, f, least, cs, hb, v, K, hP.mono (by omega), hc⟩, St.refl _⟩
  | some p =>
    obtain ⟨k, hk, rfl⟩ := look_at hl
    obtain ⟨hkK, e1, e2, e3⟩ := hc.at hk
    have hxl := hc.xs hP.inn hk hkK
    by_cases hj : 0 ≤ j ∧ j < (hb[k].2.s : Int)
    · obtain ⟨j, rfl⟩ : ∃ j' : Nat, j = j' := ⟨j.toNat, by omega⟩
      refine (Load_some (List.getElem_mem hk) hw j (by omega) w hR).mono ?_
      rintro e w1 ⟨he, hk1⟩
      have hP1 := hP.no hk1
      refine ⟨_, 0, he, St.no hk1, (RLoad_some hP1.rt (hR.bdK hc) _ j hkK (hc.some hR.hnd hk) (by omega)).mono ?_⟩
      rintro e w2 ⟨he2, rfl⟩
      refine ⟨?_, ⟨C, M, F, f, least, cs, hb, v, K, hP1.mono (by omega), hc⟩, St.refl _⟩
      rw [he2, e3, data_getD (hR.in (List.getElem_mem hk)) (by omega)]
    · refine (Load_arg (List.getElem_mem hk) hw j (by simp; omega) w hR).mono ?_
      rintro e w' ⟨he, rfl⟩
      refine ⟨0, 1, he, St.refl _, (RLoad_arg hP.rt (hR.bdK hc) _ j hkK (hc.some hR.hnd hk) (by rw [hxl]; omega)).mono ?_⟩
      rintro e w' ⟨he, rfl⟩
      exact ⟨he, ⟨C, M, F, f, least, cs, hb, v, K, hP.mono (by omega), hc⟩, St.refl _⟩
end Go.Proofs.Ytdaklohfecinjaa

/- Both arenas side by side: Resize, Compact, Extend. -/
namespace Go.Proofs.Ytdaklohfecinjaa
open Go.RowKit
set_option linter.unusedSimpArgs false
set_option linter.unusedVariables false

theorem Cor.rem {cs : List Int} {hb : List (Nat × Nd)} {K : List Bk} (hc : Cor cs hb K) (k : Nat) : Cor cs (rem hb k) (K.take k ++ K.drop (k + 1)) := (hc.take k).app (hc.drop (k + 1))
theorem hnd_ne {hb : List (Nat × Nd)} (hn : (hb.map Prod.fst).Nodup) {k : Nat} (hk : k < hb.length) {x : Nat × Nd} (hx : x ∈ rem hb k) : x.1 ≠ hb[k].1 := by
  have hp := rem_perm hk
  have := ((hp.map Prod.fst).nodup_iff.1 hn)
  rw [List.map_cons, List.nodup_cons] at this
  intro e
  exact this.1 (by rw [← e]; exact List.mem_map_of_mem hx)
theorem rsz_getD {xs : List Int} {n j : Nat} (hj : j < n) : (rsz xs n (min n xs.length)).getD j 0 = if j < xs.length then xs.getD j 0 else 0 := by
  unfold rsz
  simp only [List.getD_eq_getElem?_getD]
  by_cases h : j < xs.length
  · rw [if_pos h, List.getElem?_append_left (by rw [List.length_take]; omega), List.getElem?_take_of_lt (by omega)]
  · rw [if_neg h, List.getElem?_append_right (by rw [List.length_take]; omega), List.getElem?_replicate]
    split <;> rfl

theorem DS.resize {w0 w : World} {A T size n : Nat} (h : DS w0 w A T size n) (i m : Int) (hw : wf i) :
    Calls Try.prog 34 #[.pointer (some ⟨A, 0, none⟩), .int .i64 i, .int .i64 m] w fun e w1 => ∃ er : Int, e = .returned (.int .i64 er) ∧ St w w1 ∧
      Calls Try.prog 41 #[.pointer (some ⟨T, 0, none⟩), .int .i64 i, .int .i64 m] w1 fun e' w2 => e' = .returned (.int .i64 er) ∧ DS w0 w2 A T size (n + 1) ∧ St w1 w2 := by
  obtain ⟨C, M, F, f, least, cs, hb, v, K, hP, hc⟩ := h
  have hR := hP.rp
  cases hl : look hb i with
  | none =>
    refine (Resize_none i m hw w hR hl).mono ?_
    rintro e w' ⟨he, rfl⟩
    refine ⟨5, he, St.refl _, (RResize_none hP.rt (hR.bdK hc) i m (hc.none hl)).mono ?_⟩
    rintro e w' ⟨he, rfl⟩
    exact ⟨he, ⟨C, M, F, f, least, cs, hb, v, K, hP.mono (by omega), hc⟩, St.refl _⟩
  | some p =>
    obtain ⟨k, hk, rfl⟩ := look_at hl
    obtain ⟨hkK, e1, e2, e3⟩ := hc.at hk
    have hxl := hc.xs hP.inn hk hkK
    cases hr : rl m with
    | false =>
      refine (Resize_arg (List.getElem_mem hk) hw m hr w hR).mono ?_
      rintro e w' ⟨he, rfl⟩
      refine ⟨1, he, St.refl _, (RResize_arg hP.rt (hR.bdK hc) _ m hkK (hc.some hR.hnd hk) hr).mono ?_⟩
      rintro e w' ⟨he, rfl⟩
      exact ⟨he, ⟨C, M, F, f, least, cs, hb, v, K, hP.mono (by omega), hc⟩, St.refl _⟩
    | true =>
      obtain ⟨m, rfl⟩ := rl_nat hr
      have hcr := hc.rem k
      have hinr : ∀ x ∈ rem hb k, x.2.a + x.2.s ≤ cs.length := fun x hx => hP.inn x (rem_mem hx)
      refine (Resize_some w hR hk hw hr).mono ?_
      rintro e w1 ⟨⟨he, hfull, f', hR'⟩ | ⟨he, k', hk', hg, hlow, f', hR'⟩, hk1⟩
      · obtain ⟨hP1, hs1⟩ := hP.prog hR' hk1 (fun j e => .inl e) hP.hh
        refine ⟨8, he, hs1, (RResize_full hP1.rt (hR.bdK hc) hR.sz _ hkK (hc.some hR.hnd hk) hr (gap_full hcr hinr hfull)).mono ?_⟩
        rintro e w2 ⟨he2, hk2⟩
        exact ⟨he2, ⟨C, M, F, f', least, cs, hb, v, K, (hP1.no hk2).mono (by omega), hc⟩, St.no hk2⟩
      · obtain ⟨hP1, hs1⟩ := hP.prog hR' hk1 (fun j e => .inl (fp_sub (fun x hx => by
          rcases ins_mem.1 hx with rfl | hx
          · exact ⟨hb[k], List.getElem_mem hk, rfl⟩
          · exact ⟨x, rem_mem hx, rfl⟩) e)) (fun x hx => by
          rcases ins_mem.1 hx with rfl | hx
          · exact hP.hh hb[k] (List.getElem_mem hk)
          · exact hP.hh x (rem_mem hx))
        have hk'R : k' ≤ (K.take k ++ K.drop (k + 1)).length := by
          have : k' < (rem hb k).length + 1 := by simpa [nodes] using hk'
          rw [hcr.len]; omega
        have hfd : fdI K (K[k].h : Int) = k := by rw [e1]; exact hc.some hR.hnd hk
        have hcall := RResize_room hP1.rt (hR.bdK hc) hR.sz hP1.szB hkK hfd hr hk'R (gap_room hcr hinr hk' hg hlow)
        rw [e1] at hcall
        refine ⟨0, he, hs1, hcall.mono ?_⟩
        rintro e w2 ⟨he2, ⟨v', d, hT, hd⟩, hk2⟩
        obtain ⟨hP2, hs2⟩ := hP1.doc hT hk2 (fun c hcm => by
          rcases put_mem hcm with rfl | hcm
          · exact .inr hd
          · exact .inl (List.mem_map_of_mem (cut_mem hcm)))
        refine ⟨he2, ⟨C, M, F, f', least, _, _, v', _, hP2.mono (by omega), ?_⟩, hs2⟩
        have hlen' := hR'.len
        have hcs := hR.len
        have hnew := hR'.in (x := (hb[k].1, ⟨hb[k].2.p, (nodes F (rem hb k))[k'].a + (nodes F (rem hb k))[k'].s, m⟩)) (ins_mem.2 (.inl rfl))
        rw [hlen'] at hnew
        dsimp only at hnew
        have hink := hR.in (List.getElem_mem hk)
        have hc' : Cor (layC cs hb[k].2.a (min m hb[k].2.s) ((nodes F (rem hb k))[k'].a + (nodes F (rem hb k))[k'].s) m) (rem hb k) (K.take k ++ K.drop (k + 1)) := hcr.cells (fun x hx => by
          have hap := hR'.apart (ins_mem.2 (.inr hx)) (ins_mem.2 (.inl rfl)) (hnd_ne hR.hnd hk hx)
          dsimp only at hap
          refine data_same (hinr x hx) (by have := hinr x hx; omega) (fun j hj => layC_out (by omega) (by omega) (by omega) (by omega)))
        refine (hc'.take k').app ((hc'.drop k').cons rfl rfl ?_)
        symm
        refine data_is (by dsimp only; omega) (by dsimp only; exact rsz_len (by omega) (by omega)) (fun j hj => ?_)
        dsimp only at hj ⊢
        rw [layC_getD _ _ _ _ _ _ (by omega) (by omega) hj, rsz_getD hj, hxl]
        by_cases hjs : j < hb[k].2.s
        · rw [if_pos hjs, if_pos hjs, e3, data_getD hink hjs]
        · rw [if_neg hjs, if_neg hjs]

/-- Blocks that were moved together. -/
theorem cmpH_get : ∀ (o : Nat) (hb : List (Nat × Nd)) (i : Nat) (hi : i < hb.length), (cmpH o hb)[i]? = some (hb[i].1, ⟨hb[i].2.p, o + sumS ((hb.map Prod.snd).take i), hb[i].2.s⟩)
  | o, x :: r, 0, _ => by simp [cmpH, sumS]
  | o, x :: r, i + 1, hi => by
    have := cmpH_get (o + x.2.s) r i (by simpa using hi)
    simp only [cmpH, List.getElem?_cons_succ, this, List.getElem_cons_succ, List.map_cons, List.take_succ_cons, sumS_cons]
    rw [Nat.add_assoc]
theorem cmpH_len : ∀ (o : Nat) (hb : List (Nat × Nd)), (cmpH o hb).length = hb.length
  | _, [] => rfl
  | o, x :: r => by simp [cmpH, cmpH_len (o + x.2.s) r]
theorem cmpB_get : ∀ (o : Nat) (K : List Bk) (i : Nat) (hi : i < K.length), (cmpB o K)[i]? = some ⟨K[i].h, o + sumL (K.take i), K[i].d, K[i].xs⟩
  | o, b :: r, 0, _ => by simp [cmpB, sumL]
  | o, b :: r, i + 1, hi => by
    have := cmpB_get (o + b.xs.length) r i (by simpa using hi)
    have e : sumL ((b :: r).take (i + 1)) = b.xs.length + sumL (r.take i) := by simp [sumL]
    rw [e, ← Nat.add_assoc]
    simpa [cmpB] using this
/-- What lies in blocks that were moved together. -/
theorem Cor.cmp {cs : List Int} {F size : Nat} {hb : List (Nat × Nd)} {K : List Bk} (hc : Cor cs hb K) (hg : Geo size 0 (nodes F hb)) (hl : cs.length = size) : Cor (cc cs (nodes F hb) (nodes F hb).length) (cmpH 0 hb) (cmpB 0 K) := by
  have hin : ∀ x ∈ hb, x.2.a + x.2.s ≤ cs.length := fun x hx => by rw [hl]; exact hg.bd _ (List.mem_cons_of_mem _ (List.mem_map_of_mem hx))
  refine cor_of (by rw [cmpB_length, cmpH_len, hc.len]) (fun i hi hk => ?_)
  have hi' : i < hb.length := by rw [cmpH_len] at hi; exact hi
  obtain ⟨hk', e1, e2, e3⟩ := hc.at hi'
  have h1 := cmpH_get 0 hb i hi'
  have h2 := cmpB_get 0 K i hk'
  rw [List.getElem?_eq_getElem hi] at h1
  rw [List.getElem?_eq_getElem hk] at h2
  rw [Option.some.inj h1, Option.some.inj h2]
  dsimp only
  have hs : sumL (K.take i) = sumS ((nodes F hb).take (i + 1)) := sumL_sumS (fun i hi hk => hc.xs hin hi hk) hc.len F i
  have hs1 : sumS ((nodes F hb).take (i + 1)) = sumS ((hb.map Prod.snd).take i) := by simp [nodes, sumS]
  refine ⟨e1, by rw [hs, hs1], ?_⟩
  have hk1 : i + 1 < (nodes F hb).length := by simp [nodes]; omega
  have hd := cc_data hg hl (nodes F hb).length (Nat.le_refl _) (i + 1) hk1
  rw [if_pos hk1, nodes_at F hb hi', hs1] at hd
  rw [e3, Nat.zero_add, hd]

theorem DS.compact {w0 w : World} {A T size n : Nat} (h : DS w0 w A T size n) :
    Calls Try.prog 31 #[.pointer (some ⟨A, 0, none⟩)] w fun e w1 => ∃ er : Int, e = .returned (.int .i64 er) ∧ St w w1 ∧
      Calls Try.prog 44 #[.pointer (some ⟨T, 0, none⟩)] w1 fun e' w2 => e' = .returned (.int .i64 er) ∧ DS w0 w2 A T size (n + 1) ∧ St w1 w2 := by
  obtain ⟨C, M, F, f, least, cs, hb, v, K, hP, hc⟩ := h
  have hR := hP.rp
  refine (Compact_rp w hR).mono ?_
  rintro e w1 ⟨he, hR', hk1⟩
  obtain ⟨hP1, hs1⟩ := hP.prog hR' hk1 (fun j e => .inl (fp_sub (fun x hx => by
    obtain ⟨y, hy, _, e2, _⟩ := cmpH_mem hx
    exact ⟨y, hy, e2⟩) e)) (fun x hx => by
    obtain ⟨y, hy, e1, _, _⟩ := cmpH_mem hx
    rw [e1]; exact hP.hh y hy)
  refine ⟨_, he, hs1, (RCompact_any hP1.rt (hR.bdK hc)).mono ?_⟩
  rintro e w2 ⟨he2, hT, hk2⟩
  obtain ⟨hP2, hs2⟩ := hP1.doc hT hk2 (fun b hb => .inl (by rw [← cmpB_d 0 K]; exact List.mem_map_of_mem hb))
  exact ⟨by rw [he2, hc.mvs hP.inn F], ⟨C, M, F, f, least, _, _, v, _, hP2.mono (by omega), hc.cmp hR.geo hR.len⟩, hs2⟩

theorem DS.extend {w0 w : World} {A T size n : Nat} (h : DS w0 w A T size n) (i m : Int) (hw : wf i) :
    Calls Try.prog 36 #[.pointer (some ⟨A, 0, none⟩), .int .i64 i, .int .i64 m] w fun e w1 => ∃ er : Int, e = .returned (.int .i64 er) ∧ St w w1 ∧
      Calls Try.prog 45 #[.pointer (some ⟨T, 0, none⟩), .int .i64 i, .int .i64 m] w1 fun e' w2 => e' = .returned (.int .i64 er) ∧ DS w0 w2 A T size (n + 1) ∧ St w1 w2 := by
  obtain ⟨C, M, F, f, least, cs, hb, v, K, hP, hc⟩ := h
  have hR := hP.rp
  cases hl : look hb i with
  | none =>
    refine (Extend_none i m hw w hR hl).mono ?_
    rintro e w' ⟨he, rfl⟩
    refine ⟨5, he, St.refl _, (RExtend_none hP.rt (hR.bdK hc) i m (hc.none hl)).mono ?_⟩
    rintro e w' ⟨he, rfl⟩
    exact ⟨he, ⟨C, M, F, f, least, cs, hb, v, K, hP.mono (by omega), hc⟩, St.refl _⟩
  | some p =>
    obtain ⟨k, hk, rfl⟩ := look_at hl
    obtain ⟨hkK, e1, e2, e3⟩ := hc.at hk
    have hxl := hc.xs hP.inn hk hkK
    cases hr : rl m with
    | false =>
      refine (Extend_arg (List.getElem_mem hk) hw m hr w hR).mono ?_
      rintro e w' ⟨he, rfl⟩
      refine ⟨1, he, St.refl _, (RExtend_arg hP.rt (hR.bdK hc) _ m hkK (hc.some hR.hnd hk) hr).mono ?_⟩
      rintro e w' ⟨he, rfl⟩
      exact ⟨he, ⟨C, M, F, f, least, cs, hb, v, K, hP.mono (by omega), hc⟩, St.refl _⟩
    | true =>
      obtain ⟨m, rfl⟩ := rl_nat hr
      have hm := rl_true hr
      have hcr := hc.rem k
      have hinr : ∀ x ∈ rem hb k, x.2.a + x.2.s ≤ cs.length := fun x hx => hP.inn x (rem_mem hx)
      have hsr := hcr.sum hinr F
      have hsk := sumL_cut hkK
      by_cases hf : sumS (nodes F (rem hb k)) + m ≤ size
      · refine (Extend_some w hR hk hw hr hf).mono ?_
        rintro e w1 ⟨he, ⟨f', hR'⟩, hk1⟩
        obtain ⟨hP1, hs1⟩ := hP.prog hR' hk1 (fun j e => .inl (fp_sub (fun x hx => by
          obtain ⟨y, hy, _, e2, _⟩ := cmpH_mem hx
          rcases List.mem_append.1 hy with hy | hy
          · exact ⟨y, rem_mem hy, e2⟩
          · rw [List.mem_singleton] at hy
            subst hy
            exact ⟨hb[k], List.getElem_mem hk, e2⟩) e)) (fun x hx => by
          obtain ⟨y, hy, e1, _, _⟩ := cmpH_mem hx
          rw [e1]
          rcases List.mem_append.1 hy with hy | hy
          · exact hP.hh y (rem_mem hy)
          · rw [List.mem_singleton] at hy
            subst hy
            exact hP.hh hb[k] (List.getElem_mem hk))
        have hfd : fdI K (K[k].h : Int) = k := by rw [e1]; exact hc.some hR.hnd hk
        have hcall := RExtend_room hP1.rt (hR.bdK hc) hR.sz hP1.szB hkK hfd hr (n := m) (by omega)
        rw [e1] at hcall
        refine ⟨0, he, hs1, hcall.mono ?_⟩
        rintro e w2 ⟨he2, ⟨v', d, hT, hd⟩, hk2⟩
        obtain ⟨hP2, hs2⟩ := hP1.doc hT hk2 (fun c hcm => by
          rcases List.mem_append.1 hcm with hcm | hcm
          · refine .inl ?_
            have : c.d ∈ (K.take k ++ K.drop (k + 1)).map Bk.d := by rw [← cmpB_d 0]; exact List.mem_map_of_mem hcm
            obtain ⟨y, hy, e⟩ := List.mem_map.1 this
            rw [← e]; exact List.mem_map_of_mem (cut_mem hy)
          · rw [List.mem_singleton] at hcm
            subst hcm
            exact .inr hd)
        refine ⟨he2, ⟨C, M, F, f', least, _, _, v', _, hP2.mono (by omega), ?_⟩, hs2⟩
        have hgr := geo_rem hR hk
        have hlay := lay_len hR hk hf
        have hcl := cc_length hgr hR.len (nodes F (rem hb k)).length
        have hink := hR.in (List.getElem_mem hk)
        have hcs := hR.len
        rw [cmpH_append]
        have hcm := hcr.cmp hgr hR.len
        refine Cor.app (hcm.cells (fun x hx => ?_)) ?_
        · obtain ⟨q, hq, rfl⟩ := List.getElem_of_mem hx
          have hq' : q < (rem hb k).length := by rw [cmpH_len] at hq; exact hq
          have h1 := cmpH_get 0 (rem hb k) q hq'
          rw [List.getElem?_eq_getElem hq] at h1
          have hle : (cmpH 0 (rem hb k))[q].2.a + (cmpH 0 (rem hb k))[q].2.s ≤ sumS (nodes F (rem hb k)) := by
            rw [Option.some.inj h1]
            dsimp only
            have hk1 : q + 1 < (nodes F (rem hb k)).length := by simp [nodes]; omega
            have h2 : sumS (nodes F (rem hb k)) = sumS ((nodes F (rem hb k)).take (q + 1)) + sumS ((nodes F (rem hb k)).drop (q + 1)) := by rw [← sumS_append, List.take_append_drop]
            have hs1 : sumS ((nodes F (rem hb k)).take (q + 1)) = sumS (((rem hb k).map Prod.snd).take q) := by simp [nodes, sumS]
            rw [List.drop_eq_getElem_cons hk1, sumS_cons, nodes_at F (rem hb k) hq', hs1] at h2
            omega
          refine data_same (by omega) (by have := hR'.len; omega) (fun j hj => ?_)
          unfold extC
          rw [putL_out (by simp [data]; omega) (by omega), layC_out (by omega) (by omega) (by omega) (by omega)]
        · have hown := (ext_own hR hk hf).2
          have e9 : 0 + sumS ((rem hb k).map Prod.snd) = sumS (nodes F (rem hb k)) := by simp [nodes, sumS]
          rw [e9]
          refine Cor.cons (show Cor _ [] [] from rfl) rfl hsr ?_
          symm
          refine data_is (by dsimp only; have := hR'.len; omega) (by dsimp only; exact rsz_len (by omega) (by omega)) (fun j hj => ?_)
          dsimp only at hj ⊢
          rw [hown j hj, rsz_getD hj, hxl]
          by_cases hjs : j < hb[k].2.s
          · rw [if_pos hjs, if_pos hjs, e3, data_getD hink hjs]
          · rw [if_neg hjs, if_neg hjs]
      · refine (Extend_full w hR hk hw hr (by omega)).mono ?_
        rintro e w1 ⟨he, hR', hk1⟩
        have hP1 := hP.no hk1
        refine ⟨8, he, St.no hk1, (RExtend_full hP1.rt (hR.bdK hc) hR.sz _ hkK (hc.some hR.hnd hk) hr (by omega)).mono ?_⟩
        rintro e w2 ⟨he2, hk2⟩
        exact ⟨he2, ⟨C, M, F, f, least, cs, hb, v, K, (hP1.no hk2).mono (by omega), hc⟩, St.no hk2⟩
end Go.Proofs.Ytdaklohfecinjaa
