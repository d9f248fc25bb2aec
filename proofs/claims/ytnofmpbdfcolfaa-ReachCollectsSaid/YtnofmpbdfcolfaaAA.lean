/- eachPair. -/
import Derived.Test.YtnofmpbdfcolfaaQ1
namespace Go.Proofs.Ytnofmpbdfcolfaa
open Go.RowKit Go.Shelf
set_option linter.unusedSimpArgs false
set_option linter.unusedVariables false
attribute [local go_sem] Oper.semAt_some

theorem RdV.turn {W W' : World} {v : Value} {L : List V} (h : RdV W v L) (hc : ∀ (k : Nat) (c : Array Value) (e : TypeId) (f : Nat × Nat), W.heap[k]? = some (Obj.cells c e f) → W'.heap[k]? = some (Obj.cells c e f)) : RdV W' v L := by
  obtain ⟨ao, cap, e, h⟩ := h
  refine ⟨ao, cap, e, fun j hj => ?_⟩
  obtain ⟨b, off, e2, h1, h2⟩ := h j hj
  have e3 : ∀ o x, W.cell? ⟨b, o, none⟩ = some x → W'.cell? ⟨b, o, none⟩ = some x := fun o x hx => by
    have : ∃ c e f, W.heap[b]? = some (.cells c e f) := by
      unfold World.cell? at hx
      cases hb : W.heap[b]? with
      | none => simp [hb] at hx
      | some ob => cases ob <;> simp [hb] at hx ⊢
    obtain ⟨c, e, f, hb⟩ := this
    rw [cell_of (hc b c e f hb), ← cell_of hb]; exact hx
  exact ⟨b, off, e2, e3 _ _ h1, e3 _ _ h2⟩
theorem Wk.turn {E : Ev} {c nb wb kb : Nat} {w w' : World} {s : St} (h : Wk E c nb wb kb w s) (hb : Below E.B E.w w') (hc : ∀ (k : Nat) (c : Array Value) (e : TypeId) (f : Nat × Nat), w.heap[k]? = some (Obj.cells c e f) → w'.heap[k]? = some (Obj.cells c e f)) : Wk E c nb wb kb w' s := by
  obtain ⟨vs, hv⟩ := h.ww
  obtain ⟨sv, k1, k2⟩ := h.st.ex
  refine ⟨hb, hc _ _ _ _ h.cc, hc _ _ _ _ h.nn, h.nl, ⟨vs, hc _ _ _ _ hv.hp, hv.vl, hv.wl, fun i hi => (hv.row i hi).turn (fun k e => ?_), hv.ap⟩, ⟨⟨sv, hc _ _ _ _ k1, k2.turn (fun k e => ?_)⟩, h.st.le⟩, h.bc, h.bn, h.bw, h.fit, h.inr⟩
  · obtain ⟨_, cc, hcc⟩ := (hv.row i hi).block e
    rw [hcc, hc _ _ _ _ hcc]
  · obtain ⟨_, cc, hcc⟩ := k2.block e
    rw [hcc, hc _ _ _ _ hcc]
theorem Loose.below {B B' : Nat} {a w w' : World} (hl : Loose B w w') (h : Below B' a w) (hB : B' ≤ B) (hs : B' ≤ a.heap.size) : Below B' a w' :=
  ⟨hl.os.trans h.os, hl.tape.trans h.tape, hl.output.trans h.output, Nat.le_trans h.size hl.size, fun k hk => by
    rw [← h.block k hk]
    have hlt : k < w.heap.size := Nat.lt_of_lt_of_le (Nat.lt_of_lt_of_le hk hs) h.size
    rw [Array.getElem?_eq_getElem hlt]
    exact hl.same k _ (Array.getElem?_eq_getElem hlt) (.inl (by omega))⟩

theorem Kept.putObj {S : Nat → Prop} {a w : World} (h : Kept S a w) {l : Nat} (o : Obj) (hl : a.heap.size ≤ l) : Kept S a (w.putObj l o) :=
  h.trans' (T := fun k => k = l) ⟨rfl, rfl, rfl, by simp, fun k _ hn => World.putObj_heap_other hn⟩ (fun i e => .inr (by subst e; exact hl))
theorem Wk.putObj {E : Ev} (hE : E.Ok) {c nb wb kb : Nat} {w : World} {s : St} (h : Wk E c nb wb kb w s) {D : Nat} {o o' : Obj} (hD : w.heap[D]? = some o) (ho : o.isCells = false) (hB : E.B ≤ D) : Wk E c nb wb kb (w.putObj D o') s := by
  refine h.turn ?_ (fun k c e f hk => ?_)
  · exact ⟨h.bl.os, h.bl.tape, h.bl.output, by simp; exact h.bl.size, fun k hk => (World.putObj_heap_other (by omega)).trans (h.bl.block k hk)⟩
  · refine (World.putObj_heap_other ?_).trans hk
    rintro rfl
    rw [hD] at hk; cases hk; cases ho

/-- The values of a table, one behind the other. -/
def pairF (f : St → V → V → St) (t : Th) (s : St) (j : Nat) : St := ((vals t).take j).foldl (fun s p => f s p.2 (t.sl.getD p.1 (0, 0))) s
theorem pairF_succ (f : St → V → V → St) (t : Th) (s : St) (j : Nat) (hj : j < (vals t).length) : pairF f t s (j + 1) = f (pairF f t s j) (valAt t j).2 (t.sl.getD (valAt t j).1 (0, 0)) := by
  unfold pairF valAt
  rw [foldl_take_succ _ _ _ _ hj]
  simp [List.getD, hj]
/-- How long what waits is. -/
def wtB (s : St) (q : Nat) : Prop := ∀ l ∈ s.wt, l.length ≤ q
theorem pairF_wt {f : St → V → V → St} (hf : ∀ s k v q, wtB s q → wtB (f s k v) (q + 1)) (t : Th) (s : St) (q : Nat) (h : wtB s q) : ∀ j, wtB (pairF f t s j) (q + j)
  | 0 => h
  | j + 1 => by
    by_cases hj : j < (vals t).length
    · rw [pairF_succ f t s j hj]; exact hf _ _ _ _ (pairF_wt hf t s q h j)
    · have : pairF f t s (j + 1) = pairF f t s j := by
        unfold pairF
        rw [List.take_of_length_le (by omega), List.take_of_length_le (by omega)]
      rw [this]
      exact fun l hl => Nat.le_trans (pairF_wt hf t s q h j l hl) (by omega)

/-- While eachPair goes on. -/
structure EP (E : Ev) (c nb wb kb : Nat) (w : World) (f : St → V → V → St) (t : Th) (s : St) (sv dv : Value) (j : Nat) (W : World) : Prop where
  wk : Wk E c nb wb kb W (pairF f t s j)
  b0 : W.heap[w.heap.size]? = some (.cells #[.int .i64 t.kind, .int .i64 t.weak, .int .i64 t.arr, sv, .int .i64 t.fin] 43 (0, 0))
  b1 : W.heap[w.heap.size + 1]? = some (.cells #[dv] 88 (0, 0))
  b2 : W.heap[w.heap.size + 2]? = some (.cells #[.int .i64 t.kind, .int .i64 t.weak, .int .i64 t.arr, sv, .int .i64 t.fin] 43 (0, 0))
  tn : Tn [3, 4, 23, 26, 40] E.B w W

theorem EP.no {E : Ev} (hE : E.Ok) {c nb wb kb : Nat} {w : World} {f : St → V → V → St} {t : Th} {s : St} {sv dv : Value} {j : Nat} {W W' : World} (h : EP E c nb wb kb w f t s sv dv j W) (hk : Kept No W W') : EP E c nb wb kb w f t s sv dv j W' :=
  ⟨h.wk.no hE hk, hk.heap h.b0 id, hk.heap h.b1 id, hk.heap h.b2 id, h.tn.trans (Tn.no hk)⟩
theorem EP.loose {E : Ev} (hE : E.Ok) {c nb wb kb : Nat} {w : World} {f : St → V → V → St} {t : Th} {s : St} {sv dv : Value} {j B : Nat} {W W' : World} (h : EP E c nb wb kb w f t s sv dv j W) (hl : Loose B W W') (hB : w.heap.size ≤ B) (hEB : E.B ≤ w.heap.size) : EP E c nb wb kb w f t s sv dv j W' :=
  ⟨h.wk.turn (hl.below h.wk.bl (by omega) hE.le) (fun k c e f hk => hl.cells hk), hl.cells h.b0, hl.cells h.b1, hl.cells h.b2, Loose.tn h.tn hl hB⟩
theorem valsF_len (t : Th) : ∀ f s, (valsF t f s).length ≤ f
  | 0, _ => by simp [valsF]
  | f + 1, s => by
    unfold valsF
    split
    · split
      · simp only [List.length_cons]; exact Nat.succ_le_succ (valsF_len t f _)
      · simp only [List.length_cons]; exact Nat.succ_le_succ (valsF_len t f _)
    · simp
theorem vals_len (t : Th) : (vals t).length ≤ t.sl.length := valsF_len t _ _
theorem needH_wt (n : Nat) (s : St) (x : Int) : (needH n s x).wt = s.wt := by unfold needH; split <;> rfl
theorem need_wt (T : List Th) (s : St) (v : V) : (need T s v).wt = s.wt := by unfold need; split; exact needH_wt _ _ _; rfl
theorem needT_wt (T : List Th) (s : St) (v : V) : (needT T s v).wt = s.wt := by unfold needT; split; exact need_wt _ _ _; rfl
theorem needK_wt (T : List Th) (s : St) (k v : V) (q : Nat) (h : wtB s q) : wtB (needK T s k v) (q + 1) := by
  intro l hl
  unfold needK at hl
  rw [needT_wt, need_wt] at hl
  exact Nat.le_succ_of_le (h l hl)
theorem needTT_wt (T : List Th) (s : St) (k v : V) (q : Nat) (h : wtB s q) : wtB (needTT T s k v) (q + 1) := by
  intro l hl
  unfold needTT at hl
  rw [needT_wt, needT_wt] at hl
  exact Nat.le_succ_of_le (h l hl)
theorem needP_wt (T : List Th) (s : St) (k v : V) (q : Nat) (h : wtB s q) : wtB (needP T s k v) (q + 1) := by
  intro l hl
  unfold needP at hl
  split at hl
  · dsimp only at hl
    rcases List.mem_or_eq_of_mem_set hl with hl | rfl
    · exact Nat.le_succ_of_le (h l hl)
    · rw [List.length_append]
      have : (s.wt.getD (k.2.toNat - 1) []).length ≤ q := by
        by_cases hi : k.2.toNat - 1 < s.wt.length
        · refine h _ ?_
          simp only [List.getD, List.getElem?_eq_getElem hi, Option.getD_some]
          exact List.getElem_mem hi
        · simp [List.getD, List.getElem?_eq_none (Nat.le_of_not_lt hi)]
      simp only [List.length_cons, List.length_nil]; omega
  · rw [need_wt, need_wt] at hl
    exact Nat.le_succ_of_le (h l hl)

set_option maxRecDepth 100000 in
set_option maxHeartbeats 8000000 in
theorem eachPair58_any {E : Ev} (hE : E.Ok) {c nb wb kb : Nat} {w : World} {s : St} (h : Wk E c nb wb kb w s) {t : Th} {sv : Value} (hn : t.sl.length ≤ 1000) (hsl : ∀ W, Below E.B E.w W → RdV W sv t.sl) (q : Nat) (hq : wtB s q) (hq2 : q ≤ 900000) :
    Calls Try.prog 56 #[AT t sv, .func (.func 58) #[PT c] #[]] w (Does E c nb wb kb [3, 4, 23, 26, 40] w (pairF (needK E.T) t s (vals t).length)) := by
  have HE : Hid E.Ok := hE
  have HW : Hid (Wk E c nb wb kb w s) := h
  have HSl : Hid (∀ W, Below E.B E.w W → RdV W sv t.sl) := hsl
  have HQ : Hid (∀ j, wtB (pairF (needK E.T) t s j) (q + j)) := pairF_wt (fun s k v q h => needK_wt _ s k v q h) t s q hq
  have hvl := vals_len t
  obtain ⟨ao, cap, hsv, hrd0⟩ := hsl w h.bl
  have hEB : E.B ≤ w.heap.size := h.sz hE
  subst hsv
  obtain ⟨sF, HSF⟩ : ∃ sF, Hid (pairF (needK E.T) t s (vals t).length = sF) := ⟨_, rfl⟩
  rw [HSF.out]
  obtain ⟨W, HWd⟩ : ∃ W, Hid (W = ((w.alloc (.cells #[.int .i64 t.kind, .int .i64 t.weak, .int .i64 t.arr, .slice ao t.sl.length cap, .int .i64 t.fin] 43)).alloc (.cells #[.func (.func 58) #[PT c] #[]] 88)).alloc (.cells #[.int .i64 t.kind, .int .i64 t.weak, .int .i64 t.arr, .slice ao t.sl.length cap, .int .i64 t.fin] 43)) := ⟨_, rfl⟩
  have HK : Hid (Kept No w W) := by show Kept _ _ _; rw [HWd.out]; exact (((Kept.refl _ _).alloc _).alloc _).alloc _
  have HZ : Hid (W.heap.size = w.heap.size + 3) := by show _ = _; rw [HWd.out]; simp
  have HI0 : Hid (EP E c nb wb kb w (needK E.T) t s (.slice ao t.sl.length cap) (.func (.func 58) #[PT c] #[]) 0 W) := by
    refine ⟨HW.out.no hE HK.out, ?_, ?_, ?_, Tn.no HK.out⟩
    · rw [HWd.out]; exact (Below.heap_alloc _ _ _ (by simp; omega)).trans ((Below.heap_alloc _ _ _ (by simp)).trans (World.alloc_heap_new w _))
    · rw [HWd.out]; refine (Below.heap_alloc _ _ _ (by simp)).trans ?_; have := World.alloc_heap_new (w.alloc (.cells #[.int .i64 t.kind, .int .i64 t.weak, .int .i64 t.arr, .slice ao t.sl.length cap, .int .i64 t.fin] 43)) (.cells #[.func (.func 58) #[PT c] #[]] 88); rwa [World.size_alloc] at this
    · rw [HWd.out]; have := World.alloc_heap_new ((w.alloc (.cells #[.int .i64 t.kind, .int .i64 t.weak, .int .i64 t.arr, .slice ao t.sl.length cap, .int .i64 t.fin] 43)).alloc (.cells #[.func (.func 58) #[PT c] #[]] 88)) (.cells #[.int .i64 t.kind, .int .i64 t.weak, .int .i64 t.arr, .slice ao t.sl.length cap, .int .i64 t.fin] 43); rwa [World.size_alloc, World.size_alloc] at this
  have HRn : Hid (∀ d, Rounds Fence.wide d Try.prog 64 #[PT (w.heap.size + 2)] (vals t).length (fun j W args => args = #[.int .i64 ((valAt t j).1 : Nat), AV (valAt t j).2]) (EP E c nb wb kb w (needK E.T) t s (.slice ao t.sl.length cap) (.func (.func 58) #[PT c] #[]))) := fun d =>
    values_rounds d (w.heap.size + 2) t (.slice ao t.sl.length cap) (by omega) _ (fun j W h => ⟨h.b2, HSl.out W h.wk.bl⟩)
  clear h hsl hrd0
  refine (callsIn_wide (n := 6)).1 ?_
  refine callsIn_of_wp_marks Try.func56 rfl trivial ?_ rfl
  simp only [Try.ntmps56, List.size_toArray, List.length_cons, List.length_nil, Nat.reduceAdd, Nat.reduceSub, Array.replicate_succ, Array.replicate_zero, List.push_toArray, List.append_toArray, List.nil_append, List.cons_append]
  gi_wp2_with (refine ⟨trivial, ?_⟩; gi_at_call 52; refine (callsIn_wide.2 (values_any t ao t.sl.length cap _)).mono ?_; rintro e w' ⟨rfl, rfl⟩)
  rw [← HWd.out]
  clear HWd
  have hEB3 : E.B ≤ W.heap.size := by have := HZ.out; omega
  refine range_iv (by decide) rfl (enters_of Try.func64 (by kernel_rfl) rfl) (vals t).length (valAt t) (EP E c nb wb kb w (needK E.T) t s (.slice ao t.sl.length cap) (.func (.func 58) #[PT c] #[])) (fun _ _ => False)
    (fun k W1 W2 h hl => h.loose HE.out hl (by have := HZ.out; omega) hEB) (fun _ _ _ h _ => h.elim) HI0.out (HRn.out _)
    (fun p V => { tmps := #[AT t (.slice ao t.sl.length cap), .func (.func 58) #[PT c] #[], PT w.heap.size, PT (w.heap.size + 1), .int .i64 (p.1 : Int), PT V, AT t (.slice ao t.sl.length cap), .func (.func 64) #[] #[PT (w.heap.size + 1 + 1)], .int .i64 (p.1 : Int), AV p.2, undef, undef, undef, undef, undef, undef, undef, undef], defers := [] }) ?assign ?body ?done ?stop
  case assign =>
    intro l' e W' K hK
    obtain ⟨e0, e1, e2⟩ := e
    unfold boxV at hK
    gi_wp2
    exact hK
  case body =>
    rintro l' j W3 W' hI0 hI hj hl
    obtain ⟨p, hp⟩ : ∃ p, valAt t j = p := ⟨_, rfl⟩
    have hmem : p ∈ vals t := by
      rw [← hp]; unfold valAt
      simp only [List.getD, List.getElem?_eq_getElem hj, Option.getD_some]
      exact List.getElem_mem hj
    have hpl := vals_lt hmem
    have HSu : Hid (pairF (needK E.T) t s (j + 1) = needK E.T (pairF (needK E.T) t s j) p.2 (t.sl.getD p.1 (0, 0))) := by
      show _ = _
      rw [pairF_succ _ _ _ _ hj, hp]
    rw [hp] at hl ⊢
    obtain ⟨ps, k1, k2⟩ := p
    dsimp only at hpl
    unfold boxV at hl
    dsimp only at hl HSu
    have q5 : W'.heap[W3.heap.size]? = some (.cells #[.int .i64 k1, .int .i64 k2] 40 (0, 0)) := hl.cells (World.alloc_heap_new W3 _)
    have hk2 : (ps : Int) < (t.sl.length : Int) := by omega
    generalize W3.heap.size = V at q5 ⊢
    obtain ⟨b, off, hao, x0, x1⟩ : ∃ b off, ao = some ⟨b, off, none⟩ ∧ W'.drew.cell? ⟨b, off + ps * 2, none⟩ = some (.int .i64 (t.sl[ps]).1) ∧ W'.drew.cell? ⟨b, off + ps * 2 + 1, none⟩ = some (.int .i64 (t.sl[ps]).2) := by
      obtain ⟨ao', cap', e, h⟩ := HSl.out W'.drew ((Kept.refl No W').drew.below (Nat.le_refl _) (fun _ e => e.elim) |> fun hb => hI.wk.bl.trans (hb.mono (hI.wk.sz HE.out)))
      injection e with e1 e2 e3
      subst e1
      exact h ps hpl
    obtain ⟨x, hx⟩ : ∃ x, t.sl[ps] = x := ⟨_, rfl⟩
    rw [show t.sl.getD ps (0, 0) = x by simp [List.getD, hpl, hx]] at HSu
    rw [hx] at x0 x1
    have hxx := hx
    obtain ⟨y1, y2⟩ := x
    dsimp only at x0 x1
    have HI : Hid (EP E c nb wb kb w (needK E.T) t s (.slice ao t.sl.length cap) (.func (.func 58) #[PT c] #[]) j W'.drew) := hI.no HE.out (Kept.refl No W').drew
    have HT' : Hid (∀ B, Still B W' W'.drew) := fun B => Still.of_kept ((Kept.refl No W').drew) (fun _ e => e.elim)
    have q6 : W'.drew.heap[V]? = some (.cells #[.int .i64 k1, .int .i64 k2] 40 (0, 0)) := q5
    have SV : W'.drew.cell? ⟨w.heap.size + 1, 0, none⟩ = some (.func (.func 58) #[PT c] #[]) ∧ W'.drew.cell? ⟨w.heap.size, 3, none⟩ = some (.slice ao t.sl.length cap) ∧ W'.drew.cell? ⟨b, off + ps * 2, none⟩ = some (.int .i64 y1) ∧ W'.drew.cell? ⟨b, off + ps * 2 + 1, none⟩ = some (.int .i64 y2) := by
      refine ⟨by rw [cell_of HI.out.b1]; rfl, by rw [cell_of HI.out.b0]; rfl, x0, x1⟩
    clear hI0 hI hl hx x0 x1 q5 hp hmem
    gi_wp2_with fail
    refine region_round (S := fun w' => w'.cell? ⟨w.heap.size + 1, 0, none⟩ = some (.func (.func 58) #[PT c] #[]) ∧ w'.cell? ⟨w.heap.size, 3, none⟩ = some (.slice ao t.sl.length cap) ∧ w'.cell? ⟨b, off + ps * 2, none⟩ = some (.int .i64 y1) ∧ w'.cell? ⟨b, off + ps * 2 + 1, none⟩ = some (.int .i64 y2)) mixed (noDefer_spec (by kernel_rfl)) ?_ SV (fun hSS => ?_)
    · rintro ⟨a', w', h⟩; exact h
    have HST : Hid (Still W.heap.size W' W'.drew) := HT'.out _
    subst hao
    generalize W'.drew = W4 at hSS HI HST q6 SV ⊢
    refine wpAnyH_take (i := 0) (v := (.func (.func 58) #[PT c] #[])) rfl (by kernel_rfl) (by kernel_rfl) (by kernel_rfl) (fun _ _ _ h => h) (Or.inl ⟨by rfl, by intro w' hw; obtain ⟨g0, g1, g2, g3⟩ := hw; go_simp⟩) hSS ?_
    try simp only [Act.put, List.setIfInBounds_toArray, List.set_cons_zero, List.set_cons_succ, List.getElem_toArray, List.getElem_cons_zero, List.getElem_cons_succ]
    refine wpAnyH_take (i := 2) (v := .pointer (some ⟨w.heap.size, 3, none⟩)) rfl (by kernel_rfl) (by kernel_rfl) (by kernel_rfl) (fun _ _ _ h => h) (Or.inl ⟨by rfl, by intro w' hw; go_simp⟩) hSS ?_
    try simp only [Act.put, List.setIfInBounds_toArray, List.set_cons_zero, List.set_cons_succ, List.getElem_toArray, List.getElem_cons_zero, List.getElem_cons_succ]
    refine wpAnyH_take (i := 3) (v := .slice (some ⟨b, off, none⟩) t.sl.length cap) rfl (by kernel_rfl) (by kernel_rfl) (by kernel_rfl) (fun _ _ _ h => h) (Or.inl ⟨by rfl, by intro w' hw; obtain ⟨g0, g1, g2, g3⟩ := hw; go_simp⟩) hSS ?_
    try simp only [Act.put, List.setIfInBounds_toArray, List.set_cons_zero, List.set_cons_succ, List.getElem_toArray, List.getElem_cons_zero, List.getElem_cons_succ]
    refine wpAnyH_take (i := 4) (v := .int .i64 (ps : Int)) rfl (by kernel_rfl) (by kernel_rfl) (by kernel_rfl) (fun _ _ _ h => h) (Or.inl ⟨by rfl, by intro w' hw; go_simp⟩) hSS ?_
    try simp only [Act.put, List.setIfInBounds_toArray, List.set_cons_zero, List.set_cons_succ, List.getElem_toArray, List.getElem_cons_zero, List.getElem_cons_succ]
    refine wpAnyH_take (i := 5) (v := .pointer (some ⟨b, off + ps * 2, none⟩)) rfl (by kernel_rfl) (by kernel_rfl) (by kernel_rfl) (fun _ _ _ h => h) (Or.inl ⟨by rfl, by intro w' hw; go_simp⟩) hSS ?_
    try simp only [Act.put, List.setIfInBounds_toArray, List.set_cons_zero, List.set_cons_succ, List.getElem_toArray, List.getElem_cons_zero, List.getElem_cons_succ]
    refine wpAnyH_take (i := 6) (v := AV (y1, y2)) rfl (by kernel_rfl) (by kernel_rfl) (by kernel_rfl) (fun _ _ _ h => h) (Or.inl ⟨by rfl, by intro w' hw; obtain ⟨g0, g1, g2, g3⟩ := hw; go_simp⟩) hSS ?_
    try simp only [Act.put, List.setIfInBounds_toArray, List.set_cons_zero, List.set_cons_succ, List.getElem_toArray, List.getElem_cons_zero, List.getElem_cons_succ]
    refine wpAnyH_ready (rs := [1]) (by kernel_rfl) (by simp) ?_
    refine AllReadyH.cons rfl (fun K hK => ?_) AllReadyH.nil
    obtain ⟨g0, g1⟩ := box_cells q6
    go_simp
    refine hK.out _ _ SV (fun hSS => ?_)
    clear hK K g0 g1
    try simp only [Act.put, List.setIfInBounds_toArray, List.set_cons_zero, List.set_cons_succ, List.getElem_toArray, List.getElem_cons_zero, List.getElem_cons_succ]
    refine wpAnyH_ready (rs := [7]) (by kernel_rfl) (by simp) ?_
    refine AllReadyH.cons rfl (fun K hK => ?_) AllReadyH.nil
    go_simp
    refine Calls.mono (needKey_any HE.out HI.out.wk (k1, k2) (y1, y2)) ?_
    rintro e W7 ⟨⟨v, rfl⟩, h2, h3⟩
    have h3' : Tn [3, 4, 23, 26, 40] E.B W4 W7 := h3.mono (by simp)
    have hP7 : EP E c nb wb kb w (needK E.T) t s (.slice (some ⟨b, off, none⟩) t.sl.length cap) (.func (.func 58) #[PT c] #[]) (j + 1) W7 :=
      ⟨by rw [HSu.out]; exact h2, h3'.cells HI.out.b0 (by simp), h3'.cells HI.out.b1 (by simp), h3'.cells HI.out.b2 (by simp), HI.out.tn.trans h3'⟩
    have HX : Hid (Still W.heap.size W' W7 ∧ EP E c nb wb kb w (needK E.T) t s (.slice (some ⟨b, off, none⟩) t.sl.length cap) (.func (.func 58) #[PT c] #[]) (j + 1) W7) :=
      ⟨HST.out.trans (Still.of_tn h3'), hP7⟩
    have hS7 : W7.cell? ⟨w.heap.size + 1, 0, none⟩ = some (.func (.func 58) #[PT c] #[]) ∧ W7.cell? ⟨w.heap.size, 3, none⟩ = some (.slice (some ⟨b, off, none⟩) t.sl.length cap) ∧ W7.cell? ⟨b, off + ps * 2, none⟩ = some (.int .i64 y1) ∧ W7.cell? ⟨b, off + ps * 2 + 1, none⟩ = some (.int .i64 y2) := by
      obtain ⟨ao', cap', e, h⟩ := HSl.out W7 hP7.wk.bl
      injection e with e1 e2 e3
      obtain ⟨b', off', e4, y0', y1'⟩ := h ps hpl
      rw [← e1] at e4
      injection e4 with e4
      injection e4 with e4 e5
      subst e4 e5
      rw [hxx] at y0' y1'
      exact ⟨by rw [cell_of hP7.b1]; rfl, by rw [cell_of hP7.b0]; rfl, y0', y1'⟩
    refine hK.out _ _ hS7 (fun _ => ?_)
    clear hK K hS7 hP7 h2 h3 h3'
    try simp only [Act.put, List.setIfInBounds_toArray, List.set_cons_zero, List.set_cons_succ, List.getElem_toArray, List.getElem_cons_zero, List.getElem_cons_succ]
    refine wpAnyH_done (by kernel_rfl) ?_ _
    gi_wp2_with fail
    exact HX.out
  case done =>
    rintro D W' hD hI hK
    have HX : Hid (Does E c nb wb kb [3, 4, 23, 26, 40] w sF (.returned (.tuple #[])) (W'.putObj D (.deferred none))) := by
      refine ⟨⟨_, rfl⟩, ?_, ?_⟩
      · rw [← HSF.out]; exact hI.wk.putObj HE.out hK rfl (by omega)
      · exact Kept.putObj hI.tn _ (by have := HZ.out; omega)
    clear hI HRn HI0
    gi_wp2
    refine ⟨by simp, .inl ⟨_, _, rfl, run_takeDeferred hK, ?_⟩⟩
    exact ⟨_, results_none rfl _ _ _, HX.out⟩
  case stop => rintro D k W' hD h; exact h.elim

set_option maxRecDepth 100000 in
set_option maxHeartbeats 8000000 in
theorem eachPair59_any {E : Ev} (hE : E.Ok) {c nb wb kb : Nat} {w : World} {s : St} (h : Wk E c nb wb kb w s) {t : Th} {sv : Value} (hn : t.sl.length ≤ 1000) (hsl : ∀ W, Below E.B E.w W → RdV W sv t.sl) (q : Nat) (hq : wtB s q) (hq2 : q ≤ 900000) :
    Calls Try.prog 56 #[AT t sv, .func (.func 59) #[PT c] #[]] w (Does E c nb wb kb [3, 4, 23, 26, 40] w (pairF (needTT E.T) t s (vals t).length)) := by
  have HE : Hid E.Ok := hE
  have HW : Hid (Wk E c nb wb kb w s) := h
  have HSl : Hid (∀ W, Below E.B E.w W → RdV W sv t.sl) := hsl
  have HQ : Hid (∀ j, wtB (pairF (needTT E.T) t s j) (q + j)) := pairF_wt (fun s k v q h => needTT_wt _ s k v q h) t s q hq
  have hvl := vals_len t
  obtain ⟨ao, cap, hsv, hrd0⟩ := hsl w h.bl
  have hEB : E.B ≤ w.heap.size := h.sz hE
  subst hsv
  obtain ⟨sF, HSF⟩ : ∃ sF, Hid (pairF (needTT E.T) t s (vals t).length = sF) := ⟨_, rfl⟩
  rw [HSF.out]
  obtain ⟨W, HWd⟩ : ∃ W, Hid (W = ((w.alloc (.cells #[.int .i64 t.kind, .int .i64 t.weak, .int .i64 t.arr, .slice ao t.sl.length cap, .int .i64 t.fin] 43)).alloc (.cells #[.func (.func 59) #[PT c] #[]] 88)).alloc (.cells #[.int .i64 t.kind, .int .i64 t.weak, .int .i64 t.arr, .slice ao t.sl.length cap, .int .i64 t.fin] 43)) := ⟨_, rfl⟩
  have HK : Hid (Kept No w W) := by show Kept _ _ _; rw [HWd.out]; exact (((Kept.refl _ _).alloc _).alloc _).alloc _
  have HZ : Hid (W.heap.size = w.heap.size + 3) := by show _ = _; rw [HWd.out]; simp
  have HI0 : Hid (EP E c nb wb kb w (needTT E.T) t s (.slice ao t.sl.length cap) (.func (.func 59) #[PT c] #[]) 0 W) := by
    refine ⟨HW.out.no hE HK.out, ?_, ?_, ?_, Tn.no HK.out⟩
    · rw [HWd.out]; exact (Below.heap_alloc _ _ _ (by simp; omega)).trans ((Below.heap_alloc _ _ _ (by simp)).trans (World.alloc_heap_new w _))
    · rw [HWd.out]; refine (Below.heap_alloc _ _ _ (by simp)).trans ?_; have := World.alloc_heap_new (w.alloc (.cells #[.int .i64 t.kind, .int .i64 t.weak, .int .i64 t.arr, .slice ao t.sl.length cap, .int .i64 t.fin] 43)) (.cells #[.func (.func 59) #[PT c] #[]] 88); rwa [World.size_alloc] at this
    · rw [HWd.out]; have := World.alloc_heap_new ((w.alloc (.cells #[.int .i64 t.kind, .int .i64 t.weak, .int .i64 t.arr, .slice ao t.sl.length cap, .int .i64 t.fin] 43)).alloc (.cells #[.func (.func 59) #[PT c] #[]] 88)) (.cells #[.int .i64 t.kind, .int .i64 t.weak, .int .i64 t.arr, .slice ao t.sl.length cap, .int .i64 t.fin] 43); rwa [World.size_alloc, World.size_alloc] at this
  have HRn : Hid (∀ d, Rounds Fence.wide d Try.prog 64 #[PT (w.heap.size + 2)] (vals t).length (fun j W args => args = #[.int .i64 ((valAt t j).1 : Nat), AV (valAt t j).2]) (EP E c nb wb kb w (needTT E.T) t s (.slice ao t.sl.length cap) (.func (.func 59) #[PT c] #[]))) := fun d =>
    values_rounds d (w.heap.size + 2) t (.slice ao t.sl.length cap) (by omega) _ (fun j W h => ⟨h.b2, HSl.out W h.wk.bl⟩)
  clear h hsl hrd0
  refine (callsIn_wide (n := 6)).1 ?_
  refine callsIn_of_wp_marks Try.func56 rfl trivial ?_ rfl
  simp only [Try.ntmps56, List.size_toArray, List.length_cons, List.length_nil, Nat.reduceAdd, Nat.reduceSub, Array.replicate_succ, Array.replicate_zero, List.push_toArray, List.append_toArray, List.nil_append, List.cons_append]
  gi_wp2_with (refine ⟨trivial, ?_⟩; gi_at_call 52; refine (callsIn_wide.2 (values_any t ao t.sl.length cap _)).mono ?_; rintro e w' ⟨rfl, rfl⟩)
  rw [← HWd.out]
  clear HWd
  have hEB3 : E.B ≤ W.heap.size := by have := HZ.out; omega
  refine range_iv (by decide) rfl (enters_of Try.func64 (by kernel_rfl) rfl) (vals t).length (valAt t) (EP E c nb wb kb w (needTT E.T) t s (.slice ao t.sl.length cap) (.func (.func 59) #[PT c] #[])) (fun _ _ => False)
    (fun k W1 W2 h hl => h.loose HE.out hl (by have := HZ.out; omega) hEB) (fun _ _ _ h _ => h.elim) HI0.out (HRn.out _)
    (fun p V => { tmps := #[AT t (.slice ao t.sl.length cap), .func (.func 59) #[PT c] #[], PT w.heap.size, PT (w.heap.size + 1), .int .i64 (p.1 : Int), PT V, AT t (.slice ao t.sl.length cap), .func (.func 64) #[] #[PT (w.heap.size + 1 + 1)], .int .i64 (p.1 : Int), AV p.2, undef, undef, undef, undef, undef, undef, undef, undef], defers := [] }) ?assign ?body ?done ?stop
  case assign =>
    intro l' e W' K hK
    obtain ⟨e0, e1, e2⟩ := e
    unfold boxV at hK
    gi_wp2
    exact hK
  case body =>
    rintro l' j W3 W' hI0 hI hj hl
    obtain ⟨p, hp⟩ : ∃ p, valAt t j = p := ⟨_, rfl⟩
    have hmem : p ∈ vals t := by
      rw [← hp]; unfold valAt
      simp only [List.getD, List.getElem?_eq_getElem hj, Option.getD_some]
      exact List.getElem_mem hj
    have hpl := vals_lt hmem
    have HSu : Hid (pairF (needTT E.T) t s (j + 1) = needTT E.T (pairF (needTT E.T) t s j) p.2 (t.sl.getD p.1 (0, 0))) := by
      show _ = _
      rw [pairF_succ _ _ _ _ hj, hp]
    rw [hp] at hl ⊢
    obtain ⟨ps, k1, k2⟩ := p
    dsimp only at hpl
    unfold boxV at hl
    dsimp only at hl HSu
    have q5 : W'.heap[W3.heap.size]? = some (.cells #[.int .i64 k1, .int .i64 k2] 40 (0, 0)) := hl.cells (World.alloc_heap_new W3 _)
    have hk2 : (ps : Int) < (t.sl.length : Int) := by omega
    generalize W3.heap.size = V at q5 ⊢
    obtain ⟨b, off, hao, x0, x1⟩ : ∃ b off, ao = some ⟨b, off, none⟩ ∧ W'.drew.cell? ⟨b, off + ps * 2, none⟩ = some (.int .i64 (t.sl[ps]).1) ∧ W'.drew.cell? ⟨b, off + ps * 2 + 1, none⟩ = some (.int .i64 (t.sl[ps]).2) := by
      obtain ⟨ao', cap', e, h⟩ := HSl.out W'.drew ((Kept.refl No W').drew.below (Nat.le_refl _) (fun _ e => e.elim) |> fun hb => hI.wk.bl.trans (hb.mono (hI.wk.sz HE.out)))
      injection e with e1 e2 e3
      subst e1
      exact h ps hpl
    obtain ⟨x, hx⟩ : ∃ x, t.sl[ps] = x := ⟨_, rfl⟩
    rw [show t.sl.getD ps (0, 0) = x by simp [List.getD, hpl, hx]] at HSu
    rw [hx] at x0 x1
    have hxx := hx
    obtain ⟨y1, y2⟩ := x
    dsimp only at x0 x1
    have HI : Hid (EP E c nb wb kb w (needTT E.T) t s (.slice ao t.sl.length cap) (.func (.func 59) #[PT c] #[]) j W'.drew) := hI.no HE.out (Kept.refl No W').drew
    have HT' : Hid (∀ B, Still B W' W'.drew) := fun B => Still.of_kept ((Kept.refl No W').drew) (fun _ e => e.elim)
    have q6 : W'.drew.heap[V]? = some (.cells #[.int .i64 k1, .int .i64 k2] 40 (0, 0)) := q5
    have SV : W'.drew.cell? ⟨w.heap.size + 1, 0, none⟩ = some (.func (.func 59) #[PT c] #[]) ∧ W'.drew.cell? ⟨w.heap.size, 3, none⟩ = some (.slice ao t.sl.length cap) ∧ W'.drew.cell? ⟨b, off + ps * 2, none⟩ = some (.int .i64 y1) ∧ W'.drew.cell? ⟨b, off + ps * 2 + 1, none⟩ = some (.int .i64 y2) := by
      refine ⟨by rw [cell_of HI.out.b1]; rfl, by rw [cell_of HI.out.b0]; rfl, x0, x1⟩
    clear hI0 hI hl hx x0 x1 q5 hp hmem
    gi_wp2_with fail
    refine region_round (S := fun w' => w'.cell? ⟨w.heap.size + 1, 0, none⟩ = some (.func (.func 59) #[PT c] #[]) ∧ w'.cell? ⟨w.heap.size, 3, none⟩ = some (.slice ao t.sl.length cap) ∧ w'.cell? ⟨b, off + ps * 2, none⟩ = some (.int .i64 y1) ∧ w'.cell? ⟨b, off + ps * 2 + 1, none⟩ = some (.int .i64 y2)) mixed (noDefer_spec (by kernel_rfl)) ?_ SV (fun hSS => ?_)
    · rintro ⟨a', w', h⟩; exact h
    have HST : Hid (Still W.heap.size W' W'.drew) := HT'.out _
    subst hao
    generalize W'.drew = W4 at hSS HI HST q6 SV ⊢
    refine wpAnyH_take (i := 0) (v := (.func (.func 59) #[PT c] #[])) rfl (by kernel_rfl) (by kernel_rfl) (by kernel_rfl) (fun _ _ _ h => h) (Or.inl ⟨by rfl, by intro w' hw; obtain ⟨g0, g1, g2, g3⟩ := hw; go_simp⟩) hSS ?_
    try simp only [Act.put, List.setIfInBounds_toArray, List.set_cons_zero, List.set_cons_succ, List.getElem_toArray, List.getElem_cons_zero, List.getElem_cons_succ]
    refine wpAnyH_take (i := 2) (v := .pointer (some ⟨w.heap.size, 3, none⟩)) rfl (by kernel_rfl) (by kernel_rfl) (by kernel_rfl) (fun _ _ _ h => h) (Or.inl ⟨by rfl, by intro w' hw; go_simp⟩) hSS ?_
    try simp only [Act.put, List.setIfInBounds_toArray, List.set_cons_zero, List.set_cons_succ, List.getElem_toArray, List.getElem_cons_zero, List.getElem_cons_succ]
    refine wpAnyH_take (i := 3) (v := .slice (some ⟨b, off, none⟩) t.sl.length cap) rfl (by kernel_rfl) (by kernel_rfl) (by kernel_rfl) (fun _ _ _ h => h) (Or.inl ⟨by rfl, by intro w' hw; obtain ⟨g0, g1, g2, g3⟩ := hw; go_simp⟩) hSS ?_
    try simp only [Act.put, List.setIfInBounds_toArray, List.set_cons_zero, List.set_cons_succ, List.getElem_toArray, List.getElem_cons_zero, List.getElem_cons_succ]
    refine wpAnyH_take (i := 4) (v := .int .i64 (ps : Int)) rfl (by kernel_rfl) (by kernel_rfl) (by kernel_rfl) (fun _ _ _ h => h) (Or.inl ⟨by rfl, by intro w' hw; go_simp⟩) hSS ?_
    try simp only [Act.put, List.setIfInBounds_toArray, List.set_cons_zero, List.set_cons_succ, List.getElem_toArray, List.getElem_cons_zero, List.getElem_cons_succ]
    refine wpAnyH_take (i := 5) (v := .pointer (some ⟨b, off + ps * 2, none⟩)) rfl (by kernel_rfl) (by kernel_rfl) (by kernel_rfl) (fun _ _ _ h => h) (Or.inl ⟨by rfl, by intro w' hw; go_simp⟩) hSS ?_
    try simp only [Act.put, List.setIfInBounds_toArray, List.set_cons_zero, List.set_cons_succ, List.getElem_toArray, List.getElem_cons_zero, List.getElem_cons_succ]
    refine wpAnyH_take (i := 6) (v := AV (y1, y2)) rfl (by kernel_rfl) (by kernel_rfl) (by kernel_rfl) (fun _ _ _ h => h) (Or.inl ⟨by rfl, by intro w' hw; obtain ⟨g0, g1, g2, g3⟩ := hw; go_simp⟩) hSS ?_
    try simp only [Act.put, List.setIfInBounds_toArray, List.set_cons_zero, List.set_cons_succ, List.getElem_toArray, List.getElem_cons_zero, List.getElem_cons_succ]
    refine wpAnyH_ready (rs := [1]) (by kernel_rfl) (by simp) ?_
    refine AllReadyH.cons rfl (fun K hK => ?_) AllReadyH.nil
    obtain ⟨g0, g1⟩ := box_cells q6
    go_simp
    refine hK.out _ _ SV (fun hSS => ?_)
    clear hK K g0 g1
    try simp only [Act.put, List.setIfInBounds_toArray, List.set_cons_zero, List.set_cons_succ, List.getElem_toArray, List.getElem_cons_zero, List.getElem_cons_succ]
    refine wpAnyH_ready (rs := [7]) (by kernel_rfl) (by simp) ?_
    refine AllReadyH.cons rfl (fun K hK => ?_) AllReadyH.nil
    go_simp
    refine Calls.mono (needTexts_any HE.out HI.out.wk (k1, k2) (y1, y2)) ?_
    rintro e W7 ⟨⟨v, rfl⟩, h2, h3⟩
    have h3' : Tn [3, 4, 23, 26, 40] E.B W4 W7 := h3.mono (by simp)
    have hP7 : EP E c nb wb kb w (needTT E.T) t s (.slice (some ⟨b, off, none⟩) t.sl.length cap) (.func (.func 59) #[PT c] #[]) (j + 1) W7 :=
      ⟨by rw [HSu.out]; exact h2, h3'.cells HI.out.b0 (by simp), h3'.cells HI.out.b1 (by simp), h3'.cells HI.out.b2 (by simp), HI.out.tn.trans h3'⟩
    have HX : Hid (Still W.heap.size W' W7 ∧ EP E c nb wb kb w (needTT E.T) t s (.slice (some ⟨b, off, none⟩) t.sl.length cap) (.func (.func 59) #[PT c] #[]) (j + 1) W7) :=
      ⟨HST.out.trans (Still.of_tn h3'), hP7⟩
    have hS7 : W7.cell? ⟨w.heap.size + 1, 0, none⟩ = some (.func (.func 59) #[PT c] #[]) ∧ W7.cell? ⟨w.heap.size, 3, none⟩ = some (.slice (some ⟨b, off, none⟩) t.sl.length cap) ∧ W7.cell? ⟨b, off + ps * 2, none⟩ = some (.int .i64 y1) ∧ W7.cell? ⟨b, off + ps * 2 + 1, none⟩ = some (.int .i64 y2) := by
      obtain ⟨ao', cap', e, h⟩ := HSl.out W7 hP7.wk.bl
      injection e with e1 e2 e3
      obtain ⟨b', off', e4, y0', y1'⟩ := h ps hpl
      rw [← e1] at e4
      injection e4 with e4
      injection e4 with e4 e5
      subst e4 e5
      rw [hxx] at y0' y1'
      exact ⟨by rw [cell_of hP7.b1]; rfl, by rw [cell_of hP7.b0]; rfl, y0', y1'⟩
    refine hK.out _ _ hS7 (fun _ => ?_)
    clear hK K hS7 hP7 h2 h3 h3'
    try simp only [Act.put, List.setIfInBounds_toArray, List.set_cons_zero, List.set_cons_succ, List.getElem_toArray, List.getElem_cons_zero, List.getElem_cons_succ]
    refine wpAnyH_done (by kernel_rfl) ?_ _
    gi_wp2_with fail
    exact HX.out
  case done =>
    rintro D W' hD hI hK
    have HX : Hid (Does E c nb wb kb [3, 4, 23, 26, 40] w sF (.returned (.tuple #[])) (W'.putObj D (.deferred none))) := by
      refine ⟨⟨_, rfl⟩, ?_, ?_⟩
      · rw [← HSF.out]; exact hI.wk.putObj HE.out hK rfl (by omega)
      · exact Kept.putObj hI.tn _ (by have := HZ.out; omega)
    clear hI HRn HI0
    gi_wp2
    refine ⟨by simp, .inl ⟨_, _, rfl, run_takeDeferred hK, ?_⟩⟩
    exact ⟨_, results_none rfl _ _ _, HX.out⟩
  case stop => rintro D k W' hD h; exact h.elim

set_option maxRecDepth 100000 in
set_option maxHeartbeats 8000000 in
theorem eachPair57_any {E : Ev} (hE : E.Ok) {c nb wb kb : Nat} {w : World} {s : St} (h : Wk E c nb wb kb w s) {t : Th} {sv : Value} (hn : t.sl.length ≤ 1000) (hsl : ∀ W, Below E.B E.w W → RdV W sv t.sl) (q : Nat) (hq : wtB s q) (hq2 : q ≤ 900000) :
    Calls Try.prog 56 #[AT t sv, .func (.func 57) #[PT c] #[]] w (Does E c nb wb kb [3, 4, 23, 26, 40] w (pairF (needP E.T) t s (vals t).length)) := by
  have HE : Hid E.Ok := hE
  have HW : Hid (Wk E c nb wb kb w s) := h
  have HSl : Hid (∀ W, Below E.B E.w W → RdV W sv t.sl) := hsl
  have HQ : Hid (∀ j, wtB (pairF (needP E.T) t s j) (q + j)) := pairF_wt (fun s k v q h => needP_wt _ s k v q h) t s q hq
  have hvl := vals_len t
  obtain ⟨ao, cap, hsv, hrd0⟩ := hsl w h.bl
  have hEB : E.B ≤ w.heap.size := h.sz hE
  subst hsv
  obtain ⟨sF, HSF⟩ : ∃ sF, Hid (pairF (needP E.T) t s (vals t).length = sF) := ⟨_, rfl⟩
  rw [HSF.out]
  obtain ⟨W, HWd⟩ : ∃ W, Hid (W = ((w.alloc (.cells #[.int .i64 t.kind, .int .i64 t.weak, .int .i64 t.arr, .slice ao t.sl.length cap, .int .i64 t.fin] 43)).alloc (.cells #[.func (.func 57) #[PT c] #[]] 88)).alloc (.cells #[.int .i64 t.kind, .int .i64 t.weak, .int .i64 t.arr, .slice ao t.sl.length cap, .int .i64 t.fin] 43)) := ⟨_, rfl⟩
  have HK : Hid (Kept No w W) := by show Kept _ _ _; rw [HWd.out]; exact (((Kept.refl _ _).alloc _).alloc _).alloc _
  have HZ : Hid (W.heap.size = w.heap.size + 3) := by show _ = _; rw [HWd.out]; simp
  have HI0 : Hid (EP E c nb wb kb w (needP E.T) t s (.slice ao t.sl.length cap) (.func (.func 57) #[PT c] #[]) 0 W) := by
    refine ⟨HW.out.no hE HK.out, ?_, ?_, ?_, Tn.no HK.out⟩
    · rw [HWd.out]; exact (Below.heap_alloc _ _ _ (by simp; omega)).trans ((Below.heap_alloc _ _ _ (by simp)).trans (World.alloc_heap_new w _))
    · rw [HWd.out]; refine (Below.heap_alloc _ _ _ (by simp)).trans ?_; have := World.alloc_heap_new (w.alloc (.cells #[.int .i64 t.kind, .int .i64 t.weak, .int .i64 t.arr, .slice ao t.sl.length cap, .int .i64 t.fin] 43)) (.cells #[.func (.func 57) #[PT c] #[]] 88); rwa [World.size_alloc] at this
    · rw [HWd.out]; have := World.alloc_heap_new ((w.alloc (.cells #[.int .i64 t.kind, .int .i64 t.weak, .int .i64 t.arr, .slice ao t.sl.length cap, .int .i64 t.fin] 43)).alloc (.cells #[.func (.func 57) #[PT c] #[]] 88)) (.cells #[.int .i64 t.kind, .int .i64 t.weak, .int .i64 t.arr, .slice ao t.sl.length cap, .int .i64 t.fin] 43); rwa [World.size_alloc, World.size_alloc] at this
  have HRn : Hid (∀ d, Rounds Fence.wide d Try.prog 64 #[PT (w.heap.size + 2)] (vals t).length (fun j W args => args = #[.int .i64 ((valAt t j).1 : Nat), AV (valAt t j).2]) (EP E c nb wb kb w (needP E.T) t s (.slice ao t.sl.length cap) (.func (.func 57) #[PT c] #[]))) := fun d =>
    values_rounds d (w.heap.size + 2) t (.slice ao t.sl.length cap) (by omega) _ (fun j W h => ⟨h.b2, HSl.out W h.wk.bl⟩)
  clear h hsl hrd0
  refine (callsIn_wide (n := 6)).1 ?_
  refine callsIn_of_wp_marks Try.func56 rfl trivial ?_ rfl
  simp only [Try.ntmps56, List.size_toArray, List.length_cons, List.length_nil, Nat.reduceAdd, Nat.reduceSub, Array.replicate_succ, Array.replicate_zero, List.push_toArray, List.append_toArray, List.nil_append, List.cons_append]
  gi_wp2_with (refine ⟨trivial, ?_⟩; gi_at_call 52; refine (callsIn_wide.2 (values_any t ao t.sl.length cap _)).mono ?_; rintro e w' ⟨rfl, rfl⟩)
  rw [← HWd.out]
  clear HWd
  have hEB3 : E.B ≤ W.heap.size := by have := HZ.out; omega
  refine range_iv (by decide) rfl (enters_of Try.func64 (by kernel_rfl) rfl) (vals t).length (valAt t) (EP E c nb wb kb w (needP E.T) t s (.slice ao t.sl.length cap) (.func (.func 57) #[PT c] #[])) (fun _ _ => False)
    (fun k W1 W2 h hl => h.loose HE.out hl (by have := HZ.out; omega) hEB) (fun _ _ _ h _ => h.elim) HI0.out (HRn.out _)
    (fun p V => { tmps := #[AT t (.slice ao t.sl.length cap), .func (.func 57) #[PT c] #[], PT w.heap.size, PT (w.heap.size + 1), .int .i64 (p.1 : Int), PT V, AT t (.slice ao t.sl.length cap), .func (.func 64) #[] #[PT (w.heap.size + 1 + 1)], .int .i64 (p.1 : Int), AV p.2, undef, undef, undef, undef, undef, undef, undef, undef], defers := [] }) ?assign ?body ?done ?stop
  case assign =>
    intro l' e W' K hK
    obtain ⟨e0, e1, e2⟩ := e
    unfold boxV at hK
    gi_wp2
    exact hK
  case body =>
    rintro l' j W3 W' hI0 hI hj hl
    obtain ⟨p, hp⟩ : ∃ p, valAt t j = p := ⟨_, rfl⟩
    have hmem : p ∈ vals t := by
      rw [← hp]; unfold valAt
      simp only [List.getD, List.getElem?_eq_getElem hj, Option.getD_some]
      exact List.getElem_mem hj
    have hpl := vals_lt hmem
    have HSu : Hid (pairF (needP E.T) t s (j + 1) = needP E.T (pairF (needP E.T) t s j) p.2 (t.sl.getD p.1 (0, 0))) := by
      show _ = _
      rw [pairF_succ _ _ _ _ hj, hp]
    rw [hp] at hl ⊢
    obtain ⟨ps, k1, k2⟩ := p
    dsimp only at hpl
    unfold boxV at hl
    dsimp only at hl HSu
    have q5 : W'.heap[W3.heap.size]? = some (.cells #[.int .i64 k1, .int .i64 k2] 40 (0, 0)) := hl.cells (World.alloc_heap_new W3 _)
    have hk2 : (ps : Int) < (t.sl.length : Int) := by omega
    generalize W3.heap.size = V at q5 ⊢
    obtain ⟨b, off, hao, x0, x1⟩ : ∃ b off, ao = some ⟨b, off, none⟩ ∧ W'.drew.cell? ⟨b, off + ps * 2, none⟩ = some (.int .i64 (t.sl[ps]).1) ∧ W'.drew.cell? ⟨b, off + ps * 2 + 1, none⟩ = some (.int .i64 (t.sl[ps]).2) := by
      obtain ⟨ao', cap', e, h⟩ := HSl.out W'.drew ((Kept.refl No W').drew.below (Nat.le_refl _) (fun _ e => e.elim) |> fun hb => hI.wk.bl.trans (hb.mono (hI.wk.sz HE.out)))
      injection e with e1 e2 e3
      subst e1
      exact h ps hpl
    obtain ⟨x, hx⟩ : ∃ x, t.sl[ps] = x := ⟨_, rfl⟩
    rw [show t.sl.getD ps (0, 0) = x by simp [List.getD, hpl, hx]] at HSu
    rw [hx] at x0 x1
    have hxx := hx
    obtain ⟨y1, y2⟩ := x
    dsimp only at x0 x1
    have HI : Hid (EP E c nb wb kb w (needP E.T) t s (.slice ao t.sl.length cap) (.func (.func 57) #[PT c] #[]) j W'.drew) := hI.no HE.out (Kept.refl No W').drew
    have HT' : Hid (∀ B, Still B W' W'.drew) := fun B => Still.of_kept ((Kept.refl No W').drew) (fun _ e => e.elim)
    have q6 : W'.drew.heap[V]? = some (.cells #[.int .i64 k1, .int .i64 k2] 40 (0, 0)) := q5
    have SV : W'.drew.cell? ⟨w.heap.size + 1, 0, none⟩ = some (.func (.func 57) #[PT c] #[]) ∧ W'.drew.cell? ⟨w.heap.size, 3, none⟩ = some (.slice ao t.sl.length cap) ∧ W'.drew.cell? ⟨b, off + ps * 2, none⟩ = some (.int .i64 y1) ∧ W'.drew.cell? ⟨b, off + ps * 2 + 1, none⟩ = some (.int .i64 y2) := by
      refine ⟨by rw [cell_of HI.out.b1]; rfl, by rw [cell_of HI.out.b0]; rfl, x0, x1⟩
    clear hI0 hI hl hx x0 x1 q5 hp hmem
    gi_wp2_with fail
    refine region_round (S := fun w' => w'.cell? ⟨w.heap.size + 1, 0, none⟩ = some (.func (.func 57) #[PT c] #[]) ∧ w'.cell? ⟨w.heap.size, 3, none⟩ = some (.slice ao t.sl.length cap) ∧ w'.cell? ⟨b, off + ps * 2, none⟩ = some (.int .i64 y1) ∧ w'.cell? ⟨b, off + ps * 2 + 1, none⟩ = some (.int .i64 y2)) mixed (noDefer_spec (by kernel_rfl)) ?_ SV (fun hSS => ?_)
    · rintro ⟨a', w', h⟩; exact h
    have HST : Hid (Still W.heap.size W' W'.drew) := HT'.out _
    subst hao
    generalize W'.drew = W4 at hSS HI HST q6 SV ⊢
    refine wpAnyH_take (i := 0) (v := (.func (.func 57) #[PT c] #[])) rfl (by kernel_rfl) (by kernel_rfl) (by kernel_rfl) (fun _ _ _ h => h) (Or.inl ⟨by rfl, by intro w' hw; obtain ⟨g0, g1, g2, g3⟩ := hw; go_simp⟩) hSS ?_
    try simp only [Act.put, List.setIfInBounds_toArray, List.set_cons_zero, List.set_cons_succ, List.getElem_toArray, List.getElem_cons_zero, List.getElem_cons_succ]
    refine wpAnyH_take (i := 2) (v := .pointer (some ⟨w.heap.size, 3, none⟩)) rfl (by kernel_rfl) (by kernel_rfl) (by kernel_rfl) (fun _ _ _ h => h) (Or.inl ⟨by rfl, by intro w' hw; go_simp⟩) hSS ?_
    try simp only [Act.put, List.setIfInBounds_toArray, List.set_cons_zero, List.set_cons_succ, List.getElem_toArray, List.getElem_cons_zero, List.getElem_cons_succ]
    refine wpAnyH_take (i := 3) (v := .slice (some ⟨b, off, none⟩) t.sl.length cap) rfl (by kernel_rfl) (by kernel_rfl) (by kernel_rfl) (fun _ _ _ h => h) (Or.inl ⟨by rfl, by intro w' hw; obtain ⟨g0, g1, g2, g3⟩ := hw; go_simp⟩) hSS ?_
    try simp only [Act.put, List.setIfInBounds_toArray, List.set_cons_zero, List.set_cons_succ, List.getElem_toArray, List.getElem_cons_zero, List.getElem_cons_succ]
    refine wpAnyH_take (i := 4) (v := .int .i64 (ps : Int)) rfl (by kernel_rfl) (by kernel_rfl) (by kernel_rfl) (fun _ _ _ h => h) (Or.inl ⟨by rfl, by intro w' hw; go_simp⟩) hSS ?_
    try simp only [Act.put, List.setIfInBounds_toArray, List.set_cons_zero, List.set_cons_succ, List.getElem_toArray, List.getElem_cons_zero, List.getElem_cons_succ]
    refine wpAnyH_take (i := 5) (v := .pointer (some ⟨b, off + ps * 2, none⟩)) rfl (by kernel_rfl) (by kernel_rfl) (by kernel_rfl) (fun _ _ _ h => h) (Or.inl ⟨by rfl, by intro w' hw; go_simp⟩) hSS ?_
    try simp only [Act.put, List.setIfInBounds_toArray, List.set_cons_zero, List.set_cons_succ, List.getElem_toArray, List.getElem_cons_zero, List.getElem_cons_succ]
    refine wpAnyH_take (i := 6) (v := AV (y1, y2)) rfl (by kernel_rfl) (by kernel_rfl) (by kernel_rfl) (fun _ _ _ h => h) (Or.inl ⟨by rfl, by intro w' hw; obtain ⟨g0, g1, g2, g3⟩ := hw; go_simp⟩) hSS ?_
    try simp only [Act.put, List.setIfInBounds_toArray, List.set_cons_zero, List.set_cons_succ, List.getElem_toArray, List.getElem_cons_zero, List.getElem_cons_succ]
    refine wpAnyH_ready (rs := [1]) (by kernel_rfl) (by simp) ?_
    refine AllReadyH.cons rfl (fun K hK => ?_) AllReadyH.nil
    obtain ⟨g0, g1⟩ := box_cells q6
    go_simp
    refine hK.out _ _ SV (fun hSS => ?_)
    clear hK K g0 g1
    try simp only [Act.put, List.setIfInBounds_toArray, List.set_cons_zero, List.set_cons_succ, List.getElem_toArray, List.getElem_cons_zero, List.getElem_cons_succ]
    refine wpAnyH_ready (rs := [7]) (by kernel_rfl) (by simp) ?_
    refine AllReadyH.cons rfl (fun K hK => ?_) AllReadyH.nil
    go_simp
    refine Calls.mono (needPair_any HE.out HI.out.wk (fun l hl => by have := HQ.out j l hl; omega) (k1, k2) (y1, y2)) ?_
    rintro e W7 ⟨⟨v, rfl⟩, h2, h3⟩
    have h3' : Tn [3, 4, 23, 26, 40] E.B W4 W7 := h3.mono (by simp)
    have hP7 : EP E c nb wb kb w (needP E.T) t s (.slice (some ⟨b, off, none⟩) t.sl.length cap) (.func (.func 57) #[PT c] #[]) (j + 1) W7 :=
      ⟨by rw [HSu.out]; exact h2, h3'.cells HI.out.b0 (by simp), h3'.cells HI.out.b1 (by simp), h3'.cells HI.out.b2 (by simp), HI.out.tn.trans h3'⟩
    have HX : Hid (Still W.heap.size W' W7 ∧ EP E c nb wb kb w (needP E.T) t s (.slice (some ⟨b, off, none⟩) t.sl.length cap) (.func (.func 57) #[PT c] #[]) (j + 1) W7) :=
      ⟨HST.out.trans (Still.of_tn h3'), hP7⟩
    have hS7 : W7.cell? ⟨w.heap.size + 1, 0, none⟩ = some (.func (.func 57) #[PT c] #[]) ∧ W7.cell? ⟨w.heap.size, 3, none⟩ = some (.slice (some ⟨b, off, none⟩) t.sl.length cap) ∧ W7.cell? ⟨b, off + ps * 2, none⟩ = some (.int .i64 y1) ∧ W7.cell? ⟨b, off + ps * 2 + 1, none⟩ = some (.int .i64 y2) := by
      obtain ⟨ao', cap', e, h⟩ := HSl.out W7 hP7.wk.bl
      injection e with e1 e2 e3
      obtain ⟨b', off', e4, y0', y1'⟩ := h ps hpl
      rw [← e1] at e4
      injection e4 with e4
      injection e4 with e4 e5
      subst e4 e5
      rw [hxx] at y0' y1'
      exact ⟨by rw [cell_of hP7.b1]; rfl, by rw [cell_of hP7.b0]; rfl, y0', y1'⟩
    refine hK.out _ _ hS7 (fun _ => ?_)
    clear hK K hS7 hP7 h2 h3 h3'
    try simp only [Act.put, List.setIfInBounds_toArray, List.set_cons_zero, List.set_cons_succ, List.getElem_toArray, List.getElem_cons_zero, List.getElem_cons_succ]
    refine wpAnyH_done (by kernel_rfl) ?_ _
    gi_wp2_with fail
    exact HX.out
  case done =>
    rintro D W' hD hI hK
    have HX : Hid (Does E c nb wb kb [3, 4, 23, 26, 40] w sF (.returned (.tuple #[])) (W'.putObj D (.deferred none))) := by
      refine ⟨⟨_, rfl⟩, ?_, ?_⟩
      · rw [← HSF.out]; exact hI.wk.putObj HE.out hK rfl (by omega)
      · exact Kept.putObj hI.tn _ (by have := HZ.out; omega)
    clear hI HRn HI0
    gi_wp2
    refine ⟨by simp, .inl ⟨_, _, rfl, run_takeDeferred hK, ?_⟩⟩
    exact ⟨_, results_none rfl _ _ _, HX.out⟩
  case stop => rintro D k W' hD h; exact h.elim
end Go.Proofs.Ytnofmpbdfcolfaa
