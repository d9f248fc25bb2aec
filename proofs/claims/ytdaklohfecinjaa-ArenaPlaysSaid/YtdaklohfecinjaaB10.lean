/- Size, Live, Top, Gap, Compact of an arena. -/
import Derived.Test.YtdaklohfecinjaaB9
namespace Go.Proofs.Ytdaklohfecinjaa
open Go.RowKit
set_option linter.unusedSimpArgs false
set_option linter.unusedVariables false

set_option maxHeartbeats 400000 in
theorem Size_nil (w : World) : Calls Try.prog 26 #[.pointer none] w fun e w' => e = .returned (.int .i64 0) ∧ w = w' := by
  go_enter Try.func26, Try.ntmps26
  go_wp2_with (go_at_call 52; refine (made_nil _).mono ?_; rintro e w' ⟨rfl, rfl⟩)
  go_ret
  exact ⟨rfl, rfl⟩
set_option maxHeartbeats 400000 in
theorem Live_nil (w : World) : Calls Try.prog 24 #[.pointer none] w fun e w' => e = .returned (.int .i64 0) ∧ w = w' := by
  go_enter Try.func24, Try.ntmps24
  go_wp2_with (go_at_call 52; refine (made_nil _).mono ?_; rintro e w' ⟨rfl, rfl⟩)
  go_ret
  exact ⟨rfl, rfl⟩
set_option maxHeartbeats 400000 in
theorem Top_nil (w : World) : Calls Try.prog 25 #[.pointer none] w fun e w' => e = .returned (.int .i64 0) ∧ w = w' := by
  go_enter Try.func25, Try.ntmps25
  go_wp2_with (go_at_call 52; refine (made_nil _).mono ?_; rintro e w' ⟨rfl, rfl⟩)
  go_ret
  exact ⟨rfl, rfl⟩
set_option maxHeartbeats 400000 in
theorem Gap_nil (w : World) : Calls Try.prog 32 #[.pointer none] w fun e w' => e = .returned (.int .i64 0) ∧ w = w' := by
  go_enter Try.func32, Try.ntmps32
  go_wp2_with (go_at_call 52; refine (made_nil _).mono ?_; rintro e w' ⟨rfl, rfl⟩)
  go_ret
  exact ⟨rfl, rfl⟩
set_option maxHeartbeats 400000 in
theorem Compact_nil (w : World) : Calls Try.prog 31 #[.pointer none] w fun e w' => e = .returned (.int .i64 0) ∧ Kept No w w' := by
  go_enter Try.func31, Try.ntmps31
  go_wp2_with (go_at_call 52; refine (made_nil _).mono ?_; rintro e w' ⟨rfl, rfl⟩)
  go_ret
  exact ⟨rfl, (Kept.refl _ _).alloc _⟩
set_option maxHeartbeats 400000 in
theorem Handles_nil (w : World) : Calls Try.prog 23 #[.pointer none] w fun e w' => e = .returned (.slice none 0 0) ∧ w = w' := by
  go_enter Try.func23, Try.ntmps23
  go_wp2_with (go_at_call 52; refine (made_nil _).mono ?_; rintro e w' ⟨rfl, rfl⟩)
  go_ret
  exact ⟨rfl, rfl⟩
set_option maxHeartbeats 400000 in
theorem Load_nil (h i : Int) (w : World) : Calls Try.prog 30 #[.pointer none, .int .i64 h, .int .i64 i] w fun e w' => e = .returned (.tuple #[.int .i64 0, .int .i64 2]) ∧ w = w' := by
  go_enter Try.func30, Try.ntmps30
  go_wp2_with (go_at_call 50; refine (find_nil _ _).mono ?_; rintro e w' ⟨rfl, rfl⟩)
  go_ret2
  exact ⟨rfl, rfl⟩
set_option maxHeartbeats 400000 in
theorem Store_nil (h i x : Int) (w : World) : Calls Try.prog 28 #[.pointer none, .int .i64 h, .int .i64 i, .int .i64 x] w fun e w' => e = .returned (.int .i64 2) ∧ w = w' := by
  go_enter Try.func28, Try.ntmps28
  go_wp2_with (go_at_call 50; refine (find_nil _ _).mono ?_; rintro e w' ⟨rfl, rfl⟩)
  go_ret
  exact ⟨rfl, rfl⟩
set_option maxHeartbeats 400000 in
theorem Resize_nil (h n : Int) (w : World) : Calls Try.prog 34 #[.pointer none, .int .i64 h, .int .i64 n] w fun e w' => e = .returned (.int .i64 2) ∧ w = w' := by
  go_enter Try.func34, Try.ntmps34
  go_wp2_with (go_at_call 50; refine (find_nil _ _).mono ?_; rintro e w' ⟨rfl, rfl⟩)
  go_ret
  exact ⟨rfl, rfl⟩

/-- Where the last block ends. -/
def topN : List Nd → Nat
  | [] => 0
  | [x] => x.a + x.s
  | _ :: y :: r => topN (y :: r)

theorem last_node {w : World} : ∀ {l : List Nd} {pr : Option Nat}, Seg w pr l none → l ≠ [] → ∃ p a s ah, lastp l pr = some p ∧ w.heap[p]? = some (nd a s ah none) ∧ topN l = a + s ∧ (⟨p, a, s⟩ : Nd) ∈ l
  | [x], pr, h, _ => ⟨x.p, x.a, x.s, pr, rfl, h.1, rfl, by simp⟩
  | x :: y :: r, pr, h, _ => by
    obtain ⟨p, a, s, ah, h1, h2, h3, h4⟩ := last_node (l := y :: r) h.2 (by simp)
    exact ⟨p, a, s, ah, h1, h2, h3, List.mem_cons_of_mem _ h4⟩

set_option maxHeartbeats 400000 in
theorem Top_any {A C M F f size least nn : Nat} {cs : List Int} {hb : List (Nat × Nd)} (w : World) (h : Rp w A C M F f size least nn cs hb) :
    Calls Try.prog 25 #[.pointer (some ⟨A, 0, none⟩)] w fun e w' => e = .returned (.int .i64 (topN (nodes F hb) : Nat)) ∧ Kept No w w' := by
  obtain ⟨p, a, s, ah, e1, e2, e3, e4⟩ := last_node h.seg (by simp [nodes])
  have hbd := h.bd _ e4
  dsimp only at hbd
  have HA : Hid (w.heap[A]? = some (ar C M F f size least)) := h.hA
  have HR : Hid (Rp w A C M F f size least nn cs hb) := h
  have HE : Hid (lastp (nodes F hb) none = some p) := e1
  have H2 : Hid (w.heap[p]? = some (nd a s ah none)) := e2
  have H3 : Hid (topN (nodes F hb) = a + s) := e3
  clear h e1 e2 e3 e4
  go_enter Try.func25, Try.ntmps25
  go_wp2_with (go_at_call 52; refine (made_any _ HA.out).mono ?_; rintro e w' ⟨rfl, rfl⟩)
  refine (last_any (nodes F hb) w HA.out HR.out.seg rfl HR.out.nod HR.out.bd HR.out.sz).mono ?_
  rintro e w1 ⟨rfl, hk1⟩
  rw [HE.out, pt_some]
  have HK : Hid (Kept No w w1) := hk1
  have H4 : Hid (w1.heap[p]? = some (nd a s ah none)) := hk1.heap H2.out id
  clear hk1
  go_wp2_with (go_at_call 57; refine (end_any _ H4.out (by omega)).mono ?_; rintro e w2 ⟨rfl, m, rfl⟩)
  go_ret
  rw [H3.out]
  exact ⟨by simp, HK.out.drewN m⟩

/-- The order when all blocks have been moved. -/
def cmpH : Nat → List (Nat × Nd) → List (Nat × Nd)
  | _, [] => []
  | o, x :: r => (x.1, ⟨x.2.p, o, x.2.s⟩) :: cmpH (o + x.2.s) r

theorem cmpH_snd : ∀ (o : Nat) (hb : List (Nat × Nd)), (cmpH o hb).map Prod.snd = comp o (hb.map Prod.snd)
  | _, [] => rfl
  | o, x :: r => by simp [cmpH, comp, cmpH_snd (o + x.2.s) r]
theorem cmpH_fst : ∀ (o : Nat) (hb : List (Nat × Nd)), (cmpH o hb).map Prod.fst = hb.map Prod.fst
  | _, [] => rfl
  | o, x :: r => by simp [cmpH, cmpH_fst (o + x.2.s) r]
theorem nodes_cmpH (F : Nat) (hb : List (Nat × Nd)) : nodes F (cmpH 0 hb) = comp 0 (nodes F hb) := by
  unfold nodes; rw [cmpH_snd]; simp [comp]
theorem look_cmpH : ∀ (o : Nat) (hb : List (Nat × Nd)) (i : Int), look hb i = look (cmpH o hb) i
  | _, [], _ => rfl
  | o, x :: r, i => by
    have ih := look_cmpH (o + x.2.s) r i
    unfold look at ih ⊢
    simp only [cmpH, List.find?_cons]
    by_cases e : (x.1 : Int) = i
    · simp [e]
    · simp only [e, decide_false]; exact ih
theorem cmpH_pos : ∀ (o : Nat) (hb : List (Nat × Nd)), (∀ x ∈ hb, 1 ≤ x.2.s ∧ 1 ≤ x.1) → ∀ x ∈ cmpH o hb, 1 ≤ x.2.s ∧ 1 ≤ x.1
  | _, [], _, _, hx => by cases hx
  | o, y :: r, h, x, hx => by
    rcases List.mem_cons.1 hx with rfl | hx
    · exact h y (by simp)
    · exact cmpH_pos (o + y.2.s) r (fun z hz => h z (by simp [hz])) x hx
theorem gap_comp : ∀ (o : Nat) (l : List Nd) (size i : Nat), i + 1 < l.length → gap (comp o l) size i = 0
  | o, x :: y :: r, size, 0, _ => by simp [comp, gap]
  | o, x :: y :: r, size, i + 1, h => by
    have := gap_comp (o + x.s) (y :: r) size i (by simpa using h)
    exact this

theorem Compact_rp {A C M F f size least nn : Nat} {cs : List Int} {hb : List (Nat × Nd)} (w : World) (h : Rp w A C M F f size least nn cs hb) :
    Calls Try.prog 31 #[.pointer (some ⟨A, 0, none⟩)] w fun e w' => e = .returned (.int .i64 (mv (nodes F hb) (nodes F hb).length : Nat)) ∧ Rp w' A C M F f size least nn (cc cs (nodes F hb) (nodes F hb).length) (cmpH 0 hb) ∧ Kept (FP A C M F hb) w w' := by
  refine (Compact_any (hb.map Prod.snd) (nodes F hb) rfl w h.hA h.hC h.len h.seg h.nod h.geo (fun x hx => by obtain ⟨y, hy, rfl⟩ := List.mem_map.1 hx; exact (h.pos y hy).1) h.sz h.nodes_len).mono ?_
  rintro e w' ⟨he, hA, hC, hs, hk⟩
  have hn := nodes_cmpH F hb
  have hm := h.map_ne
  refine ⟨he, ⟨hA, hC, cc_length h.geo h.len _, by rw [hn]; exact hs, by rw [hn, comp_map]; exact h.nod, by rw [hn]; exact Geo.comp (o := 0) (by have := h.geo.le; omega), cmpH_pos 0 hb h.pos, h.sz1, h.sz, ?_, by rw [cmpH_fst]; exact h.hnd, ?_, ⟨h.lst.1, fun i i1 i2 => by rw [← look_cmpH]; exact h.lst.2 i i1 i2⟩⟩, hk.mono (fun k e => ?_)⟩
  · refine (h.map.kept hk (fun e => ?_)).congr (look_cmpH 0 hb)
    rcases e with e | e
    · exact hm.2.1 e
    · obtain ⟨y, hy, e⟩ := List.mem_map.1 e
      exact hm.2.2 y hy e.symm
  · obtain ⟨j, hj, hf, hz⟩ := h.full
    have hj' : j < (nodes F (cmpH 0 hb)).length := by rw [hn, comp_length]; exact hj
    refine ⟨j, hj', ?_, fun i hi => by rw [hn]; exact gap_comp 0 _ size i (by omega)⟩
    have : (nodes F (cmpH 0 hb))[j]? = some ⟨(nodes F hb)[j].p, 0 + sumS ((nodes F hb).take j), (nodes F hb)[j].s⟩ := by
      rw [hn, List.getElem?_eq_getElem (by rw [comp_length]; exact hj), comp_at 0 _ j hj]
    rw [List.getElem?_eq_getElem hj'] at this
    rw [Option.some.inj this, hf]
  · rcases e with e | e
    · exact .inr (.inl e)
    · exact .inr (.inr (.inr e))
end Go.Proofs.Ytdaklohfecinjaa
