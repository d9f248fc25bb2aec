/- Calls in a slice; what they make of a table. -/
import Derived.Test.YtnfamebihpnjlaaY1
import Derived.ProofKit
import Derived.Deep.Slices
import Derived.Lib.SmallJoins
namespace Go.Proofs.Ytnfamebihpnjlaa
open Go.ChangeShapes Go.WideShapes Go.ChangeAt Go.WideMaps Go.WideElems Go.RowKit
set_option linter.unusedVariables false
set_option linter.unusedSimpArgs false

theorem row_own : ownKnob Try.prog.godebug = none := by kernel_rfl
theorem Try_laidOut : laidOutB Try.prog = true := by kernel_rfl
theorem cellsT3 : Try.prog.cellsOf 3 = 1 := by kernel_rfl
theorem cellsT9 : Try.prog.cellsOf 9 = 1 := by kernel_rfl
theorem cellsT31 : Try.prog.cellsOf 31 = 3 := by kernel_rfl

/-- A call: its kind, its text, its handle. -/
structure Ac where
  kind : Int
  s : ByteArray
  h : Int
/-- .. as a value. -/
abbrev acV (a : Ac) : Value := .agg #[.int .i64 a.kind, .string a.s, .int .i64 a.h]

/-- The calls that a slice holds. -/
def Acts (w : World) (v : Value) (L : List Ac) : Prop :=
  ∃ ao cap, v = .slice ao L.length cap ∧ (∀ a ∈ L, wf a.h ∧ a.s.size ≤ maxLen) ∧ (0 < L.length → ∃ b off, ao = some ⟨b, off, none⟩ ∧ ∀ i a, L[i]? = some a →
    w.cell? ⟨b, off + i * 3, none⟩ = some (.int .i64 a.kind) ∧ w.cell? ⟨b, off + i * 3 + 1, none⟩ = some (.string a.s) ∧ w.cell? ⟨b, off + i * 3 + 2, none⟩ = some (.int .i64 a.h))

theorem Kept.cell {w w' : World} (h : Kept No w w') {b o : Nat} {v : Value} (hc : w.cell? ⟨b, o, none⟩ = some v) : w'.cell? ⟨b, o, none⟩ = some v := by
  cases e : w.heap[b]? with
  | none => simp [World.cell?, e] at hc
  | some ob =>
    have := h.heap e id
    simp only [World.cell?, e, this] at hc ⊢
    exact hc
theorem Acts.kept {w w' : World} {v : Value} {L : List Ac} (h : Acts w v L) (hk : Kept No w w') : Acts w' v L := by
  obtain ⟨ao, cap, rfl, h1, h2⟩ := h
  refine ⟨ao, cap, rfl, h1, fun h0 => ?_⟩
  obtain ⟨b, off, rfl, hc⟩ := h2 h0
  refine ⟨b, off, rfl, fun i a ha => ?_⟩
  obtain ⟨c0, c1, c2⟩ := hc i a ha
  exact ⟨hk.cell c0, hk.cell c1, hk.cell c2⟩

theorem add_plain (b off j : Nat) : (⟨b, off, none⟩ : Addr).add j = ⟨b, off + j, none⟩ := by simp [Addr.add]

section
variable {H : Type} {enc : TypeId × Value → H} {W : World} {base : Nat} {spare : Nat → Bool} {held : Bool}
set_option maxRecDepth 100000 in
theorem open_acts {fuel : Nat} {x : DataW H × List MemPlace} {a0 : Option Addr} {len cap : Nat}
    (h : DataW.trod enc Try.prog W base spare held fuel 22 [.slice a0 len cap] = some x) : ∃ L, Acts W (.slice a0 len cap) L := by
  rcases Deep.open_slice Try.underlying22 h with ⟨hcs, _⟩ | ⟨a, len', cap', m, n, D, Pl, hcs, hb, hl, hm, hmm, _, hx⟩
  · simp at hcs
    obtain ⟨rfl, rfl, rfl⟩ := hcs
    exact ⟨[], none, 0, rfl, by simp, by simp⟩
  · simp at hcs
    obtain ⟨rfl, rfl, rfl⟩ := hcs
    have hlm : len ≤ m := by rw [hmm]; split <;> omega
    have each : ∀ i, i < len → ∃ q : Ac, (W.cell? (a.add (i * 3)) = some (.int .i64 q.kind) ∧ W.cell? (a.add (i * 3 + 1)) = some (.string q.s) ∧ W.cell? (a.add (i * 3 + 2)) = some (.int .i64 q.h)) ∧ (wf q.h ∧ q.s.size ≤ maxLen) := by
      intro i hi
      obtain ⟨cs', h1, h2⟩ := hx i (by omega)
      rw [cellsT31] at h1
      obtain ⟨_, hlen, hcell⟩ := World.cells?_some h1
      obtain ⟨xs, n', _, _, hl', hlen', hf⟩ := DataW.trod_struct Try.underlying31 h2
      match cs', xs, hlen, hlen' with
      | [v0, v1, v2], [y0, y1, y2], _, _ =>
        have g0 := hf 0 _ rfl
        have g1 := hf 1 _ rfl
        have g2 := hf 2 _ rfl
        simp [cellsT3, cellsT9] at g0 g1 g2
        obtain ⟨z0, e0, _, _⟩ := DataW.trod_int Try.underlying3 g0
        obtain ⟨z1, e1, _, w1⟩ := DataW.trod_string Try.underlying9 g1
        obtain ⟨z2, e2, _, w2⟩ := DataW.trod_int Try.underlying3 g2
        simp only [List.cons.injEq, and_true] at e0 e1 e2
        subst e0 e1 e2
        have c0 := hcell 0 (by omega)
        have c1 := hcell 1 (by omega)
        have c2 := hcell 2 (by omega)
        rw [Deep.add_add] at c0 c1 c2
        exact ⟨⟨z0, z1, z2⟩, ⟨by simpa using c0, by simpa using c1, by simpa using c2⟩, w2, w1⟩
    haveI : Inhabited Ac := ⟨⟨0, ⟨#[]⟩, 0⟩⟩
    obtain ⟨q, hq⟩ := Deep.choose_lt each
    refine ⟨(List.range len).map q, some a, cap, by simp, fun y hy => ?_, fun h0 => ?_⟩
    · obtain ⟨i, hi, rfl⟩ := List.mem_map.1 hy
      exact (hq i (List.mem_range.1 hi)).2
    · have hl0 : 0 < len := by simpa using h0
      obtain ⟨b, off, spot⟩ := a
      have hspot : spot = none := by simpa [Addr.add] using World.cell?_spot (hq 0 hl0).1.1
      subst hspot
      refine ⟨b, off, rfl, fun i a' hi => ?_⟩
      have hil : i < len := by
        have := (List.getElem?_eq_some_iff.1 hi).1
        simpa using this
      obtain ⟨⟨c0, c1, c2⟩, _⟩ := hq i hil
      rw [add_plain] at c0 c1 c2
      have ea : a' = q i := by simp [hil] at hi; exact hi.symm
      rw [ea]
      exact ⟨c0, c1, c2⟩
end

/-- Is a text there, or a handle? -/
def hasK (C : Ct) (s : ByteArray) (x : Int) : Bool := C.any fun e => e.1 == x || e.2.data.toList == s.data.toList
theorem hasK_iff (C : Ct) (s : ByteArray) (x : Int) : hasK C s x = true ↔ hasC C s x := by
  unfold hasK hasC
  rw [List.any_eq_true]
  constructor
  · rintro ⟨e, he, h⟩
    refine ⟨e, he, ?_⟩
    simp only [Bool.or_eq_true, beq_iff_eq] at h
    exact h.imp id ba_ext
  · rintro ⟨e, he, h⟩
    refine ⟨e, he, ?_⟩
    simp only [Bool.or_eq_true, beq_iff_eq]
    exact h.imp id (fun h => by rw [h])
/-- What a call makes of it. -/
def doC (C : Ct) (a : Ac) : Ct :=
  if a.kind = 1 then (if a.h < 1 ∨ hasK C a.s a.h = true then C else C ++ [(a.h, a.s)]) else if a.kind = 2 then C.filter (fun e => e.1 != a.h) else C
/-- What calls make. -/
def playC (L : List Ac) : Ct := L.foldl doC []
theorem playC_snoc (L : List Ac) (x : Ac) : playC (L ++ [x]) = doC (playC L) x := by
  unfold playC; rw [List.foldl_append]; rfl

theorem Tab.kept {w0 w w' : World} {A b : Nat} {C : Ct} (h : Tab w0 w A b C) (hk : Kept No w w') : Tab w0 w' A b C := by
  obtain ⟨p, n, L, hp, hR, r⟩ := h
  exact ⟨p, n, L, hp, hR.kept hk, r⟩
theorem Tab.more {w0 w : World} {A b b' : Nat} {C : Ct} (h : Tab w0 w A b C) (hb : b ≤ b') : Tab w0 w A b' C := by
  obtain ⟨p, n, L, hp, r⟩ := h
  exact ⟨p, n, L, by omega, r⟩
theorem Tab.since {w0 w : World} {A b : Nat} {C : Ct} (h : Tab w0 w A b C) : Kept No w0 w := by
  obtain ⟨p, n, L, hp, ⟨C', M, vs, _, hk⟩, r⟩ := h
  exact hk
theorem Tab.new (w : World) : Calls Try.prog 9 #[] w fun e w' => ∃ A, e = .returned (.pointer (some ⟨A, 0, none⟩)) ∧ Tab w w' A 0 [] :=
  (Re.new w).mono fun e w' ⟨A, he, h⟩ => ⟨A, he, 0, 4, [], Nat.le_refl _, h, Inv4.start, List.Perm.refl _⟩

set_option maxRecDepth 20000 in
set_option maxHeartbeats 1000000 in
theorem Tab.do {w0 w : World} {A b : Nat} {C : Ct} (h : Tab w0 w A b C) (hb : b ≤ 10000) (a : Ac) (ha : wf a.h) (hs : a.s.size ≤ maxLen) :
    Calls Try.prog 13 #[.pointer (some ⟨A, 0, none⟩), acV a] w fun e w' => (∃ v, e = .returned v) ∧ Tab w0 w' A (b + 1) (doC C a) := by
  obtain ⟨kind, s, x⟩ := a
  have H : Hid (Tab w0 w A b C) := h
  have HB : Hid (wf x ∧ s.size ≤ maxLen) := ⟨ha, hs⟩
  clear h ha hs
  obtain ⟨W, HW⟩ : ∃ W, Hid (W = w.alloc (.cells #[.int .i64 kind, .string s, .int .i64 x] 31)) := ⟨_, rfl⟩
  have HT : Hid (Tab w0 W A b C) := by show Tab _ _ _ _ _; rw [HW.out]; exact H.out.kept ((Kept.refl _ _).alloc _)
  have c0 : W.cell? ⟨w.heap.size, 0, none⟩ = some (.int .i64 kind) := by rw [HW.out]; simp
  have c1 : W.cell? ⟨w.heap.size, 1, none⟩ = some (.string s) := by rw [HW.out]; simp
  have c2 : W.cell? ⟨w.heap.size, 2, none⟩ = some (.int .i64 x) := by rw [HW.out]; simp
  by_cases h1 : kind = 1
  · subst h1
    have HP : Hid _ := HT.out.put hb s HB.out.2 x HB.out.1
    go_enter Try.func13, Try.ntmps13
    go_wp2_with fail
    rw [← HW.out]
    go_wp2_with fail
    refine Calls.mono HP.out ?_
    rintro e w1 h1
    have HE : Hid (∃ c : Int, e = .returned (.int .i64 c) ∧ Tab w0 w1 A (b + 1) (doC C ⟨1, s, x⟩)) := by
      unfold doC
      rcases h1 with ⟨g1, g2, g3⟩ | ⟨g0, g1, g2, g3⟩ | ⟨g0, g1, g2, g3⟩
      · exact ⟨1, g2, by simp [g1]; exact g3⟩
      · exact ⟨17, g2, by simp [(hasK_iff C s x).2 g1]; exact g3⟩
      · have hk : hasK C s x = false := by
          cases hk : hasK C s x with
          | false => rfl
          | true => exact absurd ((hasK_iff C s x).1 hk) g1
        have hx : ¬ x < 1 := by omega
        exact ⟨0, g2, by simp [hk, hx]; exact g3⟩
    clear h1 HP
    obtain ⟨c, rfl, ht⟩ := HE.out
    have HF : Hid (Tab w0 w1 A (b + 1) (doC C ⟨1, s, x⟩)) := ht
    clear HE ht
    go_wp2_with (go_at_call 28; refine (no_any _ _).mono ?_; rintro e w' ⟨rfl, rfl⟩)
    go_ret
    exact ⟨⟨_, rfl⟩, HF.out⟩
  · have b1 : (kind == 1) = false := by rw [beq_eq_false_iff_ne]; exact h1
    by_cases h2 : kind = 2
    · subst h2
      have HP : Hid _ := HT.out.drop hb x HB.out.1
      go_enter Try.func13, Try.ntmps13
      go_wp2_with fail
      rw [← HW.out]
      go_wp2_with fail
      refine Calls.mono HP.out ?_
      rintro e w1 h1
      have HE : Hid (∃ c : Int, e = .returned (.int .i64 c) ∧ Tab w0 w1 A (b + 1) (doC C ⟨2, s, x⟩)) := by
        unfold doC
        rcases h1 with ⟨g1, g2, g3⟩ | ⟨g1, g2, g3⟩
        · refine ⟨5, g2, ?_⟩
          have e : C.filter (fun e => e.1 != x) = C := List.filter_eq_self.2 (fun y hy => by simpa using g1 y hy)
          simp only [show ¬ (2 : Int) = 1 by decide, if_false, if_true]
          rw [e]; exact g3.more (by omega)
        · refine ⟨0, g2, ?_⟩
          simp only [show ¬ (2 : Int) = 1 by decide, if_false, if_true]
          exact g3.more (by omega)
      clear h1 HP
      obtain ⟨c, rfl, ht⟩ := HE.out
      have HF : Hid (Tab w0 w1 A (b + 1) (doC C ⟨2, s, x⟩)) := ht
      clear HE ht
      go_wp2_with (go_at_call 28; refine (no_any _ _).mono ?_; rintro e w' ⟨rfl, rfl⟩)
      go_ret
      exact ⟨⟨_, rfl⟩, HF.out⟩
    · have b2 : (kind == 2) = false := by rw [beq_eq_false_iff_ne]; exact h2
      have HF : Hid (Tab w0 W A (b + 1) (doC C ⟨kind, s, x⟩)) := by
        show Tab _ _ _ _ _
        unfold doC; simp only [h1, h2, if_false]; exact HT.out.more (by omega)
      go_enter Try.func13, Try.ntmps13
      go_wp2_with fail
      all_goals (try rw [← HW.out])
      all_goals go_wp2
      all_goals go_ret
      all_goals exact ⟨⟨_, rfl⟩, HF.out⟩
end Go.Proofs.Ytnfamebihpnjlaa
