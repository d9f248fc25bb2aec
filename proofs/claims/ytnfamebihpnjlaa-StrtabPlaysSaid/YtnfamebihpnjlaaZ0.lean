/- Find, Text, Len and Drop on what a table has; beside another table. -/
import Derived.Test.YtnfamebihpnjlaaY4
namespace Go.Proofs.Ytnfamebihpnjlaa
open Go.RowKit
set_option linter.unusedVariables false
set_option linter.unusedSimpArgs false

/-- What a table can have. -/
structure GoodC (C : Ct) : Prop where
  hnd : (C.map Prod.fst).Nodup
  snd : (C.map fun e => e.2.data.toList).Nodup
  pos : ∀ e ∈ C, 1 ≤ e.1
  siz : ∀ e ∈ C, e.2.size ≤ maxLen
theorem Tab.good {w0 w : World} {A b : Nat} {C : Ct} (h : Tab w0 w A b C) : GoodC C := by
  obtain ⟨p, n, L, hp, hR, hI, hc⟩ := h
  have g := hR.good
  refine ⟨(hc.map Prod.fst).nodup_iff.1 (by unfold ct; rw [List.map_map]; exact g.hnd), (hc.map fun e => e.2.data.toList).nodup_iff.1 (by unfold ct; rw [List.map_map]; exact g.snd), fun e he => ?_, fun e he => ?_⟩
  · obtain ⟨y, hy, rfl⟩ := (ct_mem hc).1 he; exact (g.pos y hy).1
  · obtain ⟨y, hy, rfl⟩ := (ct_mem hc).1 he; exact g.siz y hy
theorem nodup_eq {α β : Type} {f : α → β} : ∀ {l : List α}, (l.map f).Nodup → ∀ {a b}, a ∈ l → b ∈ l → f a = f b → a = b
  | [], _, _, _, ha, _, _ => by cases ha
  | x :: l, hn, a, b, ha, hb, he => by
    rw [List.map_cons, List.nodup_cons] at hn
    rcases List.mem_cons.1 ha with rfl | ha' <;> rcases List.mem_cons.1 hb with rfl | hb'
    · rfl
    · exact absurd (he ▸ List.mem_map_of_mem hb') hn.1
    · exact absurd (he ▸ List.mem_map_of_mem ha') hn.1
    · exact nodup_eq hn.2 ha' hb' he
theorem GoodC.same_h {C : Ct} (g : GoodC C) {h : Int} {s t : ByteArray} (h1 : (h, s) ∈ C) (h2 : (h, t) ∈ C) : s = t := by
  have := nodup_eq g.hnd h1 h2 rfl
  exact (Prod.mk.inj this).2
theorem GoodC.same_s {C : Ct} (g : GoodC C) {h k : Int} {s : ByteArray} (h1 : (h, s) ∈ C) (h2 : (k, s) ∈ C) : h = k := by
  have := nodup_eq (f := fun e : Int × ByteArray => e.2.data.toList) g.snd h1 h2 rfl
  exact (Prod.mk.inj this).1

/-- What Find answers. -/
def fndV (o : Option Int) : Value := .tuple #[.int .i64 (o.getD 0), .bool o.isSome]
/-- What Text answers. -/
def txtV (o : Option ByteArray) : Value := .tuple #[.string (o.getD ⟨#[]⟩), .bool o.isSome]

theorem find_iff {L : List Ent} {p : Nat} (g : Good L p) {C : Ct} (hc : (ct L).Perm C) (s : ByteArray) (x : Int) : find L s = some x ↔ (x, s) ∈ C := by
  rw [ct_mem hc]
  constructor
  · intro h
    rcases find_spec (L := L) (s := s) with ⟨e, he, h1, h2⟩ | ⟨_, h2⟩
    · rw [h2] at h
      exact ⟨e, he, by rw [← h1]; simpa using h⟩
    · rw [h2] at h; cases h
  · rintro ⟨e, he, h1⟩
    have h2 := (Prod.mk.inj h1)
    rw [← h2.2, ← h2.1]
    exact find_in_chain (n := 0) (h := 0) g.snd he rfl
theorem look_iff {L : List Ent} {p : Nat} (g : Good L p) {C : Ct} (hc : (ct L).Perm C) (t : ByteArray) (x : Int) : (lookE L x).map Prod.fst = some t ↔ (x, t) ∈ C := by
  rw [ct_mem hc]
  constructor
  · intro h
    obtain ⟨y, hy, h1⟩ := Option.map_eq_some_iff.1 h
    obtain ⟨e, he, h2, h3, _⟩ := lookE_some hy
    exact ⟨e, he, by rw [h2, h3, h1]⟩
  · rintro ⟨e, he, h1⟩
    have h2 := (Prod.mk.inj h1)
    rw [← h2.1, lookE_mem g.hnd he, ← h2.2]; rfl

theorem Rep.findC {w : World} {B A C' M n p nn : Nat} {vs : List Value} {L : List Ent} (h : Rep w B A C' M n p nn vs L) {C : Ct} (hc : (ct L).Perm C) (s : ByteArray) (hs : s.size ≤ maxLen) :
    Calls Try.prog 17 #[.pointer (some ⟨A, 0, none⟩), .string s] w fun e w' => ∃ o, e = .returned (fndV o) ∧ (∀ x, o = some x ↔ (x, s) ∈ C) ∧ Kept No w w' :=
  (Find_any h s hs).mono fun e w' ⟨he, m, hw⟩ => ⟨find L s, he, fun x => find_iff h.good hc s x, by rw [hw]; exact (Kept.refl _ _).drewN m⟩
theorem Tab.find {w0 w : World} {A b : Nat} {C : Ct} (h : Tab w0 w A b C) (s : ByteArray) (hs : s.size ≤ maxLen) :
    Calls Try.prog 17 #[.pointer (some ⟨A, 0, none⟩), .string s] w fun e w' => ∃ o, e = .returned (fndV o) ∧ (∀ x, o = some x ↔ (x, s) ∈ C) ∧ Kept No w w' := by
  obtain ⟨p, n, L, hp, ⟨C', M, vs, h1, h2⟩, hI, hc⟩ := h
  exact h1.findC hc s hs
theorem Tab.find_apart {w1 w2 w3 : World} {A b : Nat} {C : Ct} (h : Tab w1 w2 A b C) (hk : Kept (fun k => k < w1.heap.size) w2 w3) (s : ByteArray) (hs : s.size ≤ maxLen) :
    Calls Try.prog 17 #[.pointer (some ⟨A, 0, none⟩), .string s] w3 fun e w' => ∃ o, e = .returned (fndV o) ∧ (∀ x, o = some x ↔ (x, s) ∈ C) ∧ Kept No w3 w' := by
  obtain ⟨p, n, L, hp, ⟨C', M, vs, h1, h2⟩, hI, hc⟩ := h
  exact (h1.kept hk (fun k hF => by have := (h1.fp_lt hF).1; omega)).findC hc s hs
theorem Tab.text {w0 w : World} {A b : Nat} {C : Ct} (h : Tab w0 w A b C) (x : Int) (hx : wf x) :
    Calls Try.prog 19 #[.pointer (some ⟨A, 0, none⟩), .int .i64 x] w fun e w' => ∃ o, e = .returned (txtV o) ∧ (∀ t, o = some t ↔ (x, t) ∈ C) ∧ Kept No w w' := by
  obtain ⟨p, n, L, hp, ⟨C', M, vs, h1, h2⟩, hI, hc⟩ := h
  refine (Text_any h1 x hx).mono fun e w' ⟨he, hk⟩ => ⟨(lookE L x).map Prod.fst, ?_, fun t => look_iff h1.good hc t x, hk⟩
  rw [he]
  unfold textV txtV
  cases lookE L x with
  | none => rfl
  | some y => rfl
theorem Tab.len {w0 w : World} {A b : Nat} {C : Ct} (h : Tab w0 w A b C) : Calls Try.prog 15 #[.pointer (some ⟨A, 0, none⟩)] w fun e w' => e = .returned (.int .i64 (C.length : Nat)) ∧ w = w' := by
  obtain ⟨p, n, L, hp, hR, hI, hc⟩ := h
  have : L.length = C.length := by rw [← hc.length_eq]; simp [ct]
  rw [← this]; exact hR.len

/-- Drop, beside what was made since. -/
theorem Tab.dropK {w0 w1 w : World} {A b : Nat} {C : Ct} (h : Tab w0 w1 A b C) (hk1 : Kept No w1 w) (hb : b ≤ 10000) (x : Int) (hw : wf x) :
    Calls Try.prog 29 #[.pointer (some ⟨A, 0, none⟩), .int .i64 x] w fun e w' => Kept (fun k => k < w1.heap.size) w w' ∧
      (((∀ y ∈ C, y.1 ≠ x) ∧ e = .returned (.int .i64 5) ∧ Tab w0 w' A b C) ∨ ((∃ y ∈ C, y.1 = x) ∧ e = .returned (.int .i64 0) ∧ Tab w0 w' A b (C.filter (fun e => e.1 != x)))) := by
  obtain ⟨p, n, L, hp, hR, hI, hc⟩ := h
  have hle := hR.le
  have hgd := hR.good
  obtain ⟨C', M, vs, h1', h2'⟩ := hR
  have hFl : ∀ k, FP A C' M vs k → k < w1.heap.size := fun k hF => (h1'.fp_lt hF).2
  have h1 := h1'.no hk1
  have h2 := h2'.trans hk1
  clear h1' h2'
  by_cases hx : ∃ e ∈ L, e.h = x
  · obtain ⟨e, he, rfl⟩ := hx
    have hmem : ∃ y ∈ C, y.1 = e.h := ⟨_, (ct_mem hc).2 ⟨e, he, rfl⟩, rfl⟩
    have hlen := rm_length hgd.hnd he
    by_cases hr : n ≤ 4 ∨ n ≤ 4 * (L.length - 1) + 3
    · refine (Drop_front h1 he hr).mono ?_
      rintro r w' ⟨rfl, vs', h3, h4, _⟩
      exact ⟨h4.mono hFl, Or.inr ⟨hmem, rfl, p, n, _, hp, ⟨C', M, vs', h3, kept_fp h1 h2 h4⟩, by rw [hlen]; exact hI.less hr, by rw [ct_rm]; exact hc.filter _⟩⟩
    · have h4 : ¬ n ≤ 4 := fun h => hr (Or.inl h)
      have h5 : 4 * (L.length - 1) + 3 < n := by omega
      obtain ⟨h8, hI2⟩ := hI.half h4 h5
      refine (Drop_fewer h1 he h8 h5 (by omega)).mono ?_
      rintro r w' ⟨rfl, C2, vs2, L2, hp2, h3, h4', _⟩
      have hl2 : L2.length = L.length - 1 := by rw [hp2.length_eq, hlen]
      refine ⟨h4'.mono hFl, Or.inr ⟨hmem, rfl, p, n / 2, L2, hp, ⟨C2, M, vs2, h3, kept_fp h1 h2 h4'⟩, by rw [hl2]; exact hI2, ?_⟩⟩
      have e1 : (ct L2).Perm (ct (rm L e.h)) := hp2.map _
      rw [ct_rm] at e1
      exact e1.trans (hc.filter _)
  · have hn : ∀ e ∈ L, e.h ≠ x := fun e he h1 => hx ⟨e, he, h1⟩
    refine (Drop_none h1 x hw (lookE_none hn)).mono ?_
    rintro e w' ⟨rfl, hk⟩
    refine ⟨hk.no, Or.inl ⟨fun y hy h3 => ?_, rfl, p, n, L, hp, ⟨C', M, vs, h1.no hk, h2.trans hk⟩, hI, hc⟩⟩
    obtain ⟨e, he, h4⟩ := (ct_mem hc).1 hy
    exact hn e he (by rw [← h3, ← h4])

theorem filter_len {C : Ct} (hn : (C.map Prod.fst).Nodup) {y : Int × ByteArray} (hy : y ∈ C) : (C.filter (fun e => e.1 != y.1)).length + 1 = C.length := by
  induction C with
  | nil => cases hy
  | cons z C ih =>
    rw [List.map_cons, List.nodup_cons] at hn
    rcases List.mem_cons.1 hy with rfl | h
    · have : (C.filter (fun e => e.1 != y.1)) = C := List.filter_eq_self.2 (fun e he => by
        simp only [bne_iff_ne, ne_eq]
        intro e1
        exact hn.1 (e1 ▸ List.mem_map_of_mem he))
      rw [List.filter_cons]; simp [this]
    · have hne : (z.1 != y.1) = true := by
        simp only [bne_iff_ne, ne_eq]
        intro e1
        exact hn.1 (e1 ▸ List.mem_map_of_mem h)
      rw [List.filter_cons, if_pos hne, List.length_cons, List.length_cons, ih hn.2 h]
end Go.Proofs.Ytnfamebihpnjlaa
