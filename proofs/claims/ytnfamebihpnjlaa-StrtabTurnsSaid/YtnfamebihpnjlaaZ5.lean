/- Handles of texts in a slice. -/
import Derived.Test.YtnfamebihpnjlaaZ4
import Derived.SliceStrings
namespace Go.Proofs.Ytnfamebihpnjlaa
open Go.RowKit
set_option linter.unusedVariables false
set_option linter.unusedSimpArgs false

/-- A text of a list. -/
abbrev tx (ss : List ByteArray) (k : Nat) : ByteArray := ss.getD k ByteArray.empty
theorem tx_get {ss : List ByteArray} {k : Nat} (hk : k < ss.length) : tx ss k = ss[k] := by simp [tx, List.getD_eq_getElem?_getD, List.getElem?_eq_getElem hk]
/-- The handle of the k-th text: the first place where it stands, and 1. -/
def hd (ss : List ByteArray) (k : Nat) : Nat := ss.findIdx (fun t => t.data.toList == (tx ss k).data.toList) + 1
theorem hd_spec {ss : List ByteArray} {k : Nat} (hk : k < ss.length) : ∃ i, hd ss k = i + 1 ∧ i ≤ k ∧ tx ss i = tx ss k ∧ ∀ j, j < i → tx ss j ≠ tx ss k := by
  have eg : ss[k] = tx ss k := (tx_get hk).symm
  unfold hd
  generalize tx ss k = u at eg ⊢
  have hex : ss.findIdx (fun t => t.data.toList == u.data.toList) < ss.length := List.findIdx_lt_length_of_exists ⟨ss[k], List.getElem_mem hk, by rw [eg]; simp⟩
  have hle : ss.findIdx (fun t => t.data.toList == u.data.toList) ≤ k := by
    rcases Nat.lt_or_ge k (ss.findIdx (fun t => t.data.toList == u.data.toList)) with h | h
    · have := List.not_of_lt_findIdx h
      simp [eg] at this
    · exact h
  refine ⟨_, rfl, hle, ?_, fun j hj e => ?_⟩
  · have := List.findIdx_getElem (p := fun t : ByteArray => t.data.toList == u.data.toList) (xs := ss) (w := hex)
    rw [tx_get hex]
    exact ba_ext (by simpa using this)
  · have := List.not_of_lt_findIdx hj
    have hjl : j < ss.length := by omega
    rw [tx_get hjl] at e
    simp [e] at this
theorem hd_congr {ss : List ByteArray} {j k : Nat} (h : tx ss j = tx ss k) : hd ss j = hd ss k := by unfold hd; rw [h]
theorem hd_inj {ss : List ByteArray} {j k : Nat} (hj : j < ss.length) (hk : k < ss.length) (h : hd ss j = hd ss k) : tx ss j = tx ss k := by
  obtain ⟨a, a1, _, a3, _⟩ := hd_spec hj
  obtain ⟨b, b1, _, b3, _⟩ := hd_spec hk
  obtain rfl : a = b := by omega
  rw [← a3, ← b3]
theorem hd_le {ss : List ByteArray} {k : Nat} (hk : k < ss.length) : 1 ≤ hd ss k ∧ hd ss k ≤ k + 1 := by
  obtain ⟨a, a1, a2, _⟩ := hd_spec hk
  omega

/-- C has the texts at places P. -/
def CS (ss : List ByteArray) (P : Nat → Prop) (C : Ct) : Prop := ∀ x t, (x, t) ∈ C ↔ ∃ k, P k ∧ x = (hd ss k : Int) ∧ t = tx ss k
section
variable {ss : List ByteArray} {P : Nat → Prop} {C : Ct}
theorem CS.has (h : CS ss P C) (hP : ∀ k, P k → k < ss.length) {i : Nat} (hi : i < ss.length) : hasC C (tx ss i) (hd ss i) ↔ ((hd ss i : Int), tx ss i) ∈ C := by
  constructor
  · rintro ⟨⟨x, t⟩, he, h1⟩
    obtain ⟨k, hk, rfl, rfl⟩ := (h x t).1 he
    have e : tx ss k = tx ss i := by
      rcases h1 with h1 | h1
      · exact hd_inj (hP k hk) hi (by dsimp only at h1; omega)
      · exact h1
    rw [← e, ← hd_congr e]; exact he
  · intro h1; exact ⟨_, h1, Or.inl rfl⟩
theorem CS.there (h : CS ss P C) {i : Nat} (h1 : ((hd ss i : Int), tx ss i) ∈ C) : CS ss (fun k => P k ∨ k = i) C := by
  intro x t
  rw [h x t]
  constructor
  · rintro ⟨k, hk, r⟩; exact ⟨k, Or.inl hk, r⟩
  · rintro ⟨k, hk | rfl, r1, r2⟩
    · exact ⟨k, hk, r1, r2⟩
    · rw [r1, r2]; exact (h _ _).1 h1
theorem CS.put (h : CS ss P C) (i : Nat) : CS ss (fun k => P k ∨ k = i) (C ++ [((hd ss i : Int), tx ss i)]) := by
  intro x t
  rw [List.mem_append, h x t]
  constructor
  · rintro (⟨k, hk, r⟩ | h1)
    · exact ⟨k, Or.inl hk, r⟩
    · have h1 := List.mem_singleton.1 h1
      obtain ⟨e1, e2⟩ := Prod.mk.inj h1
      exact ⟨i, Or.inr rfl, e1, e2⟩
  · rintro ⟨k, hk | rfl, r1, r2⟩
    · exact Or.inl ⟨k, hk, r1, r2⟩
    · exact Or.inr (by rw [r1, r2]; simp)
theorem CS.congr (h : CS ss P C) {Q : Nat → Prop} (hq : ∀ k, P k ↔ Q k) : CS ss Q C := by
  have e : P = Q := funext fun k => propext (hq k)
  rw [← e]; exact h
theorem CS.small (h : CS ss P C) (hP : ∀ k, P k → k < ss.length) {y : Int × ByteArray} (hy : y ∈ C) : y.1 ≤ ss.length := by
  obtain ⟨k, hk, h1, _⟩ := (h y.1 y.2).1 hy
  have := hd_le (hP k hk)
  have := hP k hk
  omega
theorem CS.perm {C' : Ct} (h : CS ss P C) (h' : CS ss P C') (g : GoodC C) (g' : GoodC C') : C.Perm C' := by
  have n1 : C.Nodup := List.Pairwise.of_map Prod.fst (fun a b h e => h (by rw [e])) g.hnd
  have n2 : C'.Nodup := List.Pairwise.of_map Prod.fst (fun a b h e => h (by rw [e])) g'.hnd
  exact (List.perm_ext_iff_of_nodup n1 n2).2 (fun ⟨x, t⟩ => (h x t).trans (h' x t).symm)
end

/-- A slice of texts. -/
def Strs (w : World) (v : Value) (ss : List ByteArray) : Prop :=
  ∃ ao cap, v = .slice ao ss.length cap ∧ (∀ s ∈ ss, s.size ≤ 140737488351232) ∧ (0 < ss.length → ∃ b off, ao = some ⟨b, off, none⟩ ∧ ∀ i, i < ss.length → w.cell? ⟨b, off + i, none⟩ = some (.string (tx ss i)))
theorem Strs.kept {w w' : World} {v : Value} {ss : List ByteArray} (h : Strs w v ss) (hk : Kept No w w') : Strs w' v ss := by
  obtain ⟨ao, cap, rfl, h1, h2⟩ := h
  refine ⟨ao, cap, rfl, h1, fun h0 => ?_⟩
  obtain ⟨b, off, rfl, hc⟩ := h2 h0
  exact ⟨b, off, rfl, fun i hi => hk.cell (hc i hi)⟩
theorem Strs.at {w : World} {ao : Option Addr} {n cap : Nat} {ss : List ByteArray} (h : Strs w (.slice ao n cap) ss) {i : Nat} (hi : i < ss.length) : ∃ b off, ao = some ⟨b, off, none⟩ ∧ ∀ i, i < ss.length → w.cell? ⟨b, off + i, none⟩ = some (.string (tx ss i)) := by
  obtain ⟨ao', cap', hv, _, h2⟩ := h
  injection hv with e1 e2 e3
  subst e1
  exact h2 (by omega)

set_option maxRecDepth 20000 in
set_option maxHeartbeats 1000000 in
/-- handle. -/
theorem handle_any {w : World} {Bx : Nat} {ao : Option Addr} {cap : Nat} {ss : List ByteArray} (hB : w.cell? ⟨Bx, 0, none⟩ = some (.slice ao ss.length cap)) (hS : Strs w (.slice ao ss.length cap) ss) {k : Nat} (hk : k < ss.length) (hl : ss.length ≤ 100000) :
    Calls Try.prog 26 #[.int .i64 k, .pointer (some ⟨Bx, 0, none⟩)] w fun e w' => e = .returned (.int .i64 (hd ss k : Nat)) ∧ ∃ m, w' = w.drewN m := by
  obtain ⟨b, off, rfl, hcell⟩ := hS.at hk
  obtain ⟨a, ha1, ha2, ha3, ha4⟩ := hd_spec hk
  have HC : Hid (∀ i, i < ss.length → w.cell? ⟨b, off + i, none⟩ = some (.string (tx ss i))) := hcell
  have H3 : Hid (tx ss a = tx ss k) := ha3
  have H4 : Hid (∀ j, j < a → tx ss j ≠ tx ss k) := ha4
  rw [ha1]
  clear hcell hS ha1 ha3 ha4
  have ck := HC.out k hk
  generalize tx ss k = t at ck H3 H4
  go_enter Try.func26, Try.ntmps26
  go_wp2_with fail
  go_loopw [4] (fun v wr => ∃ i : Nat, i ≤ a ∧ v = .int .i64 i ∧ ∃ m, wr = w.drewN m) (fun v _ => k - (ivO v).toNat)
  case atStart => exact ⟨0, Nat.zero_le _, rfl, 0, rfl⟩
  case round =>
    obtain ⟨i, hi, rfl, m, rfl⟩ := hrel
    have kz : (k : Int) < (ss.length : Int) := by omega
    by_cases hia : i = a
    · subst hia
      by_cases hik : i < k
      · have hz : (i : Int) < (k : Int) := by omega
        have iz : (i : Int) < (ss.length : Int) := by omega
        have ci := HC.out i (by omega)
        rw [H3.out] at ci
        have hb : (t.toList == t.toList) = true := by simp
        go_wp2_with fail
        go_quiet (fail)
        go_wp2
        go_ret
        exact ⟨by first | rfl | go_num, _, rfl⟩
      · obtain rfl : i = k := by omega
        have hz : ¬ (i : Int) < (i : Int) := by omega
        go_wp2
        go_ret
        exact ⟨by first | rfl | go_num, _, rfl⟩
    · have hz : (i : Int) < (k : Int) := by omega
      have iz : (i : Int) < (ss.length : Int) := by omega
      have ci := HC.out i (by omega)
      have hne := H4.out i (by omega)
      generalize tx ss i = u at ci hne
      have hb : (u.toList == t.toList) = false := by
        rw [ByteArray.toList_eq, ByteArray.toList_eq, beq_eq_false_iff_ne]
        exact fun e => hne (ba_ext e)
      clear hne
      go_wp2_with fail
      go_quiet (fail)
      go_wp2
      go_round
      case rel => exact ⟨i + 1, by omega, by first | rfl | go_num, _, rfl⟩
      case measure => simp [ivO] <;> omega
end Go.Proofs.Ytnfamebihpnjlaa
