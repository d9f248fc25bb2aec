/- A token with a blank behind it. -/
import Derived.Test.YtidokamfppdnaaaDoorF3
namespace Go.Proofs.YtidokamfppdnaaaDoor
open Go.RowKit
set_option linter.unusedSimpArgs false
set_option linter.unusedVariables false

/-- What may stand behind: nothing, or a blank and anything. -/
def Beh (t : List UInt8) : Prop := t = [] ∨ ∃ c r, t = c :: r ∧ isBl c = true
theorem bl_nm {c : UInt8} (h : isBl c = true) : isNm c = false := by
  have h' := (isBl_iff c).1 h
  have hc : c = 9 ∨ c = 10 ∨ c = 13 ∨ c = 32 := by
    rcases h' with h | h | h | h
    · exact .inl (UInt8.toNat_inj.1 h)
    · exact .inr (.inl (UInt8.toNat_inj.1 h))
    · exact .inr (.inr (.inl (UInt8.toNat_inj.1 h)))
    · exact .inr (.inr (.inr (UInt8.toNat_inj.1 h)))
  rcases hc with rfl | rfl | rfl | rfl <;> decide
theorem bl_46 {c : UInt8} (h : isBl c = true) : ¬ c.toNat = 46 := by
  have h' := (isBl_iff c).1 h
  omega
theorem nameL_beh {t : List UInt8} (h : Beh t) : nameL t = 0 := by
  rcases h with rfl | ⟨c, r, rfl, hc⟩
  · rfl
  · rw [nameL, if_neg (by rw [bl_nm hc]; decide)]
theorem numL_beh {t : List UInt8} (h : Beh t) : numL t = 0 := by
  rcases h with rfl | ⟨c, r, rfl, hc⟩
  · rfl
  · cases r with
    | nil => simp [numL, bl_nm hc]
    | cons d r => rw [numL, if_neg (by rw [bl_nm hc]; decide), if_neg (fun h => bl_46 hc h.1)]
theorem nameL_glue {t : List UInt8} (h : Beh t) : ∀ l : List UInt8, nameL (l.take (nameL l) ++ t) = nameL l
  | [] => by simp [nameL_beh h, nameL]
  | c :: r => by
    by_cases hc : isNm c = true
    · have e : nameL (c :: r) = nameL r + 1 := by rw [nameL, if_pos hc]; omega
      rw [e, List.take_succ_cons, List.cons_append, nameL, if_pos hc, nameL_glue h r]; omega
    · have e : nameL (c :: r) = 0 := by rw [nameL, if_neg hc]
      rw [e, List.take_zero, List.nil_append, nameL_beh h]
theorem numL_step {c : UInt8} (hc : isNm c = true) (l : List UInt8) : numL (c :: l) = 1 + numL l := by
  cases l with
  | nil => simp [numL, hc]
  | cons d r => rw [numL, if_pos hc]
theorem numL_glue {t : List UInt8} (h : Beh t) : ∀ l : List UInt8, numL (l.take (numL l) ++ t) = numL l
  | [] => by simp [numL_beh h, numL]
  | [c] => by
    by_cases hc : isNm c = true
    · rw [show numL [c] = 1 by simp [numL, hc]]
      simp only [List.take_succ_cons, List.take_zero, List.cons_append, List.nil_append]
      rw [numL_step hc, numL_beh h]
    · rw [show numL [c] = 0 by simp [numL, hc], List.take_zero, List.nil_append, numL_beh h]
  | c :: d :: r => by
    have h1 := numL_glue h (d :: r)
    have h2 := numL_glue h r
    by_cases hc : isNm c = true
    · rw [numL_step hc, Nat.add_comm, List.take_succ_cons, List.cons_append, numL_step hc, h1]; omega
    · by_cases hd : c.toNat = 46 ∧ isDg d = true
      · have e : numL (c :: d :: r) = numL r + 2 := by rw [numL, if_neg hc, if_pos hd]; omega
        rw [e, List.take_succ_cons, List.take_succ_cons, List.cons_append, List.cons_append, numL, if_neg hc, if_pos hd, h2]; omega
      · have e : numL (c :: d :: r) = 0 := by rw [numL, if_neg hc, if_neg hd]
        rw [e, List.take_zero, List.nil_append, numL_beh h]
theorem qL_glue (t : List UInt8) : ∀ (l : List UInt8) (n : Nat), qL l = some n → qL (l.take (n + 1) ++ t) = some n
  | [], n, h => by cases h
  | c :: r, n, h => by
    rw [List.take_succ_cons, List.cons_append]
    unfold qL at h ⊢
    split at h
    · rename_i hc; rw [if_pos hc]; exact h
    · rename_i hc
      rw [if_neg hc]
      obtain ⟨k, hk, rfl⟩ := Option.map_eq_some_iff.1 h
      rw [qL_glue t r k hk]; rfl
end Go.Proofs.YtidokamfppdnaaaDoor
