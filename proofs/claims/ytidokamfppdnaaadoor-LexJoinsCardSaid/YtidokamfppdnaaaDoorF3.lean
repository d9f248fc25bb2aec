/- The tokens of a source's parts. -/
import Derived.Test.YtidokamfppdnaaaDoorF2
namespace Go.Proofs.YtidokamfppdnaaaDoor
open Go.RowKit
set_option linter.unusedSimpArgs false
set_option linter.unusedVariables false

/-- A token, a places ahead. -/
def sh (a : Nat) (X : Tk) : Tk := ⟨X.k, X.t, X.vt, X.vn, X.sy, X.a - a, X.e - a⟩
theorem Lx.place {s : ByteArray} {hs : s.size ≤ 8192} {k : Nat} {e : Option (Nat × Int)} {L : List Tk} (h : Lx s hs k e L) : ∀ Y ∈ L, (k : Int) ≤ Y.a := by
  induction h with
  | done k h => simp
  | bad k x h1 h2 h3 => simp
  | more k E X e L h1 h2 h3 h4 h5 h6 h7 ih =>
    intro Y hY
    rcases List.mem_cons.1 hY with rfl | hY
    · obtain ⟨n, K, vt, vn, sy, _, _, _, _, he⟩ := tk_ok s h1 hs h2
      rw [← h3, he]; exact Int.le_refl _
    · have := ih Y hY; omega
theorem Lx.suf {s : ByteArray} {hs : s.size ≤ 8192} {k : Nat} {e : Option (Nat × Int)} {L : List Tk} (h : Lx s hs k e L) (a : Nat) (ha : a ≤ s.size) (hs2 : (s.extract a s.size).size ≤ 8192) :
    e = none → ∀ k2, k = a + k2 → Lx (s.extract a s.size) hs2 k2 none (L.map (sh a)) := by
  have hz : (s.extract a s.size).size = s.size - a := by rw [ByteArray.size_extract]; omega
  have hd : ∀ j, (bl (s.extract a s.size)).drop j = (bl s).drop (a + j) := fun j => by rw [bl_from, List.drop_drop]
  induction h with
  | done k h => intro _ k2 hk; exact .done k2 (by omega)
  | bad k x h1 h2 h3 => intro e; cases e
  | more k E X e L h1 h2 h3 h4 h5 h6 h7 ih =>
    intro he k2 hk
    have hX : tkAt s k hs = (X, 0) := by rw [← h3, ← h2]
    obtain ⟨n, K, vt, vn, sy, n1, n2, _, _, hF⟩ := tk_ok s h1 hs h2
    rw [h3] at hF
    have hE : E = k + n := by
      have : X.e = ((k + n : Nat) : Int) := by rw [hF]
      omega
    have hl := tk_loc (s' := s.extract a s.size) (k' := k2) (m := s.size) (n := n) h1 (by omega) hs hs2 (by rw [hd, ← hk, List.take_of_length_le (by rw [List.length_drop, bl_len]; omega)]) hX (by rw [h4, hE]) (by omega)
    refine lx_more (E := k2 + n) (k' := k2 + n + skipB false ((bl (s.extract a s.size)).drop (k2 + n))) (by omega) ?_ ?_ (by omega) (by omega) rfl ?_
    · rw [hl]
      unfold sh
      have e1 : X.a - (a : Int) = k2 := by rw [hF]; show ((k : Nat) : Int) - a = k2; omega
      have e2 : X.e - (a : Int) = ((k2 + n : Nat) : Int) := by rw [h4]; omega
      rw [e1, e2]
    · show X.e - (a : Int) = _; rw [h4]; omega
    · refine ih he _ ?_
      rw [hd, hE, hk]
      simp only [Nat.add_assoc]
theorem Lx.pre {s : ByteArray} {hs : s.size ≤ 8192} {k : Nat} {e : Option (Nat × Int)} {L : List Tk} (h : Lx s hs k e L) (a : Nat) (ha : a ≤ s.size) (hs1 : (s.extract 0 a).size ≤ 8192) :
    e = none → ∀ D Y T, L = D ++ Y :: T → Y.a = (a : Int) → Lx (s.extract 0 a) hs1 k none D := by
  have hz : (s.extract 0 a).size = a := by rw [ByteArray.size_extract]; omega
  have hd : ∀ j, (bl (s.extract 0 a)).drop j = ((bl s).drop j).take (a - j) := fun j => by rw [bl_ext, List.drop_zero, List.drop_take]
  induction h with
  | done k h => intro _ D Y T hL; simp at hL
  | bad k x h1 h2 h3 => intro e; cases e
  | more k E X e L h1 h2 h3 h4 h5 h6 h7 ih =>
    intro he D Y T hL hY
    have hX : tkAt s k hs = (X, 0) := by rw [← h3, ← h2]
    obtain ⟨n, K, vt, vn, sy, n1, n2, _, _, hF⟩ := tk_ok s h1 hs h2
    rw [h3] at hF
    cases D with
    | nil =>
      have hXY : X = Y := (List.cons.inj hL).1
      rw [← hXY, hF] at hY
      have hka : ((k : Nat) : Int) = (a : Int) := hY
      exact .done k (by omega)
    | cons Z D =>
      rw [List.cons_append] at hL
      obtain ⟨rfl, hL2⟩ := List.cons.inj hL
      have hE : E = k + n := by
        have : X.e = ((k + n : Nat) : Int) := by rw [hF]
        omega
      have hp := h7.place Y (by rw [hL2]; simp)
      rw [hY] at hp
      have hp' : E + skipB false ((bl s).drop E) ≤ a := by omega
      have hl := tk_loc (s' := s.extract 0 a) (k' := k) (m := a - k) (n := n) h1 (by omega) hs hs1 (hd k) hX (by rw [h4, hE]) (by omega)
      refine lx_more (E := E) (k' := E + skipB false ((bl s).drop E)) (by omega) ?_ h4 h5 (by omega) ?_ (ih he D Y T hL2 hY)
      · rw [hl]
        have e1 : X.a = (k : Int) := by rw [hF]
        have e2 : X.e = ((k + n : Nat) : Int) := by rw [h4, hE]
        rw [← e1, ← e2]
      · rw [hd, skipB_take _ _ _ (by omega)]
end Go.Proofs.YtidokamfppdnaaaDoor
