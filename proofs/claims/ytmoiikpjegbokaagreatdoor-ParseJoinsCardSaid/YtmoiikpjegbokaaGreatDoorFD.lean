import Derived.Test.YtmoiikpjegbokaaGreatDoorGT
/- Tokens' sizes; a slice of tokens that can be read. -/
namespace Go.Proofs.YtmoiikpjegbokaaGreatDoor
open Go.RowKit
set_option linter.unusedSimpArgs false
set_option linter.unusedVariables false

theorem Tr.ex : ∀ x : Tr, ∃ k t vt vn n l a, x = .mk k t vt vn n l a
  | .mk k t vt vn n l a => ⟨k, t, vt, vn, n, l, a, rfl⟩
/-- How long tokens are. -/
def tot (L : List Tk) : Nat := (L.map (fun X => X.t.size + 1)).sum
theorem tot_cons (X : Tk) (L : List Tk) : tot (X :: L) = X.t.size + 1 + tot L := by simp [tot]
theorem tot_take (L : List Tk) (j : Nat) : tot (L.take j) ≤ tot L := by
  have : tot L = tot (L.take j) + tot (L.drop j) := by
    unfold tot
    rw [← List.sum_append, ← List.map_append, List.take_append_drop]
  omega
theorem Lx.tot {s : ByteArray} {hs : s.size ≤ 8192} {k : Nat} {e : Option (Nat × Int)} {L : List Tk} (h : Lx s hs k e L) : _root_.Go.Proofs.YtmoiikpjegbokaaGreatDoor.tot L ≤ 2 * (s.size - k) := by
  induction h with
  | done k h => simp [_root_.Go.Proofs.YtmoiikpjegbokaaGreatDoor.tot]
  | bad k x h1 h2 h3 => simp [_root_.Go.Proofs.YtmoiikpjegbokaaGreatDoor.tot]
  | more k E X e L h1 h2 h3 h4 h5 h6 h7 ih =>
    obtain ⟨n, K, vt, vn, sy, n1, n2, _, _, hF⟩ := tk_ok s h1 hs h2
    rw [h3] at hF
    have hE : E = k + n := by
      have : X.e = ((k + n : Nat) : Int) := by rw [hF]
      omega
    have hz : X.t.size = n := by rw [hF]; show (s.extract k (k + n)).size = n; rw [ByteArray.size_extract]; omega
    rw [tot_cons, hz]
    omega
theorem tot_at (L : List Tk) (j : Nat) (hj : j < L.length) : L[j].t.size ≤ tot L := by
  have h4 : tot (L.take (j + 1)) = tot (L.take j) + (L[j].t.size + 1) := by unfold tot; rw [List.take_succ_eq_append_getElem hj, List.map_append, List.sum_append]; simp only [List.map_cons, List.map_nil, List.sum_cons, List.sum_nil, Nat.add_zero]
  have h5 := tot_take L (j + 1)
  omega
theorem bl_mk (l : List UInt8) : bl (⟨l.toArray⟩ : ByteArray) = l := by simp [bl]
theorem bl_add (a b : ByteArray) : bl (a ++ b) = bl a ++ bl b := by unfold bl; rw [ByteArray.data_append, Array.toList_append]
/-- The text so far. -/
def tx (L : List Tk) (j : Nat) : ByteArray := ⟨(eB (L.take j)).toArray⟩
theorem tx_bl (L : List Tk) (j : Nat) : bl (tx L j) = eB (L.take j) := bl_mk _
theorem tx_zero (L : List Tk) : tx L 0 = ⟨#[]⟩ := by
  apply bl_inj; rw [tx_bl]; rfl
def gT : ByteArray := ⟨#[32, 45, 45, 32, 101, 110, 100, 10]⟩
theorem tx_succ (L : List Tk) (j : Nat) (hj : j < L.length) : tx L j ++ L[j].t ++ gT = tx L (j + 1) := by
  apply bl_inj
  rw [bl_add, bl_add, tx_bl, tx_bl, List.take_succ_eq_append_getElem hj, eB_snoc, List.append_assoc]
  rfl
theorem eB_le : ∀ (L : List Tk), (eB L).length ≤ 9 * tot L
  | [] => by simp [eB]
  | X :: L => by
    have h1 := eB_le L
    rw [eB_cons, tot_cons]
    simp only [List.length_append, bl_len, show gpE.length = 8 from rfl]
    omega
theorem tx_le (L : List Tk) (j : Nat) : (tx L j).size ≤ 9 * tot L := by
  rw [← bl_len, tx_bl]
  have h2 := eB_le (L.take j)
  have h3 := tot_take L j
  omega
/-- A slice of tokens that can be read. -/
def SRow (w : World) (ao : Option Addr) (L : List Tk) : Prop := ∀ j (hj : j < L.length), ∃ g o, ao = some ⟨g, o, none⟩ ∧ ∀ w', Kept No w w' → ∀ i, i < 7 → w'.cell? ⟨g, o + j * 7 + i, none⟩ = (tc L[j])[i]?
theorem tc_len (x : Tk) : (tc x).length = 7 := rfl
theorem TRow.srow {w : World} {B : Nat} {v : Value} {L : List Tk} (h : TRow w B v L) : ∃ ao cap, v = .slice ao L.length cap ∧ SRow w ao L := by
  obtain ⟨ao, cap, rfl, hc⟩ := h.read
  refine ⟨ao, cap, rfl, fun j hj => ?_⟩
  obtain ⟨g, o, e, hg, h7⟩ := hc j hj
  refine ⟨g, o, e, fun w' hk i hi => ?_⟩
  have := h7 i hi
  rw [List.getElem?_eq_getElem (by rw [tc_len]; exact hi)] at this ⊢
  exact kept_cell hk id this
theorem SRow.no {w w' : World} {ao : Option Addr} {L : List Tk} (h : SRow w ao L) (hk : Kept No w w') : SRow w' ao L := by
  intro j hj
  obtain ⟨g, o, e, hc⟩ := h j hj
  exact ⟨g, o, e, fun w2 hk2 => hc w2 (hk.trans hk2)⟩
theorem NodeIs.list {S : Nat → Prop} {w : World} {k : Int} {t : ByteArray} {vt vn n : Int} {l : List Tr} {a : Int} {sv : Value} (h : NodeIs S w (.mk k t vt vn n l a) (ncs k t vt vn n sv a)) : ListIs S w l sv := by
  obtain ⟨sv2, e, hl⟩ := NodeIs.cs.1 h
  simp only [ncs, List.cons.injEq, true_and, and_true] at e
  rw [e]; exact hl
theorem slice_ln {S : Nat → Prop} {w : World} {l : List Tr} {ao : Option Addr} {ln cp : Nat} (h : ListIs S w l (.slice ao ln cp)) : ln = l.length ∧ ln ≤ cp ∧ (0 < l.length → ∃ b o, ao = some ⟨b, o, none⟩) := by
  rcases h with ⟨rfl, e⟩ | ⟨b, o, cap, e, _, h2, _⟩
  · simp only [Value.slice.injEq] at e
    exact ⟨e.2.1, by omega, fun h => by simp at h⟩
  · simp only [Value.slice.injEq] at e
    exact ⟨e.2.1, by omega, fun _ => ⟨b, o, e.1⟩⟩
/-- The first of a list. -/
theorem first_at {S : Nat → Prop} {w : World} {k : Int} {t : ByteArray} {vt vn n : Int} {l : List Tr} {a : Int} {ao : Option Addr} {ln cp : Nat} (h : NodeIs S w (.mk k t vt vn n l a) (ncs k t vt vn n (.slice ao ln cp) a)) {yk : Int} {yt : ByteArray} {yvt yvn yn : Int} {yl r : List Tr} {ya : Int} (hy : l = .mk yk yt yvt yvn yn yl ya :: r) :
    ∃ b o ao' cp', ao = some ⟨b, o, none⟩ ∧ w.cell? ⟨b, o + 5, none⟩ = some (.slice ao' yl.length cp') := by
  obtain ⟨sv, e, hl⟩ := NodeIs.cs.1 h
  have e' : sv = .slice ao ln cp := by
    simp only [ncs, List.cons.injEq, true_and, and_true] at e; exact e.symm
  subst e'
  obtain ⟨_, _, q3⟩ := slice_ln hl
  obtain ⟨b, o, rfl⟩ := q3 (by rw [hy]; simp)
  subst hy
  obtain ⟨ao', ln', cp', hN, _, _, _, _, _, h5, _⟩ := child_at h 0 (by simp) rfl
  obtain ⟨sv2, e2, hl2⟩ := NodeIs.cs.1 hN
  have e3 : sv2 = .slice ao' ln' cp' := by
    simp only [ncs, List.cons.injEq, true_and, and_true] at e2; exact e2.symm
  subst e3
  obtain ⟨rfl, _, _⟩ := slice_ln hl2
  rw [Nat.zero_mul, Nat.add_zero] at h5
  exact ⟨b, o, ao', cp', rfl, h5⟩
/-- A part of a tree, and its cells. -/
theorem part_at {w : World} {k : Int} {t : ByteArray} {vt vn n : Int} {l : List Tr} {a : Int} {ao : Option Addr} {ln cp : Nat} (h : NodeIs No w (.mk k t vt vn n l a) (ncs k t vt vn n (.slice ao ln cp) a)) (i : Nat) (hi : i < l.length) :
    ∃ b o xk xt xvt xvn xn xl xa aox lnx cpx, ao = some ⟨b, o, none⟩ ∧ l[i] = .mk xk xt xvt xvn xn xl xa ∧ NodeIs No w (.mk xk xt xvt xvn xn xl xa) (ncs xk xt xvt xvn xn (.slice aox lnx cpx) xa) ∧
      w.cell? ⟨b, o + i * 7, none⟩ = some (.int .i64 xk) ∧ w.cell? ⟨b, o + i * 7 + 1, none⟩ = some (.string xt) ∧ w.cell? ⟨b, o + i * 7 + 2, none⟩ = some (.int .i64 xvt) ∧ w.cell? ⟨b, o + i * 7 + 3, none⟩ = some (.int .i64 xvn) ∧ w.cell? ⟨b, o + i * 7 + 4, none⟩ = some (.int .i64 xn) ∧ w.cell? ⟨b, o + i * 7 + 5, none⟩ = some (.slice aox lnx cpx) ∧ w.cell? ⟨b, o + i * 7 + 6, none⟩ = some (.int .i64 xa) := by
  obtain ⟨_, _, q3⟩ := slice_ln h.list
  obtain ⟨b, o, rfl⟩ := q3 (by omega)
  obtain ⟨xk, xt, xvt, xvn, xn, xl, xa, e⟩ : ∃ k t vt vn n l' a, l[i] = .mk k t vt vn n l' a := by
    cases l[i]; exact ⟨_, _, _, _, _, _, _, rfl⟩
  obtain ⟨aox, lnx, cpx, d, c0, c1, c2, c3, c4, c5, c6⟩ := child_at h i hi e
  exact ⟨b, o, xk, xt, xvt, xvn, xn, xl, xa, aox, lnx, cpx, rfl, e, d, c0, c1, c2, c3, c4, c5, c6⟩
end Go.Proofs.YtmoiikpjegbokaaGreatDoor
