/- Set, Get: a table is a map. -/
import Derived.Test.YthefmfjlinpepaaY2
namespace Go.Proofs.Ythefmfjlinpepaa
open Go.RowKit Go.Shelf
set_option linter.unusedSimpArgs false
set_option linter.unusedVariables false

/-- What a renewal keeps. -/
theorem renew_gv {a n : Nat} {sl : Sl} (hw : Wf a n sl) (hl : (ents a n sl 0).length ≤ 200) (k : Int × Int) :
    Wf (szA (renL a n sl k)) (szN (renL a n sl k)) (putAll (szA (renL a n sl k)) (szN (renL a n sl k)) (fun _ => (0, 0)) (ents a n sl 0)) ∧
    (∀ e ∈ ents a n sl 0, gv (szA (renL a n sl k)) (szN (renL a n sl k)) (putAll (szA (renL a n sl k)) (szN (renL a n sl k)) (fun _ => (0, 0)) (ents a n sl 0)) e.1 = e.2) ∧
    ∀ k', k'.1 ≠ 0 → k' ∉ (ents a n sl 0).map Prod.fst → gv (szA (renL a n sl k)) (szN (renL a n sl k)) (putAll (szA (renL a n sl k)) (szN (renL a n sl k)) (fun _ => (0, 0)) (ents a n sl 0)) k' = (0, 0) := by
  have h1 := (sz_room (renL a n sl k) (by unfold renL; simp; omega)).1
  have h2 : outs (szA (renL a n sl k)) (ents a n sl 0) ≤ outs (szA (renL a n sl k)) (renL a n sl k) := by
    conv => rhs; arg 2; unfold renL
    unfold outs
    rw [List.filter_append, List.length_append]
    omega
  obtain ⟨g1, g2, g3⟩ := putAll_gv (szA (renL a n sl k)) (szN (renL a n sl k)) (ents a n sl 0) (fun _ => (0, 0)) (Wf.zero _ _) (fun e he => ⟨(ents_gv hw he).1, (ents_gv hw he).2.1⟩) (ents_nodup hw) (by rw [occ_zero]; omega)
  refine ⟨g1, g2, fun k' hk' hno => ?_⟩
  rw [g3 k' hk' hno]
  unfold gv
  split <;> rfl

/-- Slots of a nil type have nothing. -/
def PlS (sl : Sl) : Prop := ∀ i, (sl i).1 = 0 → sl i = (0, 0)
theorem pl_put {a n : Nat} {sl : Sl} (h : PlS sl) {k v : Int × Int} (hk : k.1 ≠ 0) (hv : v.1 = 0 → v = (0, 0)) : PlS (putR a n sl k v).2 := by
  have hs : ∀ (s : Sl) (p : Int) (x : Int × Int), PlS s → (x.1 = 0 → x = (0, 0)) → PlS (sput s p x) := by
    intro s p x h1 h2 i hi
    unfold sput at hi ⊢
    split
    · rename_i e; rw [if_pos e] at hi; exact h2 hi
    · rename_i e; rw [if_neg e] at hi; exact h1 i hi
  unfold putR
  split
  · exact hs _ _ _ h hv
  · split
    · exact h
    · split
      · exact h
      · exact hs _ _ _ (hs _ _ _ h (fun h0 => absurd h0 hk)) hv
theorem pl_putAll {a n : Nat} : ∀ (L : List Ent) {sl : Sl}, PlS sl → (∀ e ∈ L, e.1.1 ≠ 0 ∧ e.2.1 ≠ 0) → PlS (putAll a n sl L)
  | [], _, h, _ => h
  | e :: L, sl, h, hL => by
    have he := hL e List.mem_cons_self
    exact pl_putAll L (pl_put h he.1 (fun h0 => absurd h0 he.2)) (fun x hx => hL x (List.mem_cons_of_mem _ hx))
theorem gv_pl {a n : Nat} {sl : Sl} (h : PlS sl) {k : Int × Int} (h0 : (gv a n sl k).1 = 0) : gv a n sl k = (0, 0) := by
  unfold gv at h0 ⊢
  split
  · rename_i e; rw [if_pos e] at h0; exact h _ h0
  · rfl

/-- What Set keeps of a table. -/
theorem set_wf {most : Int} {a n : Nat} {sl : Sl} {k v : Int × Int} (hw : Wf a n sl) (hl : (ents a n sl 0).length ≤ 200) : Wf (setR most a n sl k v).2.1 (setR most a n sl k v).2.2.1 (setR most a n sl k v).2.2.2 := by
  unfold setR
  by_cases h1 : (!keyB k.1 k.2 || v.1 == 11) = true
  · rw [if_pos h1]; exact hw
  · rw [if_neg h1]
    have hkb : keyB k.1 k.2 = true := by
      cases hq : keyB k.1 k.2
      · rw [hq] at h1; simp at h1
      · rfl
    have hnk := kyP_nk hkb
    split
    · exact wf_put hw hnk
    · split
      · exact hw
      · exact wf_put (renew_gv hw hl (kyP k)).1 hnk
/-- Set says no only of keys and values that may not be, where there is much room. -/
theorem set_ok {most : Int} {a n : Nat} {sl : Sl} {k v : Int × Int} (hl : (ents a n sl 0).length + 1 ≤ 100) (hm : 400 ≤ most) (hk : keyB k.1 k.2 = true) (hv : v.1 ≠ 11) : (setR most a n sl k v).1 = 0 := by
  unfold setR
  have hv' : (v.1 == 11) = false := by simpa using hv
  rw [hk, hv', if_neg (by simp)]
  split
  · rfl
  · have h1 := sz_small (renL a n sl (kyP k)) (by unfold renL; simp; omega)
    have h2 : (renL a n sl (kyP k)).length = (ents a n sl 0).length + 1 := by unfold renL; simp
    rw [if_neg (by omega)]
    simp only
    rw [renew_room a n sl (kyP k) v (by omega), if_pos rfl]
/-- Other keys than the one that is set have what they had, but for what is nil. -/
theorem set_other {most : Int} {a n : Nat} {sl : Sl} {k v k' : Int × Int} (hw : Wf a n sl) (hl : (ents a n sl 0).length ≤ 200) (hk' : Nk k') (hne : keyB k.1 k.2 = true → k' ≠ kyP k) :
    gv (setR most a n sl k v).2.1 (setR most a n sl k v).2.2.1 (setR most a n sl k v).2.2.2 k' = gv a n sl k' ∨ ((gv (setR most a n sl k v).2.1 (setR most a n sl k v).2.2.1 (setR most a n sl k v).2.2.2 k') = (0, 0) ∧ (gv a n sl k').1 = 0) := by
  unfold setR
  by_cases h1 : (!keyB k.1 k.2 || v.1 == 11) = true
  · rw [if_pos h1]; exact .inl rfl
  · rw [if_neg h1]
    have hkb : keyB k.1 k.2 = true := by
      cases hq : keyB k.1 k.2
      · rw [hq] at h1; simp at h1
      · rfl
    have hnk := kyP_nk hkb
    have hne' := hne hkb
    split
    · exact .inl (gv_other hw hk'.ne hne')
    · split
      · exact .inl rfl
      · obtain ⟨g1, g2, g3⟩ := renew_gv hw hl (kyP k)
        simp only
        rw [gv_other g1 hk'.ne hne']
        by_cases h0 : (gv a n sl k').1 = 0
        · right
          refine ⟨g3 k' hk'.ne (fun hm => ?_), h0⟩
          obtain ⟨e, he, rfl⟩ := List.mem_map.1 hm
          obtain ⟨_, h2, h3⟩ := ents_gv hw he
          rw [h3] at h0; exact h2 h0
        · left
          exact g2 _ (gv_ents hk'.b h0)
theorem set_pl {most : Int} {a n : Nat} {sl : Sl} {k v : Int × Int} (hw : Wf a n sl) (h : PlS sl) (hv : v.1 = 0 → v = (0, 0)) : PlS (setR most a n sl k v).2.2.2 := by
  unfold setR
  by_cases h1 : (!keyB k.1 k.2 || v.1 == 11) = true
  · rw [if_pos h1]; exact h
  · rw [if_neg h1]
    have hkb : keyB k.1 k.2 = true := by
      cases hq : keyB k.1 k.2
      · rw [hq] at h1; simp at h1
      · rfl
    have hnk := (kyP_nk hkb).ne
    split
    · exact pl_put h hnk hv
    · split
      · exact h
      · exact pl_put (pl_putAll _ (fun _ _ => rfl) (fun e he => ⟨(ents_gv hw he).1.ne, (ents_gv hw he).2.1⟩)) hnk hv
end Go.Proofs.Ythefmfjlinpepaa
