/- The printer's parts: what is enclosed, keys, heads, bodies. -/
import Derived.Test.YtmoiikpjegbokaaGreatDoorGO
set_option linter.unusedSimpArgs false
set_option linter.unusedVariables false
set_option maxRecDepth 20000
set_option maxHeartbeats 4000000
namespace Go.Proofs.YtmoiikpjegbokaaGreatDoor
open List renaming length_append → lla
open List renaming length_cons → llc
open List renaming length_nil → lln
open World renaming alloc_heap_new → ahn
open Calls renaming mono → cmo
open Go.ByteArray renaming toList_eq → btl
open List renaming mem_singleton → lms
open Kept renaming refl → krf
open Go.Proofs.Tryz renaming prog → tpg
open Go.RowKit
theorem one_pr {w : World} {c B : Nat} {v : Value} {l : List ByteArray} (h : Pr w c B v l) {x : Tr} {cs : List Value} (hx : NodeIs (Out2 c v) w x cs) : ListIs (Out2 c v) (w.alloc (nb cs)) [x] (.slice (some ⟨w.heap.size, 0, none⟩) 1 1) := by
  refine .inr ⟨w.heap.size, 0, 1, rfl, Out2.fresh h (Nat.le_refl _), ⟨by simp, by simp⟩, row_mk [x] 0 (fun i hi => ?_)⟩;have e : i = 0 := by simpa using hi
  subst e;refine ⟨cs, NodeIs.kept ((krf No w).alloc _).no x cs hx, fun t ht => ?_⟩;rw [cell_of (ahn w (nb cs))];simp
variable {nt : Int → Int → ByteArray} {qt : ByteArray → ByteArray} {P : Int → Int → Prop}
theorem enc_any {xs : List Tr} (hx : ∀ x ∈ xs, TreeIs nt qt P x) {w : World} {c B : Nat} {v : Value} {l : List ByteArray} {sv : Value} {s1 s2 : ByteArray} (n1 : s1.toList ≠ []) (n2 : s2.toList ≠ []) (h : Pr w c B v l) (hN : NumOK nt P c w) (hL : ListIs (Out2 c v) w xs sv) (hn : xs.length ≤ 100000) (ht : l.length + (2 + (commaP (xs.map (prT nt qt))).length) ≤ 1000000) :
    Calls tpg 91 #[.pointer (some ⟨c, 0, none⟩), .string s1, sv, .string s2] w (Put c B v l ([s1] ++ commaP (xs.map (prT nt qt)) ++ [s2]) w) := by
  have H0 : Hid (Pr w c B v l ∧ NumOK nt P c w ∧ ListIs (Out2 c v) w xs sv) := ⟨h, hN, hL⟩;have HA : Hid (∀ {v1 W1}, Pr W1 c B v1 (l ++ [s1]) → Pass c v w v1 W1 → Calls tpg 92 #[.pointer (some ⟨c, 0, none⟩), sv] W1 (Put c B v1 (l ++ [s1]) (commaP (xs.map (prT nt qt))) W1)) := fun {v1 W1} h1 h2 => list_pr hx h1 (hN.low (h2.low h)) (h2.list hL) hn (by simp only [lla, llc, lln]; omega)
  have HT : Hid (l.length + (2 + (commaP (xs.map (prT nt qt))).length) ≤ 1000000 ∧ s1.toList ≠ [] ∧ s2.toList ≠ []) := ⟨ht, n1, n2⟩;obtain ⟨ao, ln, cp, rfl⟩ := slice_of hL;obtain ⟨ts, HTs⟩ := nm (commaP (xs.map (prT nt qt)));rw [HTs.out] at HA HT ⊢;clear h hN hL hx hn ht n1 n2 HTs;go_enter Tryz.func91, Tryz.ntmps91
  go_wp2_with fail
  refine cmo (put_new H0.out.1 [s1] (by simp) (by have := HT.out.1; simp only [llc, lln]; omega) (by intro t ht; rw [lms.1 ht]; exact HT.out.2.1)) ?_;rintro r W1 ⟨rfl, v1, hp1, hs1⟩;have HC : Hid _ := HA.out hp1 hs1;have HS1 : Hid _ := hs1;clear hp1 hs1 HA;go_wp2_with fail
  refine cmo HC.out ?_;rintro r W2 ⟨rfl, v2, hp2, hs2⟩;have HP2 : Hid (Pr W2 c B v2 (l ++ [s1] ++ ts)) := hp2;have HS2 : Hid _ := HS1.out.trans hs2;clear hp2 hs2 HC HS1;go_wp2_with fail
  refine cmo (put_new HP2.out [s2] (by simp) (by have := HT.out.1; simp only [lla, llc, lln]; omega) (by intro t ht; rw [lms.1 ht]; exact HT.out.2.2)) ?_;rintro r W3 ⟨rfl, v3, hp3, hs3⟩;have HF : Hid (Pr W3 c B v3 (l ++ ([s1] ++ ts ++ [s2])) ∧ Pass c v w v3 W3) := ⟨by simpa only [List.append_assoc] using hp3, HS2.out.trans hs3⟩;clear hp3 hs3 HP2 HS2 HT;go_wp2_with fail
  go_end0
  exact ⟨rfl, v3, HF.out⟩
theorem key_pr {x : Tr} (hx : TreeIs nt qt P x) {w : World} {c B : Nat} {v : Value} {l : List ByteArray} {cs : List Value} (h : Pr w c B v l) (hN : NumOK nt P c w) (hX : NodeIs (Out2 c v) w x cs) (ht : l.length + (2 + (prT nt qt x).length) ≤ 1000000) :
    Calls tpg 90 #[.pointer (some ⟨c, 0, none⟩), .agg cs.toArray] w (Put c B v l (keyP (prT nt qt x)) w) := by
  obtain ⟨k, t, vt, vn, n, xl, xa⟩ := x;obtain ⟨sv, rfl, hl⟩ := NodeIs.cs.1 hX;obtain ⟨ao, ln, cp, rfl⟩ := slice_of hl;obtain ⟨W0, HW0⟩ := nm (w.alloc (nb (ncs k t vt vn n (.slice ao ln cp) xa)));have hk0 : Kept No w W0 := by rw [← HW0.out]; exact (krf No w).alloc _
  have hb0 : W0.heap[w.heap.size]? = some (nb (ncs k t vt vn n (.slice ao ln cp) xa)) := by rw [← HW0.out]; exact ahn w _
  have hN0 : NumOK nt P c W0 := hN.low ((Pass.no (v := v) hk0).low h);have hX0 : NodeIs (Out2 c v) W0 (.mk k t vt vn n xl xa) (ncs k t vt vn n (.slice ao ln cp) xa) := NodeIs.kept hk0.no _ _ hX;have hf0 : ¬ Out2 c v w.heap.size := Out2.fresh h (Nat.le_refl _);have HS : Hid (Pr W0 c B v l ∧ Pass c v w v W0 ∧ NumOK nt P c W0 ∧ NodeIs (Out2 c v) W0 (.mk k t vt vn n xl xa) (ncs k t vt vn n (.slice ao ln cp) xa) ∧ W0.heap[w.heap.size]? = some (nb (ncs k t vt vn n (.slice ao ln cp) xa)) ∧ ¬ Out2 c v w.heap.size) := ⟨h.no hk0, Pass.no hk0, hN0, hX0, hb0, hf0⟩;obtain ⟨r0, r1, r2, r3, r4, r5, r6⟩ := nb_cells hb0
  have HA : Hid (Calls tpg 91 #[.pointer (some ⟨c, 0, none⟩), .string ⟨#[91]⟩, .slice (some ⟨W0.heap.size, 0, none⟩) 1 1, .string ⟨#[93]⟩] (W0.alloc (nb (ncs k t vt vn n (.slice ao ln cp) xa))) (Put c B v l ([⟨#[91]⟩] ++ commaP ([Tr.mk k t vt vn n xl xa].map (prT nt qt)) ++ [⟨#[93]⟩]) (W0.alloc (nb (ncs k t vt vn n (.slice ao ln cp) xa))))) := by
    have hk1 : Kept No W0 (W0.alloc (nb (ncs k t vt vn n (.slice ao ln cp) xa))) := (krf No W0).alloc _;exact enc_any (xs := [Tr.mk k t vt vn n xl xa]) (by intro y hy; rw [lms.1 hy]; exact hx) (by rw [btl]; decide) (by rw [btl]; decide) (HS.out.1.no hk1) (HS.out.2.2.1.low ((Pass.no (v := v) hk1).low HS.out.1)) (one_pr HS.out.1 HS.out.2.2.2.1) (by simp) (by simp only [List.map_cons, List.map_nil, commaP, List.flatten_nil, List.append_nil]; omega)
  have e1 : commaP ([Tr.mk k t vt vn n xl xa].map (prT nt qt)) = prT nt qt (.mk k t vt vn n xl xa) := by simp [commaP]
  rw [e1] at HA;unfold keyP;obtain ⟨ts, HTs⟩ := nm (prT nt qt (.mk k t vt vn n xl xa));rw [HTs.out] at HA ⊢;obtain ⟨W1, HW1⟩ := nm (W0.alloc (nb (ncs k t vt vn n (.slice ao ln cp) xa)));rw [HW1.out] at HA;have HK1 : Hid (Kept No W0 W1) := by show Kept _ _ _; rw [← HW1.out]; exact (krf No W0).alloc _
  unfold nb ncs at HW0 HW1;clear h hN hX hl hk0 hb0 hN0 hX0 hf0 ht hx e1 HTs;unfold ncs;go_enter Tryz.func90, Tryz.ntmps90
  go_wp2_with (first | rw [HW0.out] | rw [HW1.out])
  try rw [HW1.out]
  refine cmo HA.out ?_;rintro r W2 ⟨rfl, v2, hp2, hs2⟩;have HF : Hid (Pr W2 c B v2 (l ++ ([⟨#[91]⟩] ++ ts ++ [⟨#[93]⟩])) ∧ Pass c v w v2 W2) := ⟨hp2, HS.out.2.1.trans ((Pass.no HK1.out).trans hs2)⟩;clear hp2 hs2 HA HS HW0 HW1 HK1 r0 r1 r2 r3 r4 r5 r6;go_wp2_with fail
  go_end0
  exact ⟨rfl, v2, HF.out⟩
theorem head_yes {x : Tr} (hx : TreeIs nt qt P x) {w : World} {c B : Nat} {v : Value} {l : List ByteArray} {cs : List Value} (h : Pr w c B v l) (hN : NumOK nt P c w) (hX : NodeIs (Out2 c v) w x cs) (hk : x.k = 6 ∨ x.k = 10 ∨ x.k = 11) (ht : l.length + (prT nt qt x).length ≤ 1000000) :
    Calls tpg 89 #[.pointer (some ⟨c, 0, none⟩), .agg cs.toArray] w (Put c B v l (prT nt qt x) w) := by
  obtain ⟨k, t, vt, vn, n, xl, xa⟩ := x;obtain ⟨sv, rfl, hl⟩ := NodeIs.cs.1 hX;obtain ⟨ao, ln, cp, rfl⟩ := slice_of hl;obtain ⟨W0, HW0⟩ := nm (w.alloc (nb (ncs k t vt vn n (.slice ao ln cp) xa)));have hk0 : Kept No w W0 := by rw [← HW0.out]; exact (krf No w).alloc _
  have hb0 : W0.heap[w.heap.size]? = some (nb (ncs k t vt vn n (.slice ao ln cp) xa)) := by rw [← HW0.out]; exact ahn w _
  have hN0 : NumOK nt P c W0 := hN.low ((Pass.no (v := v) hk0).low h);have hX0 : NodeIs (Out2 c v) W0 (.mk k t vt vn n xl xa) (ncs k t vt vn n (.slice ao ln cp) xa) := NodeIs.kept hk0.no _ _ hX;have hf0 : ¬ Out2 c v w.heap.size := Out2.fresh h (Nat.le_refl _);have HS : Hid (Pr W0 c B v l ∧ Pass c v w v W0 ∧ NumOK nt P c W0 ∧ NodeIs (Out2 c v) W0 (.mk k t vt vn n xl xa) (ncs k t vt vn n (.slice ao ln cp) xa) ∧ W0.heap[w.heap.size]? = some (nb (ncs k t vt vn n (.slice ao ln cp) xa)) ∧ ¬ Out2 c v w.heap.size) := ⟨h.no hk0, Pass.no hk0, hN0, hX0, hb0, hf0⟩;obtain ⟨r0, r1, r2, r3, r4, r5, r6⟩ := nb_cells hb0;have HA : Hid _ := hx W0 c B v l _ HS.out.1 HS.out.2.2.1 HS.out.2.2.2.1 ht;obtain ⟨ts, HTs⟩ := nm (prT nt qt (.mk k t vt vn n xl xa));rw [HTs.out] at HA ⊢;have hk' : k = 6 ∨ k = 10 ∨ k = 11 := hk;unfold nb ncs at HW0;clear h hN hX hl hk0 hb0 hN0 hX0 hf0 ht hx HTs hk;unfold ncs;rcases hk' with rfl | rfl | rfl
  all_goals
    go_enter Tryz.func89, Tryz.ntmps89
    go_wp2_with (first | rw [HW0.out])
    refine cmo HA.out ?_;rintro r W2 ⟨rfl, v2, hp2, hs2⟩;have HF : Hid (Pr W2 c B v2 (l ++ ts) ∧ Pass c v w v2 W2) := ⟨hp2, HS.out.2.1.trans hs2⟩;clear hp2 hs2 HA HS HW0 r0 r1 r2 r3 r4 r5 r6;go_wp2_with fail
    go_end0
    exact ⟨rfl, v2, HF.out⟩
theorem head_no {x : Tr} (hx : TreeIs nt qt P x) {w : World} {c B : Nat} {v : Value} {l : List ByteArray} {cs : List Value} (h : Pr w c B v l) (hN : NumOK nt P c w) (hX : NodeIs (Out2 c v) w x cs) (hk : ¬ (x.k = 6 ∨ x.k = 10 ∨ x.k = 11)) (ht : l.length + (2 + (prT nt qt x).length) ≤ 1000000) :
    Calls tpg 89 #[.pointer (some ⟨c, 0, none⟩), .agg cs.toArray] w (Put c B v l ([⟨#[40]⟩] ++ prT nt qt x ++ [⟨#[41]⟩]) w) := by
  obtain ⟨k, t, vt, vn, n, xl, xa⟩ := x;obtain ⟨sv, rfl, hl⟩ := NodeIs.cs.1 hX;obtain ⟨ao, ln, cp, rfl⟩ := slice_of hl;obtain ⟨W0, HW0⟩ := nm (w.alloc (nb (ncs k t vt vn n (.slice ao ln cp) xa)));have hk0 : Kept No w W0 := by rw [← HW0.out]; exact (krf No w).alloc _
  have hb0 : W0.heap[w.heap.size]? = some (nb (ncs k t vt vn n (.slice ao ln cp) xa)) := by rw [← HW0.out]; exact ahn w _
  have hN0 : NumOK nt P c W0 := hN.low ((Pass.no (v := v) hk0).low h);have hX0 : NodeIs (Out2 c v) W0 (.mk k t vt vn n xl xa) (ncs k t vt vn n (.slice ao ln cp) xa) := NodeIs.kept hk0.no _ _ hX;have hf0 : ¬ Out2 c v w.heap.size := Out2.fresh h (Nat.le_refl _);have HS : Hid (Pr W0 c B v l ∧ Pass c v w v W0 ∧ NumOK nt P c W0 ∧ NodeIs (Out2 c v) W0 (.mk k t vt vn n xl xa) (ncs k t vt vn n (.slice ao ln cp) xa) ∧ W0.heap[w.heap.size]? = some (nb (ncs k t vt vn n (.slice ao ln cp) xa)) ∧ ¬ Out2 c v w.heap.size) := ⟨h.no hk0, Pass.no hk0, hN0, hX0, hb0, hf0⟩;obtain ⟨r0, r1, r2, r3, r4, r5, r6⟩ := nb_cells hb0
  have HA : Hid (Calls tpg 91 #[.pointer (some ⟨c, 0, none⟩), .string ⟨#[40]⟩, .slice (some ⟨W0.heap.size, 0, none⟩) 1 1, .string ⟨#[41]⟩] (W0.alloc (nb (ncs k t vt vn n (.slice ao ln cp) xa))) (Put c B v l ([⟨#[40]⟩] ++ commaP ([Tr.mk k t vt vn n xl xa].map (prT nt qt)) ++ [⟨#[41]⟩]) (W0.alloc (nb (ncs k t vt vn n (.slice ao ln cp) xa))))) := by
    have hk1 : Kept No W0 (W0.alloc (nb (ncs k t vt vn n (.slice ao ln cp) xa))) := (krf No W0).alloc _;exact enc_any (xs := [Tr.mk k t vt vn n xl xa]) (by intro y hy; rw [lms.1 hy]; exact hx) (by rw [btl]; decide) (by rw [btl]; decide) (HS.out.1.no hk1) (HS.out.2.2.1.low ((Pass.no (v := v) hk1).low HS.out.1)) (one_pr HS.out.1 HS.out.2.2.2.1) (by simp) (by simp only [List.map_cons, List.map_nil, commaP, List.flatten_nil, List.append_nil]; omega)
  have e1 : commaP ([Tr.mk k t vt vn n xl xa].map (prT nt qt)) = prT nt qt (.mk k t vt vn n xl xa) := by simp [commaP]
  rw [e1] at HA;obtain ⟨ts, HTs⟩ := nm (prT nt qt (.mk k t vt vn n xl xa));rw [HTs.out] at HA ⊢;obtain ⟨W1, HW1⟩ := nm (W0.alloc (nb (ncs k t vt vn n (.slice ao ln cp) xa)));rw [HW1.out] at HA;have HK1 : Hid (Kept No W0 W1) := by show Kept _ _ _; rw [← HW1.out]; exact (krf No W0).alloc _
  unfold nb ncs at HW0 HW1;have q1 : (k == 6) = false := by have : ¬ k = 6 := fun e => hk (.inl e); simpa using this
  have q2 : (k == 10) = false := by have : ¬ k = 10 := fun e => hk (.inr (.inl e)); simpa using this
  have q3 : (k == 11) = false := by have : ¬ k = 11 := fun e => hk (.inr (.inr e)); simpa using this
  clear hk;clear h hN hX hl hk0 hb0 hN0 hX0 hf0 ht hx e1 HTs;unfold ncs;go_enter Tryz.func89, Tryz.ntmps89
  go_wp2_with (first | rw [HW0.out] | rw [HW1.out])
  try rw [HW1.out]
  refine cmo HA.out ?_;rintro r W2 ⟨rfl, v2, hp2, hs2⟩;have HF : Hid (Pr W2 c B v2 (l ++ ([⟨#[40]⟩] ++ ts ++ [⟨#[41]⟩])) ∧ Pass c v w v2 W2) := ⟨hp2, HS.out.2.1.trans ((Pass.no HK1.out).trans hs2)⟩;clear hp2 hs2 HA HS HW0 HW1 HK1 r0 r1 r2 r3 r4 r5 r6;go_wp2_with fail
  go_end0
  exact ⟨rfl, v2, HF.out⟩
theorem head_pr {x : Tr} (hx : TreeIs nt qt P x) {w : World} {c B : Nat} {v : Value} {l : List ByteArray} {cs : List Value} (h : Pr w c B v l) (hN : NumOK nt P c w) (hX : NodeIs (Out2 c v) w x cs) (ht : l.length + (headP x.k (prT nt qt x)).length ≤ 1000000) :
    Calls tpg 89 #[.pointer (some ⟨c, 0, none⟩), .agg cs.toArray] w (Put c B v l (headP x.k (prT nt qt x)) w) := by
  unfold headP at ht ⊢;by_cases hk : x.k = 6 ∨ x.k = 10 ∨ x.k = 11
  · rw [if_pos hk] at ht ⊢;exact head_yes hx h hN hX hk ht
  · rw [if_neg hk] at ht ⊢;exact head_no hx h hN hX hk (by simp only [lla, llc, lln] at ht; omega)
theorem do_pr {x : Tr} (hx : TreeIs nt qt P x) {w : World} {c B : Nat} {v : Value} {l : List ByteArray} {cs : List Value} (h : Pr w c B v l) (hN : NumOK nt P c w) (hX : NodeIs (Out2 c v) w x cs) (ht : l.length + (doP (prT nt qt x)).length ≤ 1000000) :
    Calls tpg 94 #[.pointer (some ⟨c, 0, none⟩), .agg cs.toArray] w (Put c B v l (doP (prT nt qt x)) w) := by
  obtain ⟨k, t, vt, vn, n, xl, xa⟩ := x;obtain ⟨sv, rfl, hl⟩ := NodeIs.cs.1 hX;obtain ⟨ao, ln, cp, rfl⟩ := slice_of hl;obtain ⟨W0, HW0⟩ := nm (w.alloc (nb (ncs k t vt vn n (.slice ao ln cp) xa)));have hk0 : Kept No w W0 := by rw [← HW0.out]; exact (krf No w).alloc _
  have hb0 : W0.heap[w.heap.size]? = some (nb (ncs k t vt vn n (.slice ao ln cp) xa)) := by rw [← HW0.out]; exact ahn w _
  have hN0 : NumOK nt P c W0 := hN.low ((Pass.no (v := v) hk0).low h);have hX0 : NodeIs (Out2 c v) W0 (.mk k t vt vn n xl xa) (ncs k t vt vn n (.slice ao ln cp) xa) := NodeIs.kept hk0.no _ _ hX;have hf0 : ¬ Out2 c v w.heap.size := Out2.fresh h (Nat.le_refl _);have HS : Hid (Pr W0 c B v l ∧ Pass c v w v W0 ∧ NumOK nt P c W0 ∧ NodeIs (Out2 c v) W0 (.mk k t vt vn n xl xa) (ncs k t vt vn n (.slice ao ln cp) xa) ∧ W0.heap[w.heap.size]? = some (nb (ncs k t vt vn n (.slice ao ln cp) xa)) ∧ ¬ Out2 c v w.heap.size) := ⟨h.no hk0, Pass.no hk0, hN0, hX0, hb0, hf0⟩;obtain ⟨r0, r1, r2, r3, r4, r5, r6⟩ := nb_cells hb0;unfold doP at ht ⊢;simp only [lla, llc, lln] at ht;obtain ⟨ts, HTs⟩ := nm (prT nt qt (.mk k t vt vn n xl xa));have HX : Hid (TreeIs nt qt P (.mk k t vt vn n xl xa)) := hx
  have HT : Hid (l.length + ts.length + 2 ≤ 1000000) := by
    show _ ≤ _;rw [HTs.out] at ht; omega
  rw [HTs.out];unfold nb ncs at HW0;clear h hN hX hl hk0 hb0 hN0 hX0 hf0 ht hx r0 r1 r2 r3 r4 r5 r6;unfold ncs;go_enter Tryz.func94, Tryz.ntmps94
  go_wp2_with (first | rw [HW0.out])
  refine cmo (put_new HS.out.1 [⟨#[100, 111]⟩] (by simp) (by have := HT.out; simp only [llc, lln]; omega) (by intro t ht; rw [lms.1 ht, btl]; decide)) ?_;rintro r W1 ⟨rfl, v1, hp1, hs1⟩;have hb1 := hs1.kept.heap HS.out.2.2.2.2.1 HS.out.2.2.2.2.2;have HA : Hid _ := HX.out W1 c B v1 _ _ hp1 (HS.out.2.2.1.low (hs1.low HS.out.1)) (hs1.node HS.out.2.2.2.1) (by rw [HTs.out]; have := HT.out; simp only [lla, llc, lln]; omega);rw [HTs.out] at HA;have HS1 : Hid (Pass c v w v1 W1) := HS.out.2.1.trans hs1;obtain ⟨r0, r1, r2, r3, r4, r5, r6⟩ := nb_cells hb1;clear hp1 hs1 hb1 HS HW0 HX HTs;go_wp2_with fail
  refine cmo HA.out ?_;rintro r W2 ⟨rfl, v2, hp2, hs2⟩;have HP2 : Hid _ := hp2;have HS2 : Hid _ := HS1.out.trans hs2;clear hp2 hs2 HA HS1 r0 r1 r2 r3 r4 r5 r6;go_wp2_with fail
  refine cmo (put_new HP2.out [⟨#[101, 110, 100]⟩] (by simp) (by have := HT.out; simp only [lla, llc, lln]; omega) (by intro t ht; rw [lms.1 ht, btl]; decide)) ?_;rintro r W3 ⟨rfl, v3, hp3, hs3⟩;have HF : Hid (Pr W3 c B v3 (l ++ ([⟨#[100, 111]⟩] ++ ts ++ [⟨#[101, 110, 100]⟩])) ∧ Pass c v w v3 W3) := ⟨by simpa only [List.append_assoc] using hp3, HS2.out.trans hs3⟩;clear hp3 hs3 HP2 HS2 HT;go_wp2_with fail
  go_end0
  exact ⟨rfl, v3, HF.out⟩
end Go.Proofs.YtmoiikpjegbokaaGreatDoor
