import Derived.Test.YtmoiikpjegbokaaGreatDoorUN
set_option linter.unusedSimpArgs false
set_option linter.unusedVariables false
set_option maxRecDepth 20000
set_option maxHeartbeats 4000000
/- The printer: a function's body, functions. -/
namespace Go.Proofs.YtmoiikpjegbokaaGreatDoor
open List renaming length_append → lla
open List renaming length_cons → llc
open List renaming length_nil → lln
open Go.ByteArray renaming toList_eq → btl
open Go.RowKit
variable {nt : Int → Int → ByteArray} {qt : ByteArray → ByteArray} {P : Int → Int → Prop}
theorem body_eq (m : List Tr) (x : Tr) : bodyP ((m ++ [x]).map (prT nt qt)) = ([⟨#[40]⟩] ++ commaP (m.map (prT nt qt)) ++ [⟨#[41]⟩]) ++ (prT nt qt x ++ [⟨#[101, 110, 100]⟩]) := by
  unfold bodyP;rw [List.map_append, List.map_cons, List.map_nil, List.dropLast_concat, List.getLastD_concat];simp
theorem body_pr {m : List Tr} {x : Tr} (hm : ∀ y ∈ m, TreeIs nt qt P y) (hx : TreeIs nt qt P x) (hml : m.length ≤ 50000) (k : Int) (t : ByteArray) (vt vn n xa : Int) {w : World} {c B : Nat} {v : Value} {l : List ByteArray} {cs : List Value} (h : Pr w c B v l) (hN : NumOK nt P c w) (hX : NodeIs (Out2 c v) w (.mk k t vt vn n (m ++ [x]) xa) cs) (ht : l.length + (bodyP ((m ++ [x]).map (prT nt qt))).length ≤ 1000000) :
    Calls Tryz.prog 88 #[.pointer (some ⟨c, 0, none⟩), .agg cs.toArray] w (Put c B v l (bodyP ((m ++ [x]).map (prT nt qt))) w) := by
  rw [body_eq] at ht ⊢;obtain ⟨sv, rfl, hl⟩ := NodeIs.cs.1 hX;obtain ⟨b, o, cp, rfl, hcp⟩ := slice_some hl (by simp);obtain ⟨xk, xt, xvt, xvn, xn, xl, xxa⟩ := x;rw [lla, llc, lln, Nat.zero_add] at hX hcp ⊢;have hS := Stt.mk0 h hN hX;obtain ⟨W0, HW0⟩ := nm (w.alloc (nb (ncs k t vt vn n (.slice (some ⟨b, o, none⟩) (m.length + 1) cp) xa)));rw [HW0.out] at hS;have s0 : W0.heap.size = w.heap.size + 1 := by rw [← HW0.out]; simp
  have hfr : ∀ {v' : Value} {W : World}, NodeIs (Out2 c v') W (.mk k t vt vn n (m ++ [Tr.mk xk xt xvt xvn xn xl xxa]) xa) (ncs k t vt vn n (.slice (some ⟨b, o, none⟩) (m.length + 1) cp) xa) → ListIs (Out2 c v') W m (.slice (some ⟨b, o, none⟩) m.length cp) := fun {v' W} hn => list_front (node_list hn) (by simp)
  have hch : ∀ {v' : Value} {W : World} {l' : List ByteArray}, Stt nt P c B v w (.mk k t vt vn n (m ++ [Tr.mk xk xt xvt xvn xn xl xxa]) xa) (ncs k t vt vn n (.slice (some ⟨b, o, none⟩) (m.length + 1) cp) xa) w.heap.size v' W l' → l'.length + (prT nt qt (Tr.mk xk xt xvt xvn xn xl xxa)).length ≤ 1000000 → ∃ ao' ln' cp', Hid (Calls Tryz.prog 24 #[.pointer (some ⟨c, 0, none⟩), .agg (ncs xk xt xvt xvn xn (.slice ao' ln' cp') xxa).toArray] W (Put c B v' l' (prT nt qt (Tr.mk xk xt xvt xvn xn xl xxa)) W)) ∧ W.cell? ⟨b, o + m.length * 7, none⟩ = some (.int .i64 xk) ∧ W.cell? ⟨b, o + m.length * 7 + 1, none⟩ = some (.string xt) ∧ W.cell? ⟨b, o + m.length * 7 + 2, none⟩ = some (.int .i64 xvt) ∧ W.cell? ⟨b, o + m.length * 7 + 3, none⟩ = some (.int .i64 xvn) ∧ W.cell? ⟨b, o + m.length * 7 + 4, none⟩ = some (.int .i64 xn) ∧ W.cell? ⟨b, o + m.length * 7 + 5, none⟩ = some (.slice ao' ln' cp') ∧ W.cell? ⟨b, o + m.length * 7 + 6, none⟩ = some (.int .i64 xxa) := fun {v' W l'} hs hb => by
    obtain ⟨ao', ln', cp', d, z⟩ := child_at (ln := m.length + 1) (yk := xk) (yt := xt) (yvt := xvt) (yvn := xvn) (yn := xn) (yl := xl) (ya := xxa) hs.node m.length (by simp) (by simp);exact ⟨ao', ln', cp', hx W c B v' l' _ hs.pr hs.num d hb, z⟩
  have HA : Hid _ := enc_any (s1 := ⟨#[40]⟩) (s2 := ⟨#[41]⟩) hm (by rw [btl]; decide) (by rw [btl]; decide) hS.pr hS.num (hfr hS.node) (by omega) (by simp only [lla, llc, lln] at ht; omega);have HS0 : Hid _ := hS;have HCH : Hid _ := @hch;obtain ⟨ts, HTs⟩ := nm ([⟨#[40]⟩] ++ commaP (m.map (prT nt qt)) ++ [⟨#[41]⟩]);obtain ⟨us, HUs⟩ := nm (prT nt qt (Tr.mk xk xt xvt xvn xn xl xxa));rw [HTs.out] at HA ht ⊢;rw [HUs.out] at HCH ht ⊢;simp only [lla, llc, lln] at ht;have HT : Hid (l.length + ts.length + us.length + 1 ≤ 1000000) := by show _ ≤ _; omega
  obtain ⟨j, HJ⟩ := nm (m.length);rw [HJ.out] at HS0 HCH HA HW0 hcp hml ⊢;clear hm hx h hN hX hl hS ht hfr hch HTs HUs HJ;unfold nb ncs at HW0;unfold ncs;have p1 : ((j + 1 : Nat) : Int) - 1 = (j : Int) := by omega
  have p2 : (j : Int) ≤ (cp : Int) := by omega
  have p3 : (j : Int) < ((j + 1 : Nat) : Int) := by omega
  have p5 : j ≤ cp := by omega
  go_enter Tryz.func88, Tryz.ntmps88
  go_wp2_with fail
  rw [HW0.out];refine Calls.mono HA.out ?_;rintro r W1 ⟨rfl, v1, hp1, hs1⟩;have HS1 : Hid _ := HS0.out.go hp1 hs1;obtain ⟨ao1, ln1, cp1, HC, z0, z1, z2, z3, z4, z5, z6⟩ := HCH.out HS1.out (by have := HT.out; simp only [lla, llc, lln]; omega);obtain ⟨r0, r1, r2, r3, r4, r5, r6⟩ := nb_cells HS1.out.box;clear hp1 hs1 HS0 HCH HW0 HA;go_wp2_with fail
  refine Calls.mono HC.out ?_;rintro r W2 ⟨rfl, v2, hp2, hs2⟩;have HS2 : Hid _ := HS1.out.go hp2 hs2;clear hp2 hs2 HS1 HC r0 r1 r2 r3 r4 r5 r6 z0 z1 z2 z3 z4 z5 z6;go_wp2_with fail
  refine Calls.mono (put_new HS2.out.pr [⟨#[101, 110, 100]⟩] (by simp) (by have := HT.out; simp only [lla, llc, lln]; omega) (by intro t0 h0; rw [List.mem_singleton.1 h0, btl]; decide)) ?_;rintro r W3 ⟨rfl, v3, hp3, hs3⟩;have HF : Hid (Pr W3 c B v3 (l ++ (ts ++ (us ++ [⟨#[101, 110, 100]⟩]))) ∧ Pass c v w v3 W3) := ⟨by simpa only [List.append_assoc, List.cons_append, List.nil_append] using hp3, HS2.out.pass.trans hs3⟩;clear hp3 hs3 HS2;go_wp2_with fail
  exact bodyPost_end (results_none Tryz.results88 _ _ _) rfl ⟨rfl, v3, HF.out⟩
theorem expr_7 {m : List Tr} {x : Tr} (hm : ∀ y ∈ m, TreeIs nt qt P y) (hx : TreeIs nt qt P x) (hml : m.length ≤ 50000) (t : ByteArray) (vt vn n xa : Int) : PartIs 40 nt qt P (.mk 7 t vt vn n (m ++ [x]) xa) := by
  intro w c B v l cs h hN hX ht;have e1 : prT nt qt (.mk 7 t vt vn n (m ++ [x]) xa) = [⟨#[102, 117, 110, 99, 116, 105, 111, 110]⟩] ++ bodyP ((m ++ [x]).map (prT nt qt)) := by simp [prT, prTs_map, prN]
  rw [e1] at ht ⊢;simp only [lla, llc, lln] at ht;obtain ⟨sv, rfl, hl⟩ := NodeIs.cs.1 hX;obtain ⟨b, o, cp, rfl, hcp⟩ := slice_some hl (by simp);have hS := Stt.mk0 h hN hX;obtain ⟨W0, HW0⟩ := nm (w.alloc (nb (ncs 7 t vt vn n (.slice (some ⟨b, o, none⟩) (m ++ [x]).length cp) xa)));rw [HW0.out] at hS;have s0 : W0.heap.size = w.heap.size + 1 := by rw [← HW0.out]; simp
  have HM : Hid (∀ {v' : Value} {W : World} {l' : List ByteArray}, Stt nt P c B v w (.mk 7 t vt vn n (m ++ [x]) xa) (ncs 7 t vt vn n (.slice (some ⟨b, o, none⟩) (m ++ [x]).length cp) xa) w.heap.size v' W l' → l'.length + (bodyP ((m ++ [x]).map (prT nt qt))).length ≤ 1000000 → Calls Tryz.prog 88 #[.pointer (some ⟨c, 0, none⟩), .agg (ncs 7 t vt vn n (.slice (some ⟨b, o, none⟩) (m ++ [x]).length cp) xa).toArray] W (Put c B v' l' (bodyP ((m ++ [x]).map (prT nt qt))) W)) := fun {v' W l'} hs hb => body_pr hm hx hml _ _ _ _ _ _ hs.pr hs.num hs.node hb
  have HS0 : Hid _ := hS;obtain ⟨us, HUs⟩ := nm (bodyP ((m ++ [x]).map (prT nt qt)));rw [HUs.out] at HM ht ⊢;have HT : Hid (l.length + us.length + 1 ≤ 1000000) := by show _ ≤ _; omega
  obtain ⟨j, HJ⟩ := nm ((m ++ [x]).length);rw [HJ.out] at HS0 HM HW0 ⊢;clear hm hx hml h hN hX hl hS ht e1 HUs HJ hcp;unfold nb ncs at HW0;unfold ncs;go_enter Tryz.func40, Tryz.ntmps40
  go_wp2_with fail
  rw [HW0.out]
  try rw [← s0]
  refine Calls.mono (put_new HS0.out.pr [⟨#[102, 117, 110, 99, 116, 105, 111, 110]⟩] (by simp) (by have := HT.out; simp only [lla, llc, lln]; omega) (by intro t0 h0; rw [List.mem_singleton.1 h0, btl]; decide)) ?_;rintro r W1 ⟨rfl, v1, hp1, hs1⟩;have HS1 : Hid _ := HS0.out.go hp1 hs1;have HC : Hid _ := HM.out HS1.out (by have := HT.out; simp only [lla, llc, lln]; omega);obtain ⟨r0, r1, r2, r3, r4, r5, r6⟩ := nb_cells HS1.out.box;clear hp1 hs1 HS0 HM HW0;go_wp2_with fail
  refine Calls.mono HC.out ?_;rintro r W2 ⟨rfl, v2, hp2, hs2⟩;have HF : Hid (Pr W2 c B v2 (l ++ ([⟨#[102, 117, 110, 99, 116, 105, 111, 110]⟩] ++ us)) ∧ Pass c v w v2 W2) := ⟨by simpa only [List.append_assoc, List.cons_append, List.nil_append] using hp2, HS1.out.pass.trans hs2⟩;clear hp2 hs2 HS1 HC r0 r1 r2 r3 r4 r5 r6;go_wp2_with fail
  exact bodyPost_end (results_none Tryz.results40 _ _ _) rfl ⟨rfl, v2, HF.out⟩
end Go.Proofs.YtmoiikpjegbokaaGreatDoor
