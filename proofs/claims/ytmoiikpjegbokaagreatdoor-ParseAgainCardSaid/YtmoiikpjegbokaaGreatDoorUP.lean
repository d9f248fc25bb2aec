import Derived.Test.YtmoiikpjegbokaaGreatDoorUO
set_option linter.unusedSimpArgs false
set_option linter.unusedVariables false
set_option maxRecDepth 20000
set_option maxHeartbeats 4000000
/- The printer: local, for, local function. -/
namespace Go.Proofs.YtmoiikpjegbokaaGreatDoor
open List renaming length_append → lla
open List renaming length_cons → llc
open List renaming length_nil → lln
open Calls renaming mono → cmo
open Go.ByteArray renaming toList_eq → btl
open List renaming cons_append → lca
open List renaming mem_singleton → lms
open Go.RowKit
variable {nt : Int → Int → ByteArray} {qt : ByteArray → ByteArray} {P : Int → Int → Prop}
theorem stmt_21a {m : List Tr} (hm : ∀ x ∈ m, TreeIs nt qt P x) (h1 : m ≠ []) (hml : m.length ≤ 50000) (t : ByteArray) (vt vn xa : Int) : PartIs 41 nt qt P (.mk 21 t vt vn m.length m xa) := by
  intro w c B v l cs h hN hX ht
  have e1 : prT nt qt (.mk 21 t vt vn m.length m xa) = [⟨#[108, 111, 99, 97, 108]⟩] ++ commaP (m.map (prT nt qt)) := by
    have : List.take m.length (m.map (prT nt qt)) = m.map (prT nt qt) := List.take_of_length_le (by simp);simp [prT, prTs_map, prN, this]
  rw [e1] at ht ⊢;simp only [lla, llc, lln] at ht;obtain ⟨sv, rfl, hl⟩ := NodeIs.cs.1 hX;obtain ⟨b, o, cp, rfl, hcp⟩ := slice_some hl h1;have hS := Stt.mk0 h hN hX;obtain ⟨W0, HW0⟩ := nm (w.alloc (nb (ncs 21 t vt vn m.length (.slice (some ⟨b, o, none⟩) m.length cp) xa)));rw [HW0.out] at hS;have s0 : W0.heap.size = w.heap.size + 1 := by rw [← HW0.out]; simp
  have hpos1 : 0 < m.length := List.length_pos_iff.2 h1;have HS0 : Hid _ := hS;have HM : Hid (∀ {v' : Value} {W : World} {l' : List ByteArray}, Stt nt P c B v w (.mk 21 t vt vn m.length m xa) (ncs 21 t vt vn m.length (.slice (some ⟨b, o, none⟩) m.length cp) xa) w.heap.size v' W l' → l'.length + (commaP (m.map (prT nt qt))).length ≤ 1000000 → Calls Tryz.prog 92 #[.pointer (some ⟨c, 0, none⟩), .slice (some ⟨b, o, none⟩) m.length cp] W (Put c B v' l' (commaP (m.map (prT nt qt))) W)) := fun {v' W l'} hs hb => list_pr hm hs.pr hs.num (node_list hs.node) (by omega) hb
  obtain ⟨us, HUs⟩ := nm (commaP (m.map (prT nt qt)));rw [HUs.out] at HM ht ⊢;have HT : Hid (l.length + us.length + 1 ≤ 1000000) := by show _ ≤ _; omega
  obtain ⟨k, HK⟩ := nm (m.length);rw [HK.out] at hcp HW0 HS0 HM hml hpos1 ⊢;clear hm h1 h hN hX hl hS ht e1 HUs HK;unfold nb ncs at HW0;unfold ncs;have p1 : k ≤ cp := by omega
  have p2 : (k : Int) ≤ (cp : Int) := by omega
  have p3 : (0 : Int) ≤ (k : Int) := by omega
  have p5 : ¬ (k : Int) < (k : Int) := by omega
  go_enter Tryz.func41, Tryz.ntmps41
  go_wp2_with fail
  rw [HW0.out]
  try rw [← s0]
  refine cmo (put_new HS0.out.pr [⟨#[108, 111, 99, 97, 108]⟩] (by simp) (by have := HT.out; simp only [lla, llc, lln]; omega) (by intro t0 h0; rw [lms.1 h0, btl]; decide)) ?_;rintro r W1 ⟨rfl, v1, hp1, hs1⟩;have HS1 : Hid _ := HS0.out.go hp1 hs1;have HC : Hid _ := HM.out HS1.out (by have := HT.out; simp only [lla, llc, lln]; omega);obtain ⟨r0, r1, r2, r3, r4, r5, r6⟩ := nb_cells HS1.out.box;clear hp1 hs1 HS0 HM HW0;go_wp2_with fail
  refine cmo HC.out ?_;rintro r W2 ⟨rfl, v2, hp2, hs2⟩;have HS2 : Hid _ := HS1.out.go hp2 hs2;have HF : Hid (Pr W2 c B v2 (l ++ ([⟨#[108, 111, 99, 97, 108]⟩] ++ us)) ∧ Pass c v w v2 W2) := ⟨by simpa only [List.append_assoc, lca, List.nil_append] using hp2, HS1.out.pass.trans hs2⟩;clear hp2 hs2 HS1 HC r0 r1 r2 r3 r4 r5 r6;obtain ⟨r0, r1, r2, r3, r4, r5, r6⟩ := nb_cells HS2.out.box;clear HS2;go_wp2_with fail
  exact bodyPost_end (results_none Tryz.results41 _ _ _) rfl ⟨rfl, v2, HF.out⟩
theorem stmt_21b {m m2 : List Tr} (hm : ∀ x ∈ m, TreeIs nt qt P x) (hm2 : ∀ x ∈ m2, TreeIs nt qt P x) (h1 : m ≠ []) (h2 : m2 ≠ []) (hml : m.length ≤ 50000) (hml2 : m2.length ≤ 50000) (t : ByteArray) (vt vn xa : Int) : PartIs 41 nt qt P (.mk 21 t vt vn m.length (m ++ m2) xa) := by
  intro w c B v l cs h hN hX ht;have hpos : 0 < m2.length := List.length_pos_iff.2 h2;have hpos1 : 0 < m.length := List.length_pos_iff.2 h1
  have e1 : prT nt qt (.mk 21 t vt vn m.length (m ++ m2) xa) = [⟨#[108, 111, 99, 97, 108]⟩] ++ (commaP (m.map (prT nt qt)) ++ ([⟨#[61]⟩] ++ commaP (m2.map (prT nt qt)))) := by
    simp [prT, prTs_map, prN, hpos]
  rw [e1] at ht ⊢;simp only [lla, llc, lln] at ht;obtain ⟨sv, rfl, hl⟩ := NodeIs.cs.1 hX;obtain ⟨b, o, cp, rfl, hcp⟩ := slice_some hl (by simp [h1]);have hS := Stt.mk0 h hN hX;obtain ⟨W0, HW0⟩ := nm (w.alloc (nb (ncs 21 t vt vn m.length (.slice (some ⟨b, o, none⟩) (m ++ m2).length cp) xa)));rw [HW0.out] at hS;have s0 : W0.heap.size = w.heap.size + 1 := by rw [← HW0.out]; simp
  rw [lla] at hcp;have HS0 : Hid _ := hS;have HL : Hid (∀ {v' : Value} {W : World} {l' : List ByteArray}, Stt nt P c B v w (.mk 21 t vt vn m.length (m ++ m2) xa) (ncs 21 t vt vn m.length (.slice (some ⟨b, o, none⟩) (m ++ m2).length cp) xa) w.heap.size v' W l' → l'.length + (commaP (m.map (prT nt qt))).length ≤ 1000000 → Calls Tryz.prog 92 #[.pointer (some ⟨c, 0, none⟩), .slice (some ⟨b, o, none⟩) m.length cp] W (Put c B v' l' (commaP (m.map (prT nt qt))) W)) := fun {v' W l'} hs hb => list_pr hm hs.pr hs.num (list_front (node_list hs.node) (by simp [h1])) (by omega) hb
  have HM : Hid (∀ {v' : Value} {W : World} {l' : List ByteArray}, Stt nt P c B v w (.mk 21 t vt vn m.length (m ++ m2) xa) (ncs 21 t vt vn m.length (.slice (some ⟨b, o, none⟩) (m ++ m2).length cp) xa) w.heap.size v' W l' → l'.length + (commaP (m2.map (prT nt qt))).length ≤ 1000000 → Calls Tryz.prog 92 #[.pointer (some ⟨c, 0, none⟩), .slice (some ⟨b, o + m.length * 7, none⟩) m2.length (cp - m.length)] W (Put c B v' l' (commaP (m2.map (prT nt qt))) W)) := fun {v' W l'} hs hb => list_pr hm2 hs.pr hs.num (list_part (a := m) (z := []) (by simpa using node_list hs.node) (by simp [h1])) (by omega) hb
  obtain ⟨ts, HTs⟩ := nm (commaP (m.map (prT nt qt)));obtain ⟨us, HUs⟩ := nm (commaP (m2.map (prT nt qt)));rw [HTs.out] at HL ht ⊢;rw [HUs.out] at HM ht ⊢;have HT : Hid (l.length + ts.length + us.length + 2 ≤ 1000000) := by show _ ≤ _; omega
  obtain ⟨k, HK⟩ := nm (m.length);obtain ⟨k2, HK2⟩ := nm (m2.length);rw [lla] at HW0 HS0 HM HL ⊢;rw [HK.out] at hcp HW0 HS0 HL HM hml hpos1 ⊢;rw [HK2.out] at hcp HW0 HS0 HL HM hml2 hpos ⊢;clear hm hm2 h1 h2 h hN hX hl hS ht e1 HTs HUs HK HK2;unfold nb ncs at HW0;unfold ncs;have p1 : k ≤ cp := by omega
  have p2 : (k : Int) ≤ (cp : Int) := by omega
  have p3 : (0 : Int) ≤ (k : Int) := by omega
  have p4 : ¬ cp = k := by omega
  have p5 : (k : Int) ≤ ((k + k2 : Nat) : Int) := by omega
  have p8 : (k : Int) < ((k + k2 : Nat) : Int) := by omega
  have p6 : k + k2 - k = k2 := by omega
  have p7 : ((k + k2 : Nat) : Int) ≤ (cp : Int) := by omega
  go_enter Tryz.func41, Tryz.ntmps41
  go_wp2_with fail
  rw [HW0.out]
  try rw [← s0]
  refine cmo (put_new HS0.out.pr [⟨#[108, 111, 99, 97, 108]⟩] (by simp) (by have := HT.out; simp only [lla, llc, lln]; omega) (by intro t0 h0; rw [lms.1 h0, btl]; decide)) ?_;rintro r W1 ⟨rfl, v1, hp1, hs1⟩;have HS1 : Hid _ := HS0.out.go hp1 hs1;have HC : Hid _ := HL.out HS1.out (by have := HT.out; simp only [lla, llc, lln]; omega);obtain ⟨r0, r1, r2, r3, r4, r5, r6⟩ := nb_cells HS1.out.box;clear hp1 hs1 HS0 HL HW0;go_wp2_with fail
  refine cmo HC.out ?_;rintro r W2 ⟨rfl, v2, hp2, hs2⟩;have HS2 : Hid _ := HS1.out.go hp2 hs2;clear hp2 hs2 HS1 HC r0 r1 r2 r3 r4 r5 r6;obtain ⟨r0, r1, r2, r3, r4, r5, r6⟩ := nb_cells HS2.out.box;go_wp2_with fail
  refine cmo (put_new HS2.out.pr [⟨#[61]⟩] (by simp) (by have := HT.out; simp only [lla, llc, lln]; omega) (by intro t0 h0; rw [lms.1 h0, btl]; decide)) ?_;rintro r W3 ⟨rfl, v3, hp3, hs3⟩;have HS3 : Hid _ := HS2.out.go hp3 hs3;have HC : Hid _ := HM.out HS3.out (by have := HT.out; simp only [lla, llc, lln]; omega);clear hp3 hs3 HS2 HM r0 r1 r2 r3 r4 r5 r6;obtain ⟨r0, r1, r2, r3, r4, r5, r6⟩ := nb_cells HS3.out.box;go_wp2_with fail
  refine cmo HC.out ?_;rintro r W4 ⟨rfl, v4, hp4, hs4⟩;have HF : Hid (Pr W4 c B v4 (l ++ ([⟨#[108, 111, 99, 97, 108]⟩] ++ (ts ++ ([⟨#[61]⟩] ++ us)))) ∧ Pass c v w v4 W4) := ⟨by simpa only [List.append_assoc, lca, List.nil_append] using hp4, HS3.out.pass.trans hs4⟩;clear hp4 hs4 HS3 HC r0 r1 r2 r3 r4 r5 r6;go_wp2_with fail
  exact bodyPost_end (results_none Tryz.results41 _ _ _) rfl ⟨rfl, v4, HF.out⟩
theorem stmt_26 {a x : Tr} {m : List Tr} (ha : TreeIs nt qt P a) (hm : ∀ x ∈ m, TreeIs nt qt P x) (hx : TreeIs nt qt P x) (h0 : m ≠ []) (hml : m.length ≤ 10) (t : ByteArray) (vt vn n xa : Int) : PartIs 41 nt qt P (.mk 26 t vt vn n (a :: (m ++ [x])) xa) := by
  intro w c B v l cs h hN hX ht
  have e1 : prT nt qt (.mk 26 t vt vn n (a :: (m ++ [x])) xa) = [⟨#[102, 111, 114]⟩] ++ (prT nt qt a ++ ([⟨#[61]⟩] ++ (commaP (m.map (prT nt qt)) ++ doP (prT nt qt x)))) := by
    have e2 : (a :: (m ++ [x])).map (prT nt qt) = prT nt qt a :: (m.map (prT nt qt) ++ [prT nt qt x]) := by simp
    simp only [prT, prTs_map, e2];unfold prN;simp only [List.getD_cons_zero, List.drop_succ_cons, List.drop_zero, List.dropLast_concat];rw [show (prT nt qt a :: (m.map (prT nt qt) ++ [prT nt qt x])).getLastD [] = prT nt qt x by rw [← lca, List.getLastD_concat]];simp
  rw [e1] at ht ⊢;simp only [lla, llc, lln] at ht;obtain ⟨sv, rfl, hl⟩ := NodeIs.cs.1 hX;obtain ⟨b, o, cp, rfl, hcp⟩ := slice_some hl (by simp);obtain ⟨ak, at0, avt, avn, an, al, axa⟩ := a;obtain ⟨bk, bt, bvt, bvn, bn, bl0, bxa⟩ := x;have hll : ((Tr.mk ak at0 avt avn an al axa) :: (m ++ [(Tr.mk bk bt bvt bvn bn bl0 bxa)])).length = m.length + 2 := by simp
  rw [hll] at hX hcp ⊢;have hS := Stt.mk0 h hN hX;obtain ⟨W0, HW0⟩ := nm (w.alloc (nb (ncs 26 t vt vn n (.slice (some ⟨b, o, none⟩) (m.length + 2) cp) xa)));rw [HW0.out] at hS;have s0 : W0.heap.size = w.heap.size + 1 := by rw [← HW0.out]; simp
  have HS0 : Hid _ := hS;have hpos : 0 < m.length := List.length_pos_iff.2 h0
  have HA : Hid (∀ {v' : Value} {W : World} {l' : List ByteArray}, Stt nt P c B v w (.mk 26 t vt vn n ((Tr.mk ak at0 avt avn an al axa) :: (m ++ [(Tr.mk bk bt bvt bvn bn bl0 bxa)])) xa) (ncs 26 t vt vn n (.slice (some ⟨b, o, none⟩) (m.length + 2) cp) xa) w.heap.size v' W l' → l'.length + (prT nt qt (Tr.mk ak at0 avt avn an al axa)).length ≤ 1000000 → ∃ ao' ln' cp', Hid (Calls Tryz.prog 24 #[.pointer (some ⟨c, 0, none⟩), .agg (ncs ak at0 avt avn an (.slice ao' ln' cp') axa).toArray] W (Put c B v' l' (prT nt qt (Tr.mk ak at0 avt avn an al axa)) W)) ∧ W.cell? ⟨b, o + 0 * 7, none⟩ = some (.int .i64 ak) ∧ W.cell? ⟨b, o + 0 * 7 + 1, none⟩ = some (.string at0) ∧ W.cell? ⟨b, o + 0 * 7 + 2, none⟩ = some (.int .i64 avt) ∧ W.cell? ⟨b, o + 0 * 7 + 3, none⟩ = some (.int .i64 avn) ∧ W.cell? ⟨b, o + 0 * 7 + 4, none⟩ = some (.int .i64 an) ∧ W.cell? ⟨b, o + 0 * 7 + 5, none⟩ = some ((.slice ao' ln' cp')) ∧ W.cell? ⟨b, o + 0 * 7 + 6, none⟩ = some (.int .i64 axa)) := fun {v' W l'} hs hb => by
    obtain ⟨ao', ln', cp', d, z⟩ := child_at (ln := m.length + 2) hs.node 0 (by simp) rfl;exact ⟨ao', ln', cp', ha W c B v' l' _ hs.pr hs.num d hb, z⟩
  have HM : Hid (∀ {v' : Value} {W : World} {l' : List ByteArray}, Stt nt P c B v w (.mk 26 t vt vn n ((Tr.mk ak at0 avt avn an al axa) :: (m ++ [(Tr.mk bk bt bvt bvn bn bl0 bxa)])) xa) (ncs 26 t vt vn n (.slice (some ⟨b, o, none⟩) (m.length + 2) cp) xa) w.heap.size v' W l' → l'.length + (commaP (m.map (prT nt qt))).length ≤ 1000000 → Calls Tryz.prog 92 #[.pointer (some ⟨c, 0, none⟩), .slice (some ⟨b, o + 7, none⟩) m.length (cp - 1)] W (Put c B v' l' (commaP (m.map (prT nt qt))) W)) := fun {v' W l'} hs hb => list_pr hm hs.pr hs.num (by
    have := list_part (a := [(Tr.mk ak at0 avt avn an al axa)]) (m := m) (z := [(Tr.mk bk bt bvt bvn bn bl0 bxa)]) (by simpa using node_list hs.node) (by simp);simpa using this) (by omega) hb
  have HD : Hid (∀ {v' : Value} {W : World} {l' : List ByteArray}, Stt nt P c B v w (.mk 26 t vt vn n ((Tr.mk ak at0 avt avn an al axa) :: (m ++ [(Tr.mk bk bt bvt bvn bn bl0 bxa)])) xa) (ncs 26 t vt vn n (.slice (some ⟨b, o, none⟩) (m.length + 2) cp) xa) w.heap.size v' W l' → l'.length + (doP (prT nt qt (Tr.mk bk bt bvt bvn bn bl0 bxa))).length ≤ 1000000 → ∃ ao' ln' cp', Hid (Calls Tryz.prog 94 #[.pointer (some ⟨c, 0, none⟩), .agg (ncs bk bt bvt bvn bn (.slice ao' ln' cp') bxa).toArray] W (Put c B v' l' (doP (prT nt qt (Tr.mk bk bt bvt bvn bn bl0 bxa))) W)) ∧ W.cell? ⟨b, o + (m.length + 1) * 7, none⟩ = some (.int .i64 bk) ∧ W.cell? ⟨b, o + (m.length + 1) * 7 + 1, none⟩ = some (.string bt) ∧ W.cell? ⟨b, o + (m.length + 1) * 7 + 2, none⟩ = some (.int .i64 bvt) ∧ W.cell? ⟨b, o + (m.length + 1) * 7 + 3, none⟩ = some (.int .i64 bvn) ∧ W.cell? ⟨b, o + (m.length + 1) * 7 + 4, none⟩ = some (.int .i64 bn) ∧ W.cell? ⟨b, o + (m.length + 1) * 7 + 5, none⟩ = some ((.slice ao' ln' cp')) ∧ W.cell? ⟨b, o + (m.length + 1) * 7 + 6, none⟩ = some (.int .i64 bxa)) := fun {v' W l'} hs hb => by
    obtain ⟨ao', ln', cp', d, z⟩ := child_at (ln := m.length + 2) (yk := bk) (yt := bt) (yvt := bvt) (yvn := bvn) (yn := bn) (yl := bl0) (ya := bxa) hs.node (m.length + 1) (by simp) (by simp);exact ⟨ao', ln', cp', do_pr hx hs.pr hs.num d hb, z⟩
  obtain ⟨ts, HTs⟩ := nm (prT nt qt (Tr.mk ak at0 avt avn an al axa));obtain ⟨us, HUs⟩ := nm (commaP (m.map (prT nt qt)));obtain ⟨ds, HDs⟩ := nm (doP (prT nt qt (Tr.mk bk bt bvt bvn bn bl0 bxa)));rw [HTs.out] at HA ht ⊢;rw [HUs.out] at HM ht ⊢;rw [HDs.out] at HD ht ⊢;have HT : Hid (l.length + ts.length + us.length + ds.length + 2 ≤ 1000000) := by show _ ≤ _; omega
  obtain ⟨k, HK⟩ := nm (m.length);rw [HK.out] at hcp HW0 HS0 HA HM HD hml hpos ⊢;clear ha hm hx h0 h hN hX hl hS ht e1 HTs HUs HDs HK hll;unfold nb ncs at HW0;unfold ncs;have p1 : ((k + 2 : Nat) : Int) - 1 = ((k + 1 : Nat) : Int) := by omega
  have p2 : ((k + 1 : Nat) : Int) ≤ (cp : Int) := by omega
  have p3 : ((k + 1 : Nat) : Int) < ((k + 2 : Nat) : Int) := by omega
  have p4 : (1 : Int) ≤ ((k + 1 : Nat) : Int) := by omega
  have p5 : ¬ cp = 1 := by omega
  have p6 : k + 1 - 1 = k := by omega
  have p7 : (0 : Int) < ((k + 2 : Nat) : Int) := by omega
  go_enter Tryz.func41, Tryz.ntmps41
  go_wp2_with fail
  rw [HW0.out]
  try rw [← s0]
  refine cmo (put_new HS0.out.pr [⟨#[102, 111, 114]⟩] (by simp) (by have := HT.out; simp only [lla, llc, lln]; omega) (by intro t0 h0; rw [lms.1 h0, btl]; decide)) ?_;rintro r W1 ⟨rfl, v1, hp1, hs1⟩;have HS1 : Hid _ := HS0.out.go hp1 hs1;obtain ⟨ao1, ln1, cp1, HC, z0, z1, z2, z3, z4, z5, z6⟩ := HA.out HS1.out (by have := HT.out; simp only [lla, llc, lln]; omega);simp only [Nat.zero_mul, Nat.add_zero] at z0 z1 z2 z3 z4 z5 z6;obtain ⟨r0, r1, r2, r3, r4, r5, r6⟩ := nb_cells HS1.out.box;clear hp1 hs1 HS0 HA HW0;go_wp2_with fail
  refine cmo HC.out ?_;rintro r W2 ⟨rfl, v2, hp2, hs2⟩;have HS2 : Hid _ := HS1.out.go hp2 hs2;clear hp2 hs2 HS1 HC r0 r1 r2 r3 r4 r5 r6 z0 z1 z2 z3 z4 z5 z6;go_wp2_with fail
  refine cmo (put_new HS2.out.pr [⟨#[61]⟩] (by simp) (by have := HT.out; simp only [lla, llc, lln]; omega) (by intro t0 h0; rw [lms.1 h0, btl]; decide)) ?_;rintro r W3 ⟨rfl, v3, hp3, hs3⟩;have HS3 : Hid _ := HS2.out.go hp3 hs3;have HC : Hid _ := HM.out HS3.out (by have := HT.out; simp only [lla, llc, lln]; omega);clear hp3 hs3 HS2 HM;obtain ⟨r0, r1, r2, r3, r4, r5, r6⟩ := nb_cells HS3.out.box;go_wp2_with fail
  refine cmo HC.out ?_;rintro r W4 ⟨rfl, v4, hp4, hs4⟩;have HS4 : Hid _ := HS3.out.go hp4 hs4;clear hp4 hs4 HS3 HC r0 r1 r2 r3 r4 r5 r6;obtain ⟨ao1, ln1, cp1, HC, z0, z1, z2, z3, z4, z5, z6⟩ := HD.out HS4.out (by have := HT.out; simp only [lla, llc, lln]; omega);obtain ⟨r0, r1, r2, r3, r4, r5, r6⟩ := nb_cells HS4.out.box;clear HD;go_wp2_with fail
  refine cmo HC.out ?_;rintro r W5 ⟨rfl, v5, hp5, hs5⟩;have HF : Hid (Pr W5 c B v5 (l ++ ([⟨#[102, 111, 114]⟩] ++ (ts ++ ([⟨#[61]⟩] ++ (us ++ ds))))) ∧ Pass c v w v5 W5) := ⟨by simpa only [List.append_assoc, lca, List.nil_append] using hp5, HS4.out.pass.trans hs5⟩;clear hp5 hs5 HS4 HC r0 r1 r2 r3 r4 r5 r6 z0 z1 z2 z3 z4 z5 z6;go_wp2_with fail
  exact bodyPost_end (results_none Tryz.results41 _ _ _) rfl ⟨rfl, v5, HF.out⟩
end Go.Proofs.YtmoiikpjegbokaaGreatDoor
