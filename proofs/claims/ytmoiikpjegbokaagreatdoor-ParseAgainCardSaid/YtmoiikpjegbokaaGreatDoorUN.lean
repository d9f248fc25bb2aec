import Derived.Test.YtmoiikpjegbokaaGreatDoorUM
set_option linter.unusedSimpArgs false
set_option linter.unusedVariables false
set_option maxRecDepth 20000
set_option maxHeartbeats 4000000
/- The printer, kind by kind: kinds with lists. -/
namespace Go.Proofs.YtmoiikpjegbokaaGreatDoor
open List renaming length_append → lla
open List renaming length_cons → llc
open List renaming length_nil → lln
open Calls renaming mono → cmo
open Go.ByteArray renaming toList_eq → btl
open Go.RowKit
variable {nt : Int → Int → ByteArray} {qt : ByteArray → ByteArray} {P : Int → Int → Prop}
theorem node_list {S : Nat → Prop} {W : World} {k : Int} {t : ByteArray} {vt vn n : Int} {l : List Tr} {xa : Int} {sv : Value} (h : NodeIs S W (.mk k t vt vn n l xa) (ncs k t vt vn n sv xa)) : ListIs S W l sv := by
  obtain ⟨sv2, e2, hl2⟩ := NodeIs.cs.1 h;simp only [ncs, List.cons.injEq, true_and, and_true] at e2;subst e2; exact hl2
theorem list_part {S : Nat → Prop} {W : World} {a m z : List Tr} {b o cp n : Nat} (h : ListIs S W (a ++ (m ++ z)) (.slice (some ⟨b, o, none⟩) n cp)) (h0 : a ++ (m ++ z) ≠ []) : ListIs S W m (.slice (some ⟨b, o + a.length * 7, none⟩) m.length (cp - a.length)) := by
  rcases h with ⟨e, _⟩ | ⟨b2, o2, cp2, e3, q1, q2, q3⟩
  · exact absurd e h0
  simp only [Value.slice.injEq, Option.some.injEq, Addr.mk.injEq, and_true] at e3;obtain ⟨⟨rfl, rfl⟩, _, rfl⟩ := e3;have hz := q2.2;rw [lla, lla] at hz;refine .inr ⟨b, o + a.length * 7, cp - a.length, rfl, q1, ⟨q2.1, by omega⟩, ?_⟩;have h1 := row_drop q3 a.length;rw [List.drop_left] at h1;have h2 := row_take h1 m.length
  rwa [List.take_left] at h2
theorem list_front {S : Nat → Prop} {W : World} {m z : List Tr} {b o cp n : Nat} (h : ListIs S W (m ++ z) (.slice (some ⟨b, o, none⟩) n cp)) (h0 : m ++ z ≠ []) : ListIs S W m (.slice (some ⟨b, o, none⟩) m.length cp) := by
  have := list_part (a := []) h h0;simpa using this
theorem stmt_27 {m : List Tr} (hm : ∀ x ∈ m, TreeIs nt qt P x) (hml : m.length ≤ 50000) (t : ByteArray) (vt vn n xa : Int) : PartIs 41 nt qt P (.mk 27 t vt vn n m xa) := by
  intro w c B v l cs h hN hX ht;have e1 : prT nt qt (.mk 27 t vt vn n m xa) = [⟨#[114, 101, 116, 117, 114, 110]⟩] ++ commaP (m.map (prT nt qt)) := by simp [prT, prTs_map, prN]
  rw [e1] at ht ⊢;simp only [lla, llc, lln] at ht;obtain ⟨sv, rfl, hl⟩ := NodeIs.cs.1 hX;obtain ⟨ao, ln, cp, rfl⟩ := slice_of hl;have hS := Stt.mk0 h hN hX;obtain ⟨W0, HW0⟩ := nm (w.alloc (nb (ncs 27 t vt vn n (.slice ao ln cp) xa)));rw [HW0.out] at hS;have s0 : W0.heap.size = w.heap.size + 1 := by rw [← HW0.out]; simp
  have HS0 : Hid _ := hS;have HM : Hid (∀ {v' : Value} {W : World} {l' : List ByteArray}, Stt nt P c B v w (.mk 27 t vt vn n m xa) (ncs 27 t vt vn n (.slice ao ln cp) xa) w.heap.size v' W l' → l'.length + (commaP (m.map (prT nt qt))).length ≤ 1000000 → Calls Tryz.prog 92 #[.pointer (some ⟨c, 0, none⟩), .slice ao ln cp] W (Put c B v' l' (commaP (m.map (prT nt qt))) W)) := fun {v' W l'} hs hb => list_pr hm hs.pr hs.num (node_list hs.node) (by omega) hb
  obtain ⟨us, HUs⟩ := nm (commaP (m.map (prT nt qt)));rw [HUs.out] at HM ht ⊢;have HT : Hid (l.length + us.length + 1 ≤ 1000000) := by show _ ≤ _; omega
  clear hm hml h hN hX hl hS ht e1 HUs;unfold nb ncs at HW0;unfold ncs;go_enter Tryz.func41, Tryz.ntmps41
  go_wp2_with fail
  rw [HW0.out]
  try rw [← s0]
  refine cmo (put_new HS0.out.pr [⟨#[114, 101, 116, 117, 114, 110]⟩] (by simp) (by have := HT.out; simp only [lla, llc, lln]; omega) (by intro t0 h0; rw [List.mem_singleton.1 h0, btl]; decide)) ?_;rintro r W1 ⟨rfl, v1, hp1, hs1⟩;have HS1 : Hid _ := HS0.out.go hp1 hs1;have HC : Hid _ := HM.out HS1.out (by have := HT.out; simp only [lla, llc, lln]; omega);obtain ⟨r0, r1, r2, r3, r4, r5, r6⟩ := nb_cells HS1.out.box;clear hp1 hs1 HS0 HM HW0;go_wp2_with fail
  refine cmo HC.out ?_;rintro r W2 ⟨rfl, v2, hp2, hs2⟩;have HF : Hid (Pr W2 c B v2 (l ++ ([⟨#[114, 101, 116, 117, 114, 110]⟩] ++ us)) ∧ Pass c v w v2 W2) := ⟨by simpa only [List.append_assoc, List.cons_append, List.nil_append] using hp2, HS1.out.pass.trans hs2⟩;clear hp2 hs2 HS1 HC r0 r1 r2 r3 r4 r5 r6;go_wp2_with fail
  exact bodyPost_end (results_none Tryz.results41 _ _ _) rfl ⟨rfl, v2, HF.out⟩
theorem expr_12 {m : List Tr} (hm : ∀ x ∈ m, TreeIs nt qt P x) (hml : m.length ≤ 50000) (t : ByteArray) (vt vn n xa : Int) : PartIs 40 nt qt P (.mk 12 t vt vn n m xa) := by
  intro w c B v l cs h hN hX ht;have e1 : prT nt qt (.mk 12 t vt vn n m xa) = [⟨#[123]⟩] ++ commaP (m.map (prT nt qt)) ++ [⟨#[125]⟩] := by simp [prT, prTs_map, prN]
  rw [e1] at ht ⊢;simp only [lla, llc, lln] at ht;obtain ⟨sv, rfl, hl⟩ := NodeIs.cs.1 hX;obtain ⟨ao, ln, cp, rfl⟩ := slice_of hl;have hS := Stt.mk0 h hN hX;obtain ⟨W0, HW0⟩ := nm (w.alloc (nb (ncs 12 t vt vn n (.slice ao ln cp) xa)));rw [HW0.out] at hS;have HA : Hid _ := enc_any (s1 := ⟨#[123]⟩) (s2 := ⟨#[125]⟩) hm (by rw [btl]; decide) (by rw [btl]; decide) hS.pr hS.num (node_list hS.node) (by omega) (by omega);have HS0 : Hid _ := hS;obtain ⟨us, HUs⟩ := nm ([⟨#[123]⟩] ++ commaP (m.map (prT nt qt)) ++ [⟨#[125]⟩]);rw [HUs.out] at HA ⊢;clear hm hml h hN hX hl hS ht e1 HUs;unfold nb ncs at HW0;unfold ncs;go_enter Tryz.func40, Tryz.ntmps40
  go_wp2_with fail
  rw [HW0.out];refine cmo HA.out ?_;rintro r W1 ⟨rfl, v1, hp1, hs1⟩;have HF : Hid (Pr W1 c B v1 (l ++ us) ∧ Pass c v w v1 W1) := ⟨hp1, HS0.out.pass.trans hs1⟩;clear hp1 hs1 HS0 HA HW0;go_wp2_with fail
  exact bodyPost_end (results_none Tryz.results40 _ _ _) rfl ⟨rfl, v1, HF.out⟩
theorem expr_11a {x : Tr} (hx : TreeIs nt qt P x)  (t : ByteArray) (vt vn n xa : Int) {w : World} {c B : Nat} {v : Value} {l : List ByteArray} {b o : Nat} (h : Pr w c B v l) (hN : NumOK nt P c w) (hX : NodeIs (Out2 c v) w (.mk 11 t vt vn n (x :: ([] : List Tr)) xa) (ncs 11 t vt vn n (.slice (some ⟨b, o, none⟩) 1 1) xa)) (ht : l.length + (headP x.k (prT nt qt x) ++ ([(⟨#[40]⟩ : ByteArray)] ++ commaP (([] : List Tr).map (prT nt qt)) ++ [(⟨#[41]⟩ : ByteArray)])).length ≤ 1000000)  :
    Calls Tryz.prog 40 #[.pointer (some ⟨c, 0, none⟩), .agg (ncs 11 t vt vn n (.slice (some ⟨b, o, none⟩) 1 1) xa).toArray] w (Put c B v l (headP x.k (prT nt qt x) ++ ([(⟨#[40]⟩ : ByteArray)] ++ commaP (([] : List Tr).map (prT nt qt)) ++ [(⟨#[41]⟩ : ByteArray)])) w) := by
  have hS := Stt.mk0 h hN hX;obtain ⟨W0, HW0⟩ := nm (w.alloc (nb (ncs 11 t vt vn n (.slice (some ⟨b, o, none⟩) 1 1) xa)));rw [HW0.out] at hS;obtain ⟨xk, xt, xvt, xvn, xn, xl, xxa⟩ := x;rw [lla] at ht;obtain ⟨ao, ln, cp2, d, z0, z1, z2, z3, z4, z5, z6⟩ := child_at hS.node 0 (by simp) rfl;simp only [Nat.zero_mul, Nat.one_mul, Nat.add_zero] at z0 z1 z2 z3 z4 z5 z6;have HH : Hid _ := head_pr hx hS.pr hS.num d (by omega)
  have hfr : ∀ {v' : Value} {W : World}, NodeIs (Out2 c v') W (.mk 11 t vt vn n (Tr.mk xk xt xvt xvn xn xl xxa :: ([] : List Tr)) xa) (ncs 11 t vt vn n (.slice (some ⟨b, o, none⟩) 1 1) xa) → ListIs (Out2 c v') W ([] : List Tr) (.slice (some ⟨b, o, none⟩) 0 0) := by
    intro v' W hn;have h1 := node_list hn;rcases h1 with ⟨e, _⟩ | ⟨b2, o2, cp2, e3, q1, q2, q3⟩
    · cases e
    simp only [Value.slice.injEq, Option.some.injEq, Addr.mk.injEq, and_true] at e3;obtain ⟨⟨rfl, rfl⟩, _, rfl⟩ := e3;have := row_take q3 0;rw [List.take_zero] at this;exact .inr ⟨b, o, 0, rfl, q1, ⟨q2.1, Nat.zero_le _⟩, this⟩
  have HM : Hid (∀ {v' : Value} {W : World} {l' : List ByteArray}, Stt nt P c B v w (.mk 11 t vt vn n (Tr.mk xk xt xvt xvn xn xl xxa :: ([] : List Tr)) xa) (ncs 11 t vt vn n (.slice (some ⟨b, o, none⟩) 1 1) xa) w.heap.size v' W l' → l'.length + (2 + (commaP (([] : List Tr).map (prT nt qt))).length) ≤ 1000000 → Calls Tryz.prog 91 #[.pointer (some ⟨c, 0, none⟩), .string ⟨#[40]⟩, .slice (some ⟨b, o, none⟩) 0 0, .string ⟨#[41]⟩] W (Put c B v' l' ([(⟨#[40]⟩ : ByteArray)] ++ commaP (([] : List Tr).map (prT nt qt)) ++ [(⟨#[41]⟩ : ByteArray)]) W)) := fun {v' W l'} hs hb => enc_any (xs := []) (fun y h => by simp at h) (by rw [btl]; decide) (by rw [btl]; decide) hs.pr hs.num (hfr hs.node) (by simp) hb
  have HS0 : Hid _ := hS;obtain ⟨ts, HTs⟩ := nm (headP (Tr.mk xk xt xvt xvn xn xl xxa).k (prT nt qt (Tr.mk xk xt xvt xvn xn xl xxa)));obtain ⟨us, HUs⟩ := nm (commaP (([] : List Tr).map (prT nt qt)));rw [HTs.out] at HH ht ⊢;rw [HUs.out] at HM ht ⊢;simp only [lla, llc, lln] at ht;have HT : Hid (l.length + ts.length + us.length + 2 ≤ 1000000) := by show _ ≤ _; omega
  rw [← HW0.out] at z0 z1 z2 z3 z4 z5 z6;clear h hN hX hS ht hfr HTs HUs d hx;unfold nb ncs at HW0 z0 z1 z2 z3 z4 z5 z6;unfold ncs;go_enter Tryz.func40, Tryz.ntmps40
  go_wp2_with fail
  rw [HW0.out];refine cmo HH.out ?_;rintro r W1 ⟨rfl, v1, hp1, hs1⟩;have HS1 : Hid _ := HS0.out.go hp1 hs1;have HC : Hid _ := HM.out HS1.out (by have := HT.out; simp only [lla, llc, lln]; omega);obtain ⟨r0, r1, r2, r3, r4, r5, r6⟩ := nb_cells HS1.out.box;clear hp1 hs1 HS0 HM HW0 HH z0 z1 z2 z3 z4 z5 z6;go_wp2_with fail
  refine cmo HC.out ?_;rintro r W2 ⟨rfl, v2, hp2, hs2⟩;have HF : Hid (Pr W2 c B v2 (l ++ (ts ++ ([⟨#[40]⟩] ++ us ++ [(⟨#[41]⟩ : ByteArray)]))) ∧ Pass c v w v2 W2) := ⟨by simpa only [List.append_assoc, List.cons_append, List.nil_append] using hp2, HS1.out.pass.trans hs2⟩;clear hp2 hs2 HS1 HC r0 r1 r2 r3 r4 r5 r6;go_wp2_with fail
  exact bodyPost_end (results_none Tryz.results40 _ _ _) rfl ⟨rfl, v2, HF.out⟩
theorem expr_11b {x : Tr} {m : List Tr} (hx : TreeIs nt qt P x) (hm : ∀ y ∈ m, TreeIs nt qt P y) (hml : m.length ≤ 50000)  (t : ByteArray) (vt vn n xa : Int) {w : World} {c B : Nat} {v : Value} {l : List ByteArray} {b o cp : Nat} (h : Pr w c B v l) (hN : NumOK nt P c w) (hX : NodeIs (Out2 c v) w (.mk 11 t vt vn n (x :: m) xa) (ncs 11 t vt vn n (.slice (some ⟨b, o, none⟩) (m.length + 1) cp) xa)) (ht : l.length + (headP x.k (prT nt qt x) ++ ([(⟨#[40]⟩ : ByteArray)] ++ commaP (m.map (prT nt qt)) ++ [(⟨#[41]⟩ : ByteArray)])).length ≤ 1000000) (hle : m.length + 1 ≤ cp) (hcp : ¬ cp = 1) :
    Calls Tryz.prog 40 #[.pointer (some ⟨c, 0, none⟩), .agg (ncs 11 t vt vn n (.slice (some ⟨b, o, none⟩) (m.length + 1) cp) xa).toArray] w (Put c B v l (headP x.k (prT nt qt x) ++ ([(⟨#[40]⟩ : ByteArray)] ++ commaP (m.map (prT nt qt)) ++ [(⟨#[41]⟩ : ByteArray)])) w) := by
  have hS := Stt.mk0 h hN hX;obtain ⟨W0, HW0⟩ := nm (w.alloc (nb (ncs 11 t vt vn n (.slice (some ⟨b, o, none⟩) (m.length + 1) cp) xa)));rw [HW0.out] at hS;obtain ⟨xk, xt, xvt, xvn, xn, xl, xxa⟩ := x;rw [lla] at ht;obtain ⟨ao, ln, cp2, d, z0, z1, z2, z3, z4, z5, z6⟩ := child_at hS.node 0 (by simp) rfl;simp only [Nat.zero_mul, Nat.one_mul, Nat.add_zero] at z0 z1 z2 z3 z4 z5 z6;have HH : Hid _ := head_pr hx hS.pr hS.num d (by omega)
  have hfr : ∀ {v' : Value} {W : World}, NodeIs (Out2 c v') W (.mk 11 t vt vn n (Tr.mk xk xt xvt xvn xn xl xxa :: m) xa) (ncs 11 t vt vn n (.slice (some ⟨b, o, none⟩) (m.length + 1) cp) xa) → ListIs (Out2 c v') W m (.slice (some ⟨b, o + 7, none⟩) m.length (cp - 1)) := by
    intro v' W hn;have h1 := node_list hn;have := list_part (a := [Tr.mk xk xt xvt xvn xn xl xxa]) (m := m) (z := []) (by simpa using h1) (by simp);simpa using this
  have HM : Hid (∀ {v' : Value} {W : World} {l' : List ByteArray}, Stt nt P c B v w (.mk 11 t vt vn n (Tr.mk xk xt xvt xvn xn xl xxa :: m) xa) (ncs 11 t vt vn n (.slice (some ⟨b, o, none⟩) (m.length + 1) cp) xa) w.heap.size v' W l' → l'.length + (2 + (commaP (m.map (prT nt qt))).length) ≤ 1000000 → Calls Tryz.prog 91 #[.pointer (some ⟨c, 0, none⟩), .string ⟨#[40]⟩, .slice (some ⟨b, o + 7, none⟩) m.length (cp - 1), .string ⟨#[41]⟩] W (Put c B v' l' ([(⟨#[40]⟩ : ByteArray)] ++ commaP (m.map (prT nt qt)) ++ [(⟨#[41]⟩ : ByteArray)]) W)) := fun {v' W l'} hs hb => enc_any  hm (by rw [btl]; decide) (by rw [btl]; decide) hs.pr hs.num (hfr hs.node) (by omega) hb
  have HS0 : Hid _ := hS;obtain ⟨ts, HTs⟩ := nm (headP (Tr.mk xk xt xvt xvn xn xl xxa).k (prT nt qt (Tr.mk xk xt xvt xvn xn xl xxa)));obtain ⟨us, HUs⟩ := nm (commaP (m.map (prT nt qt)));rw [HTs.out] at HH ht ⊢;rw [HUs.out] at HM ht ⊢;simp only [lla, llc, lln] at ht;have HT : Hid (l.length + ts.length + us.length + 2 ≤ 1000000) := by show _ ≤ _; omega
  obtain ⟨k, HK⟩ := nm (m.length);rw [HK.out] at HS0 HM HW0 hle ⊢;rw [← HW0.out] at z0 z1 z2 z3 z4 z5 z6;clear hm hml HK h hN hX hS ht hfr HTs HUs d hx;unfold nb ncs at HW0 z0 z1 z2 z3 z4 z5 z6;unfold ncs;have p1 : (1 : Int) ≤ ((k + 1 : Nat) : Int) := by omega
  have p2 : ((k + 1 : Nat) : Int) ≤ (cp : Int) := by omega
  have p3 : (0 : Int) < ((k + 1 : Nat) : Int) := by omega
  have p4 : k + 1 - 1 = k := by omega
  have p5 : 1 ≤ cp := by omega
  go_enter Tryz.func40, Tryz.ntmps40
  go_wp2_with fail
  rw [HW0.out];refine cmo HH.out ?_;rintro r W1 ⟨rfl, v1, hp1, hs1⟩;have HS1 : Hid _ := HS0.out.go hp1 hs1;have HC : Hid _ := HM.out HS1.out (by have := HT.out; simp only [lla, llc, lln]; omega);obtain ⟨r0, r1, r2, r3, r4, r5, r6⟩ := nb_cells HS1.out.box;clear hp1 hs1 HS0 HM HW0 HH z0 z1 z2 z3 z4 z5 z6;go_wp2_with fail
  refine cmo HC.out ?_;rintro r W2 ⟨rfl, v2, hp2, hs2⟩;have HF : Hid (Pr W2 c B v2 (l ++ (ts ++ ([⟨#[40]⟩] ++ us ++ [(⟨#[41]⟩ : ByteArray)]))) ∧ Pass c v w v2 W2) := ⟨by simpa only [List.append_assoc, List.cons_append, List.nil_append] using hp2, HS1.out.pass.trans hs2⟩;clear hp2 hs2 HS1 HC r0 r1 r2 r3 r4 r5 r6;go_wp2_with fail
  exact bodyPost_end (results_none Tryz.results40 _ _ _) rfl ⟨rfl, v2, HF.out⟩
theorem expr_11 {x : Tr} {m : List Tr} (hx : TreeIs nt qt P x) (hm : ∀ y ∈ m, TreeIs nt qt P y) (hml : m.length ≤ 50000) (t : ByteArray) (vt vn n xa : Int) : PartIs 40 nt qt P (.mk 11 t vt vn n (x :: m) xa) := by
  intro w c B v l cs h hN hX ht;have e1 : prT nt qt (.mk 11 t vt vn n (x :: m) xa) = headP x.k (prT nt qt x) ++ ([⟨#[40]⟩] ++ commaP (m.map (prT nt qt)) ++ [⟨#[41]⟩]) := by simp [prT, prTs_map, prN]
  rw [e1] at ht ⊢;obtain ⟨sv, rfl, hl⟩ := NodeIs.cs.1 hX;obtain ⟨b, o, cp, rfl, hcp⟩ := slice_some hl (by simp);rw [llc] at hX hcp ⊢;by_cases h1 : cp = 1
  · subst h1;have hm0 : m = [] := List.length_eq_zero_iff.1 (by omega);subst hm0;exact expr_11a hx t vt vn n xa h hN hX ht
  · exact expr_11b hx hm hml t vt vn n xa h hN hX ht hcp h1
end Go.Proofs.YtmoiikpjegbokaaGreatDoor
