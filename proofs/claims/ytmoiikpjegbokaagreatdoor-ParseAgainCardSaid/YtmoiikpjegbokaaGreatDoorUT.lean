import Derived.Test.YtmoiikpjegbokaaGreatDoorUS
set_option linter.unusedSimpArgs false
set_option linter.unusedVariables false
set_option maxRecDepth 20000
/- The printer: choices. -/
namespace Go.Proofs.YtmoiikpjegbokaaGreatDoor
open List renaming length_append → lla
open List renaming length_cons → llc
open List renaming length_nil → lln
open Calls renaming mono → cmo
open Go.ByteArray renaming toList_eq → btl
open List renaming append_assoc → laa
open List renaming mem_singleton → lms
open Go.RowKit
variable {nt : Int → Int → ByteArray} {qt : ByteArray → ByteArray} {P : Int → Int → Prop}
def slLen : Value → Nat
  | .slice _ n _ => n
  | _ => 0
theorem list_ix {S : Nat → Prop} {W : World} {l : List Tr} {b o n cp : Nat} (h : ListIs S W l (.slice (some ⟨b, o, none⟩) n cp)) (h0 : l ≠ []) (i : Nat) (hi : i < l.length) {yk : Int} {yt : ByteArray} {yvt yvn yn : Int} {yl : List Tr} {ya : Int} (hy : l[i] = .mk yk yt yvt yvn yn yl ya) :
    ∃ ao ln' cp', NodeIs S W (.mk yk yt yvt yvn yn yl ya) (ncs yk yt yvt yvn yn (.slice ao ln' cp') ya) ∧ W.cell? ⟨b, o + i * 7, none⟩ = some (.int .i64 yk) ∧ W.cell? ⟨b, o + i * 7 + 1, none⟩ = some (.string yt) ∧ W.cell? ⟨b, o + i * 7 + 2, none⟩ = some (.int .i64 yvt) ∧ W.cell? ⟨b, o + i * 7 + 3, none⟩ = some (.int .i64 yvn) ∧ W.cell? ⟨b, o + i * 7 + 4, none⟩ = some (.int .i64 yn) ∧ W.cell? ⟨b, o + i * 7 + 5, none⟩ = some (.slice ao ln' cp') ∧ W.cell? ⟨b, o + i * 7 + 6, none⟩ = some (.int .i64 ya) := by
  rcases h with ⟨e, _⟩ | ⟨b2, o2, cp2, e1, hb2, hbl2, hr2⟩
  · exact absurd e h0
  simp only [Value.slice.injEq, Option.some.injEq, Addr.mk.injEq, and_true] at e1;obtain ⟨⟨rfl, rfl⟩, _, rfl⟩ := e1;obtain ⟨cs, c1, c2⟩ := hr2.at i hi;rw [hy] at c1;obtain ⟨sv', rfl, hx1⟩ := NodeIs.cs.1 c1;obtain ⟨ao, ln', cp', rfl⟩ := slice_of hx1;rw [Nat.zero_add] at c2;exact ⟨ao, ln', cp', c1, seven_cells (fun t ht => by rw [← c2 t ht])⟩
theorem list_two {S : Nat → Prop} {W : World} {x y : Tr} {r : List Tr} {b o n cp : Nat} (h : ListIs S W (x :: y :: r) (.slice (some ⟨b, o, none⟩) n cp)) : ListIs S W r (.slice (some ⟨b, if cp = 2 then o else o + 14, none⟩) r.length (cp - 2)) := by
  rcases h with ⟨e, _⟩ | ⟨b2, o2, cp2, e3, q1, q2, q3⟩
  · cases e
  simp only [Value.slice.injEq, Option.some.injEq, Addr.mk.injEq, and_true] at e3;obtain ⟨⟨rfl, rfl⟩, _, rfl⟩ := e3;have hz := q2.2;simp only [llc] at hz;have h1 := row_drop q3 2;by_cases h2 : cp = 2
  · have hr : r = [] := List.length_eq_zero_iff.1 (by omega);subst hr;rw [if_pos h2];have h3 := row_take q3 0;exact .inr ⟨b, o, cp - 2, rfl, q1, ⟨q2.1, Nat.zero_le _⟩, h3⟩
  · rw [if_neg h2];exact .inr ⟨b, o + 14, cp - 2, rfl, q1, ⟨q2.1, by omega⟩, h1⟩
theorem ch_cons (wd : ByteArray) (x y : List ByteArray) (r : List (List ByteArray)) : chP wd (x :: y :: r) = [wd] ++ (x ++ ([⟨#[116, 104, 101, 110]⟩] ++ (y ++ chP ⟨#[101, 108, 115, 101, 105, 102]⟩ r))) := by simp [chP]
set_option maxHeartbeats 4000000 in
theorem choice_pr {l0 : List Tr} (hx : ∀ x ∈ l0, TreeIs nt qt P x) {w : World} {c B : Nat} {v : Value} {l : List ByteArray} {b o cp : Nat} (h : Pr w c B v l) (hN : NumOK nt P c w) (hL : ListIs (Out2 c v) w l0 (.slice (some ⟨b, o, none⟩) l0.length cp)) (h0 : l0.length ≤ cp) (ht : l.length + (chP ⟨#[105, 102]⟩ (l0.map (prT nt qt))).length ≤ 1000000) :
    Calls Tryz.prog 93 #[.pointer (some ⟨c, 0, none⟩), .slice (some ⟨b, o, none⟩) l0.length cp] w (Put c B v l (chP ⟨#[105, 102]⟩ (l0.map (prT nt qt))) w) := by
  have HN : Hid (NumOK nt P c w ∧ Pr w c B v l) := ⟨hN, h⟩;have H0 : Hid (ListIs (Out2 c v) w l0 (.slice (some ⟨b, o, none⟩) l0.length cp) ∧ (∀ x ∈ l0, TreeIs nt qt P x)) := ⟨hL, hx⟩;obtain ⟨R, HR⟩ := nm (chP ⟨#[105, 102]⟩ (l0.map (prT nt qt)));rw [HR.out] at ht ⊢;have HT : Hid (l.length + R.length ≤ 1000000) := ht;clear hx h hN hL ht;go_enter Tryz.func93, Tryz.ntmps93
  go_wp2_with fail
  go_loopw [1, 4] (fun u1 u4 wr => ∃ (rest : List Tr) (wd : ByteArray) (D : List ByteArray) (o2 cp2 : Nat) (v' : Value), u1 = .slice (some ⟨b, o2, none⟩) rest.length cp2 ∧ u4 = .string wd ∧ rest.length ≤ cp2 ∧ Hid (ListIs (Out2 c v) w rest (.slice (some ⟨b, o2, none⟩) rest.length cp2) ∧ (∀ x ∈ rest, TreeIs nt qt P x)) ∧ Hid (R = D ++ chP wd (rest.map (prT nt qt)) ∧ wd.toList ≠ []) ∧ Hid (Pr wr c B v' (l ++ D) ∧ Pass c v w v' wr)) (fun u1 _ _ => slLen u1)
  case atStart => exact ⟨l0, ⟨#[105, 102]⟩, [], o, cp, v, rfl, rfl, h0, H0.out, ⟨by rw [List.nil_append]; exact HR.out.symm, by rw [btl]; decide⟩, ⟨by rw [List.append_nil]; exact HN.out.2, Pass.refl _ _ _⟩⟩
  case round =>
    obtain ⟨rest, wd, D, o2, cp2, v', rfl, rfl, hle, HL, HD, HP⟩ := hrel;rcases rest with _ | ⟨x, _ | ⟨y, r⟩⟩
    · have k1 : ¬ (1 : Int) < ((0 : Nat) : Int) := by omega
      simp only [lln] at hle ⊢;go_wp2_with fail
      refine cmo (put_new HP.out.1 [⟨#[101, 110, 100]⟩] (by simp) (by
        have h1 := congrArg List.length HD.out.1;have h2 := HT.out;simp only [List.map_nil, chP, lla, llc, lln] at h1 ⊢;omega) (by intro t0 h0; rw [lms.1 h0, btl]; decide)) ?_
      rintro r0 W1 ⟨rfl, v1, hp1, hs1⟩;have HF : Hid (Pr W1 c B v1 (l ++ R) ∧ Pass c v w v1 W1) := ⟨by rw [HD.out.1, ← laa]; exact hp1, HP.out.2.trans hs1⟩;clear hp1 hs1;go_wp2_with fail
      exact bodyPost_end (results_none Tryz.results93 _ _ _) rfl ⟨rfl, v1, HF.out⟩
    · have k1 : ¬ (1 : Int) < ((1 : Nat) : Int) := by omega
      have hy := HL.out.2 x (by simp);have hli := HP.out.2.list HL.out.1;have hnum := HN.out.1.low (HP.out.2.low HN.out.2);obtain ⟨xk, xt, xvt, xvn, xn, xl, xxa⟩ := x
      have HLn : Hid (R = D ++ ([⟨#[101, 108, 115, 101]⟩] ++ (prT nt qt (Tr.mk xk xt xvt xvn xn xl xxa) ++ [⟨#[101, 110, 100]⟩]))) := by
        show _ = _;rw [HD.out.1]; simp [chP]
      have HC : Hid (∀ {v1 : Value} {W : World} {l' : List ByteArray}, Pr W c B v1 l' → Pass c v' wr v1 W → l'.length + (prT nt qt (Tr.mk xk xt xvt xvn xn xl xxa)).length ≤ 1000000 → ∃ ao' ln' cp', Hid (Calls Tryz.prog 24 #[.pointer (some ⟨c, 0, none⟩), .agg (ncs xk xt xvt xvn xn (.slice ao' ln' cp') xxa).toArray] W (Put c B v1 l' (prT nt qt (Tr.mk xk xt xvt xvn xn xl xxa)) W)) ∧ W.cell? ⟨b, o2 + 0 * 7, none⟩ = some (.int .i64 xk) ∧ W.cell? ⟨b, o2 + 0 * 7 + 1, none⟩ = some (.string xt) ∧ W.cell? ⟨b, o2 + 0 * 7 + 2, none⟩ = some (.int .i64 xvt) ∧ W.cell? ⟨b, o2 + 0 * 7 + 3, none⟩ = some (.int .i64 xvn) ∧ W.cell? ⟨b, o2 + 0 * 7 + 4, none⟩ = some (.int .i64 xn) ∧ W.cell? ⟨b, o2 + 0 * 7 + 5, none⟩ = some (.slice ao' ln' cp') ∧ W.cell? ⟨b, o2 + 0 * 7 + 6, none⟩ = some (.int .i64 xxa)) := fun {v1 W l'} hp hs hb => by
        obtain ⟨ao', ln', cp', d, z⟩ := list_ix (hs.list hli) (by simp) 0 (by simp) rfl;exact ⟨ao', ln', cp', hy W c B v1 l' _ hp (hnum.low (hs.low HP.out.1)) d hb, z⟩
      simp only [llc, lln, Nat.zero_add] at hle ⊢;clear hy hli hnum;go_wp2_with fail
      refine cmo (put_new HP.out.1 [⟨#[101, 108, 115, 101]⟩] (by simp) (by
        have h1 := congrArg List.length HLn.out;have h2 := HT.out;simp only [lla, llc, lln] at h1 ⊢;omega) (by intro t0 h0; rw [lms.1 h0, btl]; decide)) ?_
      rintro r0 W1 ⟨rfl, v1, hp1, hs1⟩
      obtain ⟨ao1, ln1, cp1, HH, z0, z1, z2, z3, z4, z5, z6⟩ := HC.out hp1 hs1 (by
        have h1 := congrArg List.length HLn.out;have h2 := HT.out;simp only [lla, llc, lln] at h1 ⊢;omega)
      simp only [Nat.zero_mul, Nat.add_zero] at z0 z1 z2 z3 z4 z5 z6;have HS1 : Hid _ := HP.out.2.trans hs1;clear hp1 hs1 HC;go_wp2_with fail
      refine cmo HH.out ?_;rintro r0 W2 ⟨rfl, v2, hp2, hs2⟩;have HP2 : Hid (Pr W2 c B v2 _) := hp2;have HS2 : Hid _ := HS1.out.trans hs2;clear hp2 hs2 HH HS1 z0 z1 z2 z3 z4 z5 z6;go_wp2_with fail
      refine cmo (put_new HP2.out [⟨#[101, 110, 100]⟩] (by simp) (by
        have h1 := congrArg List.length HLn.out;have h2 := HT.out;simp only [lla, llc, lln] at h1 ⊢;omega) (by intro t0 h0; rw [lms.1 h0, btl]; decide)) ?_
      rintro r0 W3 ⟨rfl, v3, hp3, hs3⟩;have HF : Hid (Pr W3 c B v3 (l ++ R) ∧ Pass c v w v3 W3) := ⟨by rw [HLn.out]; simpa only [laa] using hp3, HS2.out.trans hs3⟩;clear hp3 hs3;go_wp2_with fail
      exact bodyPost_end (results_none Tryz.results93 _ _ _) rfl ⟨rfl, v3, HF.out⟩
    · have hy := HL.out.2 x (by simp);have hz := HL.out.2 y (by simp);have hrr : ∀ u ∈ r, TreeIs nt qt P u := fun u hu => HL.out.2 u (by simp [hu])
      have hl2 := list_two HL.out.1;have hli := HP.out.2.list HL.out.1;have hnum := HN.out.1.low (HP.out.2.low HN.out.2);obtain ⟨xk, xt, xvt, xvn, xn, xl, xxa⟩ := x;obtain ⟨yk, yt, yvt, yvn, yn, yl, yxa⟩ := y
      have HC : Hid (∀ {v1 : Value} {W : World} {l' : List ByteArray}, Pr W c B v1 l' → Pass c v' wr v1 W → l'.length + (prT nt qt (Tr.mk xk xt xvt xvn xn xl xxa)).length ≤ 1000000 → ∃ ao' ln' cp', Hid (Calls Tryz.prog 24 #[.pointer (some ⟨c, 0, none⟩), .agg (ncs xk xt xvt xvn xn (.slice ao' ln' cp') xxa).toArray] W (Put c B v1 l' (prT nt qt (Tr.mk xk xt xvt xvn xn xl xxa)) W)) ∧ W.cell? ⟨b, o2 + 0 * 7, none⟩ = some (.int .i64 xk) ∧ W.cell? ⟨b, o2 + 0 * 7 + 1, none⟩ = some (.string xt) ∧ W.cell? ⟨b, o2 + 0 * 7 + 2, none⟩ = some (.int .i64 xvt) ∧ W.cell? ⟨b, o2 + 0 * 7 + 3, none⟩ = some (.int .i64 xvn) ∧ W.cell? ⟨b, o2 + 0 * 7 + 4, none⟩ = some (.int .i64 xn) ∧ W.cell? ⟨b, o2 + 0 * 7 + 5, none⟩ = some ((.slice ao' ln' cp')) ∧ W.cell? ⟨b, o2 + 0 * 7 + 6, none⟩ = some (.int .i64 xxa)) := fun {v1 W l'} hp hs hb => by
        obtain ⟨ao', ln', cp', d, z⟩ := list_ix (hs.list hli) (by simp) 0 (by simp) rfl;exact ⟨ao', ln', cp', hy W c B v1 l' _ hp (hnum.low (hs.low HP.out.1)) d hb, z⟩
      have HC2 : Hid (∀ {v1 : Value} {W : World} {l' : List ByteArray}, Pr W c B v1 l' → Pass c v' wr v1 W → l'.length + (prT nt qt (Tr.mk yk yt yvt yvn yn yl yxa)).length ≤ 1000000 → ∃ ao' ln' cp', Hid (Calls Tryz.prog 24 #[.pointer (some ⟨c, 0, none⟩), .agg (ncs yk yt yvt yvn yn (.slice ao' ln' cp') yxa).toArray] W (Put c B v1 l' (prT nt qt (Tr.mk yk yt yvt yvn yn yl yxa)) W)) ∧ W.cell? ⟨b, o2 + 1 * 7, none⟩ = some (.int .i64 yk) ∧ W.cell? ⟨b, o2 + 1 * 7 + 1, none⟩ = some (.string yt) ∧ W.cell? ⟨b, o2 + 1 * 7 + 2, none⟩ = some (.int .i64 yvt) ∧ W.cell? ⟨b, o2 + 1 * 7 + 3, none⟩ = some (.int .i64 yvn) ∧ W.cell? ⟨b, o2 + 1 * 7 + 4, none⟩ = some (.int .i64 yn) ∧ W.cell? ⟨b, o2 + 1 * 7 + 5, none⟩ = some ((.slice ao' ln' cp')) ∧ W.cell? ⟨b, o2 + 1 * 7 + 6, none⟩ = some (.int .i64 yxa)) := fun {v1 W l'} hp hs hb => by
        obtain ⟨ao', ln', cp', d, z⟩ := list_ix (hs.list hli) (by simp) 1 (by simp) rfl;exact ⟨ao', ln', cp', hz W c B v1 l' _ hp (hnum.low (hs.low HP.out.1)) d hb, z⟩
      have HLn : Hid (R = D ++ ([wd] ++ (prT nt qt (Tr.mk xk xt xvt xvn xn xl xxa) ++ ([⟨#[116, 104, 101, 110]⟩] ++ (prT nt qt (Tr.mk yk yt yvt yvn yn yl yxa) ++ chP ⟨#[101, 108, 115, 101, 105, 102]⟩ (r.map (prT nt qt))))))) := by
        show _ = _;rw [HD.out.1, List.map_cons, List.map_cons, ch_cons]
      obtain ⟨tx, HTx⟩ := nm (prT nt qt (Tr.mk xk xt xvt xvn xn xl xxa));obtain ⟨ty, HTy⟩ := nm (prT nt qt (Tr.mk yk yt yvt yvn yn yl yxa));rw [HTx.out] at HC HLn;rw [HTy.out] at HC2 HLn;have HL2 : Hid _ := And.intro hl2 hrr;simp only [llc] at hle ⊢;obtain ⟨k, HK⟩ := nm (r.length);rw [HK.out] at hle ⊢;have k1 : (1 : Int) < ((k + 1 + 1 : Nat) : Int) := by omega
      have k2 : (0 : Int) < ((k + 1 + 1 : Nat) : Int) := by omega
      have k3 : (2 : Int) ≤ ((k + 1 + 1 : Nat) : Int) := by omega
      have k4 : ((k + 1 + 1 : Nat) : Int) ≤ (cp2 : Int) := by omega
      have k5 : k + 1 + 1 - 2 = k := by omega
      have k6 : 2 ≤ cp2 := by omega
      clear hy hz hrr hl2 hli hnum HL;go_wp2_with fail
      refine cmo (put_new HP.out.1 [wd] (by simp) (by
        have h1 := congrArg List.length HLn.out;have h2 := HT.out;simp only [lla, llc, lln] at h1 ⊢;omega) (by intro t0 h0; rw [lms.1 h0]; exact HD.out.2)) ?_
      rintro r0 W1 ⟨rfl, v1, hp1, hs1⟩
      obtain ⟨ao1, ln1, cp1, HH, z0, z1, z2, z3, z4, z5, z6⟩ := HC.out hp1 hs1 (by
        have h1 := congrArg List.length HLn.out;have h2 := HT.out;simp only [lla, llc, lln] at h1 ⊢;omega)
      simp only [Nat.zero_mul, Nat.add_zero] at z0 z1 z2 z3 z4 z5 z6;have HS1 : Hid _ := hs1;clear hp1 hs1 HC;go_wp2_with fail
      refine cmo HH.out ?_;rintro r0 W2 ⟨rfl, v2, hp2, hs2⟩;have HP2 : Hid (Pr W2 c B v2 _) := hp2;have HS2 : Hid _ := HS1.out.trans hs2;clear hp2 hs2 HH HS1 z0 z1 z2 z3 z4 z5 z6;go_wp2_with fail
      refine cmo (put_new HP2.out [⟨#[116, 104, 101, 110]⟩] (by simp) (by
        have h1 := congrArg List.length HLn.out;have h2 := HT.out;simp only [lla, llc, lln] at h1 ⊢;omega) (by intro t0 h0; rw [lms.1 h0, btl]; decide)) ?_
      rintro r0 W3 ⟨rfl, v3, hp3, hs3⟩;have hs3' := HS2.out.trans hs3
      obtain ⟨ao1, ln1, cp1, HH, z0, z1, z2, z3, z4, z5, z6⟩ := HC2.out hp3 hs3' (by
        have h1 := congrArg List.length HLn.out;have h2 := HT.out;simp only [lla, llc, lln] at h1 ⊢;omega)
      simp only [Nat.one_mul] at z0 z1 z2 z3 z4 z5 z6;have HS3 : Hid _ := hs3';clear hp3 hs3 hs3' HC2 HS2 HP2;go_wp2_with fail
      refine cmo HH.out ?_;rintro r0 W4 ⟨rfl, v4, hp4, hs4⟩;have HP4 : Hid (Pr W4 c B v4 (l ++ (D ++ ([wd] ++ (tx ++ ([⟨#[116, 104, 101, 110]⟩] ++ ty))))) ∧ Pass c v w v4 W4) := ⟨by simpa only [laa] using hp4, HP.out.2.trans (HS3.out.trans hs4)⟩;clear hp4 hs4 HH HS3 z0 z1 z2 z3 z4 z5 z6;by_cases h2 : cp2 = 2
      · subst h2;go_wp2_with fail
        go_quiet (fail)
        go_roundw
        case rel =>
          refine ⟨_, _, _, _, _, _, _, _, _, _, _, _, _, _, _, _, _, _, _, _, _, _, _, _, ?_, rfl⟩;refine ⟨r, ⟨#[101, 108, 115, 101, 105, 102]⟩, D ++ ([wd] ++ (tx ++ ([⟨#[116, 104, 101, 110]⟩] ++ ty))), o2, 0, v4, by rw [HK.out], rfl, by rw [HK.out]; omega, ⟨by simpa using HL2.out.1, HL2.out.2⟩, ⟨by rw [HLn.out]; simp only [laa], by rw [btl]; decide⟩, ⟨HP4.out.1.no ((Kept.refl No W4).drewN _), HP4.out.2.trans (Pass.no ((Kept.refl No W4).drewN _))⟩⟩
        case measure => simp [slLen]; omega
      · go_wp2_with fail
        go_quiet (fail)
        go_roundw
        case rel =>
          refine ⟨_, _, _, _, _, _, _, _, _, _, _, _, _, _, _, _, _, _, _, _, _, _, _, _, ?_, rfl⟩;refine ⟨r, ⟨#[101, 108, 115, 101, 105, 102]⟩, D ++ ([wd] ++ (tx ++ ([⟨#[116, 104, 101, 110]⟩] ++ ty))), o2 + 14, cp2 - 2, v4, by rw [HK.out], rfl, by rw [HK.out]; omega, ⟨by have := HL2.out.1; rwa [if_neg h2] at this, HL2.out.2⟩, ⟨by rw [HLn.out]; simp only [laa], by rw [btl]; decide⟩, ⟨HP4.out.1.no ((Kept.refl No W4).drewN _), HP4.out.2.trans (Pass.no ((Kept.refl No W4).drewN _))⟩⟩
        case measure => simp [slLen]; omega
end Go.Proofs.YtmoiikpjegbokaaGreatDoor
