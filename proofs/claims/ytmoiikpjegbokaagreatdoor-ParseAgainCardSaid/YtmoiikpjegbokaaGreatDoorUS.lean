import Derived.Test.YtmoiikpjegbokaaGreatDoorUP
import Derived.Test.YtmoiikpjegbokaaGreatDoorUR
set_option linter.unusedSimpArgs false
set_option linter.unusedVariables false
set_option maxRecDepth 20000
/- The printer: local function, choices. -/
namespace Go.Proofs.YtmoiikpjegbokaaGreatDoor
open List renaming length_append → lla
open List renaming length_cons → llc
open List renaming length_nil → lln
open Go.RowKit
variable {nt : Int → Int → ByteArray} {qt : ByteArray → ByteArray} {P : Int → Int → Prop}
set_option maxHeartbeats 4000000 in
theorem stmt_29 {a x : Tr} {m : List Tr} (ha : TreeIs nt qt P a) (hm : ∀ y ∈ m, TreeIs nt qt P y) (hx : TreeIs nt qt P x) (hk : ∀ y ∈ m, y.k = 6) (kx : x.k = 20) (hml : m.length ≤ 50000) (ft : ByteArray) (fvt fvn fn fxa : Int) (t : ByteArray) (vt vn n xa : Int) : PartIs 41 nt qt P (.mk 29 t vt vn n [a, (Tr.mk 7 ft fvt fvn fn (m ++ [x]) fxa)] xa) := by
  intro w c B v l cs h hN hX ht
  have e1 : prT nt qt (.mk 29 t vt vn n [a, (Tr.mk 7 ft fvt fvn fn (m ++ [x]) fxa)] xa) = [⟨#[108, 111, 99, 97, 108]⟩, ⟨#[102, 117, 110, 99, 116, 105, 111, 110]⟩] ++ (prT nt qt a ++ bodyP ((m ++ [x]).map (prT nt qt))) := by
    have e2 : prT nt qt (Tr.mk 7 ft fvt fvn fn (m ++ [x]) fxa) = [⟨#[102, 117, 110, 99, 116, 105, 111, 110]⟩] ++ bodyP ((m ++ [x]).map (prT nt qt)) := by simp [prT, prTs_map, prN]
    simp only [prT, prTs_map, List.map_cons, List.map_nil] at e2 ⊢;unfold prN at e2 ⊢;simp at e2 ⊢
  rw [e1] at ht ⊢;simp only [lla, llc, lln] at ht;obtain ⟨sv, rfl, hl⟩ := NodeIs.cs.1 hX;obtain ⟨b, o, cp, rfl, hcp⟩ := slice_some hl (by simp);obtain ⟨ak, at0, avt, avn, an, al, axa⟩ := a;simp only [llc, lln, Nat.zero_add, Nat.reduceAdd] at hX hcp ⊢;have hS := Stt.mk0 h hN hX;obtain ⟨W0, HW0⟩ := nm (w.alloc (nb (ncs 29 t vt vn n (.slice (some ⟨b, o, none⟩) 2 cp) xa)));rw [HW0.out] at hS;have s0 : W0.heap.size = w.heap.size + 1 := by rw [← HW0.out]; simp
  have HS0 : Hid _ := hS
  have HA : Hid (∀ {v' : Value} {W : World} {l' : List ByteArray}, Stt nt P c B v w (.mk 29 t vt vn n [(Tr.mk ak at0 avt avn an al axa), (Tr.mk 7 ft fvt fvn fn (m ++ [x]) fxa)] xa) (ncs 29 t vt vn n (.slice (some ⟨b, o, none⟩) 2 cp) xa) w.heap.size v' W l' → l'.length + (prT nt qt (Tr.mk ak at0 avt avn an al axa)).length ≤ 1000000 → ∃ ao' ln' cp', Hid (Calls Tryz.prog 24 #[.pointer (some ⟨c, 0, none⟩), .agg (ncs ak at0 avt avn an (.slice ao' ln' cp') axa).toArray] W (Put c B v' l' (prT nt qt (Tr.mk ak at0 avt avn an al axa)) W)) ∧ W.cell? ⟨b, o + 0 * 7, none⟩ = some (.int .i64 ak) ∧ W.cell? ⟨b, o + 0 * 7 + 1, none⟩ = some (.string at0) ∧ W.cell? ⟨b, o + 0 * 7 + 2, none⟩ = some (.int .i64 avt) ∧ W.cell? ⟨b, o + 0 * 7 + 3, none⟩ = some (.int .i64 avn) ∧ W.cell? ⟨b, o + 0 * 7 + 4, none⟩ = some (.int .i64 an) ∧ W.cell? ⟨b, o + 0 * 7 + 5, none⟩ = some ((.slice ao' ln' cp')) ∧ W.cell? ⟨b, o + 0 * 7 + 6, none⟩ = some (.int .i64 axa)) := fun {v' W l'} hs hb => by
    obtain ⟨ao', ln', cp', d, z⟩ := child_at (ln := 2) hs.node 0 (by simp) rfl;exact ⟨ao', ln', cp', ha W c B v' l' _ hs.pr hs.num d hb, z⟩
  have HB : Hid (∀ {v' : Value} {W : World} {l' : List ByteArray}, Stt nt P c B v w (.mk 29 t vt vn n [(Tr.mk ak at0 avt avn an al axa), (Tr.mk 7 ft fvt fvn fn (m ++ [x]) fxa)] xa) (ncs 29 t vt vn n (.slice (some ⟨b, o, none⟩) 2 cp) xa) w.heap.size v' W l' → l'.length + (bodyP ((m ++ [x]).map (prT nt qt))).length ≤ 1000000 → ∃ ao' ln' cp', Hid (Calls Tryz.prog 39 #[.agg (ncs 7 ft fvt fvn fn (.slice ao' ln' cp') fxa).toArray] W fun r w' => r = .returned (.bool true) ∧ Kept No W w') ∧ Hid (∀ W', Kept No W W' → Calls Tryz.prog 88 #[.pointer (some ⟨c, 0, none⟩), .agg (ncs 7 ft fvt fvn fn (.slice ao' ln' cp') fxa).toArray] W' (Put c B v' l' (bodyP ((m ++ [x]).map (prT nt qt))) W')) ∧ W.cell? ⟨b, o + 1 * 7, none⟩ = some (.int .i64 7) ∧ W.cell? ⟨b, o + 1 * 7 + 1, none⟩ = some (.string ft) ∧ W.cell? ⟨b, o + 1 * 7 + 2, none⟩ = some (.int .i64 fvt) ∧ W.cell? ⟨b, o + 1 * 7 + 3, none⟩ = some (.int .i64 fvn) ∧ W.cell? ⟨b, o + 1 * 7 + 4, none⟩ = some (.int .i64 fn) ∧ W.cell? ⟨b, o + 1 * 7 + 5, none⟩ = some ((.slice ao' ln' cp')) ∧ W.cell? ⟨b, o + 1 * 7 + 6, none⟩ = some (.int .i64 fxa)) := fun {v' W l'} hs hb => by
    obtain ⟨ao', ln', cp', d, z⟩ := child_at (ln := 2) hs.node 1 (by simp) rfl;exact ⟨ao', ln', cp', hp_7 _ _ _ _ kx hk hml _ _ _ _ d, fun W' hW => body_pr hm hx hml _ _ _ _ _ _ (hs.no hW).pr (hs.no hW).num (NodeIs.kept hW.no _ _ d) hb, z⟩
  obtain ⟨ts, HTs⟩ := nm (prT nt qt (Tr.mk ak at0 avt avn an al axa));obtain ⟨us, HUs⟩ := nm (bodyP ((m ++ [x]).map (prT nt qt)));rw [HTs.out] at HA ht ⊢;rw [HUs.out] at HB ht ⊢;have HT : Hid (l.length + ts.length + us.length + 2 ≤ 1000000) := by show _ ≤ _; omega
  clear ha hm hx h hN hX hl hS ht e1 HTs HUs hk kx hml hcp;unfold nb ncs at HW0;unfold ncs;go_enter Tryz.func41, Tryz.ntmps41
  go_wp2_with fail
  rw [HW0.out]
  try rw [← s0]
  refine Calls.mono (put_new HS0.out.pr [⟨#[108, 111, 99, 97, 108]⟩, ⟨#[102, 117, 110, 99, 116, 105, 111, 110]⟩] (by simp) (by have := HT.out; simp only [lla, llc, lln]; omega) (by intro t0 h0; simp only [List.mem_cons, List.not_mem_nil, or_false] at h0; rcases h0 with rfl | rfl; (rw [ByteArray.toList_eq]; decide); (rw [ByteArray.toList_eq]; decide))) ?_;rintro r W1 ⟨rfl, v1, hp1, hs1⟩;have HS1 : Hid _ := HS0.out.go hp1 hs1;obtain ⟨ao1, ln1, cp1, HC, z0, z1, z2, z3, z4, z5, z6⟩ := HA.out HS1.out (by have := HT.out; simp only [lla, llc, lln]; omega);simp only [Nat.zero_mul, Nat.add_zero] at z0 z1 z2 z3 z4 z5 z6;obtain ⟨r0, r1, r2, r3, r4, r5, r6⟩ := nb_cells HS1.out.box;clear hp1 hs1 HS0 HA HW0;go_wp2_with fail
  refine Calls.mono HC.out ?_;rintro r W2 ⟨rfl, v2, hp2, hs2⟩;have HS2 : Hid _ := HS1.out.go hp2 hs2;clear hp2 hs2 HS1 HC r0 r1 r2 r3 r4 r5 r6 z0 z1 z2 z3 z4 z5 z6;obtain ⟨ao1, ln1, cp1, HH, HC, z0, z1, z2, z3, z4, z5, z6⟩ := HB.out HS2.out (by have := HT.out; simp only [lla, llc, lln]; omega);simp only [Nat.one_mul] at z0 z1 z2 z3 z4 z5 z6;obtain ⟨r0, r1, r2, r3, r4, r5, r6⟩ := nb_cells HS2.out.box;clear HB;go_wp2_with fail
  refine Calls.mono HH.out ?_;rintro r W3 ⟨rfl, hk3⟩;have HS3 : Hid _ := HS2.out.no hk3;have HC3 : Hid _ := HC.out W3 hk3;have q0 := cell_kept z0 hk3;have q1 := cell_kept z1 hk3;have q2 := cell_kept z2 hk3;have q3 := cell_kept z3 hk3;have q4 := cell_kept z4 hk3;have q5 := cell_kept z5 hk3;have q6 := cell_kept z6 hk3;clear hk3 HS2 HC HH r0 r1 r2 r3 r4 r5 r6 z0 z1 z2 z3 z4 z5 z6;obtain ⟨r0, r1, r2, r3, r4, r5, r6⟩ := nb_cells HS3.out.box;go_wp2_with fail
  refine Calls.mono HC3.out ?_;rintro r W5 ⟨rfl, v5, hp5, hs5⟩;have HF : Hid (Pr W5 c B v5 (l ++ ([⟨#[108, 111, 99, 97, 108]⟩, ⟨#[102, 117, 110, 99, 116, 105, 111, 110]⟩] ++ (ts ++ us))) ∧ Pass c v w v5 W5) := ⟨by simpa only [List.append_assoc, List.cons_append, List.nil_append] using hp5, HS3.out.pass.trans hs5⟩;clear hp5 hs5 HS3 HC3 r0 r1 r2 r3 r4 r5 r6 q0 q1 q2 q3 q4 q5 q6;go_wp2_with fail
  exact bodyPost_end (results_none Tryz.results41 _ _ _) rfl ⟨rfl, v5, HF.out⟩
end Go.Proofs.YtmoiikpjegbokaaGreatDoor
