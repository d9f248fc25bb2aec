/- TableWhole: the walk. -/
import Derived.Test.YthefmfjlinpepaaX1
namespace Go.Proofs.Ythefmfjlinpepaa
open Go.RowKit Go.Shelf
set_option linter.unusedSimpArgs false
set_option linter.unusedVariables false
attribute [local go_sem] Oper.semAt_some

/-- Is nil zero? -/
def plB (v1 v2 : Int) : Bool := v1 != 0 || v2 == 0
set_option maxHeartbeats 1000000 in
theorem plain_any (v1 v2 : Int) (w : World) : Calls Try.prog 18 #[AV v1 v2] w fun e w' => e = .returned (.bool (plB v1 v2)) ∧ Below w.heap.size w w' := by
  unfold plB
  cases h : (v1 != 0)
  · have h' : (v1 == 0) = true := by simpa using h
    rw [Bool.false_or]
    go_enter Try.func18, Try.ntmps18
    go_wp2
    go_ret
    exact ⟨rfl, (Below.refl _ _).alloc (Nat.le_refl _) _⟩
  · have h' : (v1 == 0) = false := by simpa using h
    rw [Bool.true_or]
    go_enter Try.func18, Try.ntmps18
    go_wp2
    go_ret
    exact ⟨rfl, (Below.refl _ _).alloc (Nat.le_refl _) _⟩

/-- The table, the value's box, the float's box. -/
structure WB (w W0 : World) (P : Nat) (a n : Nat) (sl : Sl) (b : Nat) (v1 v2 : Int) (Bf : Nat) (fb : Int) (W : World) : Prop where
  re : Re W0 W P 400 a n sl b
  bv : W.heap[w.heap.size]? = some (.cells #[.int .i64 v1, .int .i64 v2] 33 (0, 0))
  bf : W.heap[Bf]? = some (.cells #[.int .i64 3, .int .i64 fb] 33 (0, 0))
theorem WB.no {w W0 : World} {P : Nat} {a n : Nat} {sl : Sl} {b : Nat} {v1 v2 : Int} {Bf : Nat} {fb : Int} {W W' : World} (h : WB w W0 P a n sl b v1 v2 Bf fb W) (hk : Kept No W W') : WB w W0 P a n sl b v1 v2 Bf fb W' := ⟨h.re.no hk, hk.heap h.bv id, hk.heap h.bf id⟩
theorem WB.cells {w W0 : World} {P : Nat} {a n : Nat} {sl : Sl} {b : Nat} {v1 v2 : Int} {Bf : Nat} {fb : Int} {W : World} (h : WB w W0 P a n sl b v1 v2 Bf fb W) : W.cell? ⟨w.heap.size, 0, none⟩ = some (.int .i64 v1) ∧ W.cell? ⟨w.heap.size, 1, none⟩ = some (.int .i64 v2) ∧ W.cell? ⟨Bf, 0, none⟩ = some (.int .i64 3) ∧ W.cell? ⟨Bf, 1, none⟩ = some (.int .i64 fb) := by
  refine ⟨?_, ?_, ?_, ?_⟩
  · rw [cell_of h.bv]; rfl
  · rw [cell_of h.bv]; rfl
  · rw [cell_of h.bf]; rfl
  · rw [cell_of h.bf]; rfl

set_option maxRecDepth 100000 in
set_option maxHeartbeats 8000000 in
theorem TableWhole_any (v : Value) (L : List Ac) (x : Int) (v1 v2 : Int) (w : World) (hL : Acts w v L) (hx : I64 x) (_ : I64 v1) (hv2 : I64 v2) :
    Calls Try.prog 10 #[v, .int .i64 x, AV v1 v2] w fun e w' => e = .returned (.bool true) ∧ Kept No w w' := by
  obtain ⟨W0, HW0⟩ : ∃ W0, Hid (W0 = w.alloc (.cells #[.int .i64 v1, .int .i64 v2] 33)) := ⟨_, show _ = _ from rfl⟩
  have HK0 : Hid (Kept No w W0) := by show Kept _ _ _; rw [HW0.out]; exact (Kept.refl _ _).alloc _
  have HB0 : Hid (W0.heap[w.heap.size]? = some (.cells #[.int .i64 v1, .int .i64 v2] 33 (0, 0))) := by show _ = _; rw [HW0.out]; exact heap_new1 w _
  have HM : Hid (Calls Try.prog 16 #[v] W0 fun e w' => e = .returned (MP W0.heap.size) ∧ ReS W0 w' W0.heap.size 400 (playR 400 (L.take 80)) 40000) := made_any v L W0 (hL.kept HK0.out)
  have hlen := playR_len 400 L 80
  obtain ⟨ao, cap, rfl, -, -⟩ := hL
  generalize playR 400 (L.take 80) = s at HM hlen
  obtain ⟨a, n, sl⟩ := s
  have HM' : Hid (Calls Try.prog 16 #[.slice ao L.length cap] W0 fun e w' => e = .returned (MP W0.heap.size) ∧ Re W0 w' W0.heap.size 400 a n sl 40000) := HM.out
  have HLn : Hid ((ents a n sl 0).length ≤ 200) := by show _ ≤ _; simp only at hlen; omega
  have HX : Hid (I64 x) := hx
  have HV2 : Hid (I64 v2) := hv2
  clear HM hlen hx hv2
  go_enter Try.func10, Try.ntmps10
  go_wp2_with fail
  rw [← HW0.out]
  refine HM'.out.mono ?_
  rintro e w1 ⟨rfl, h1⟩
  have R1 : Hid (Re W0 w1 W0.heap.size 400 a n sl 40000 ∧ w1.heap[w.heap.size]? = some (.cells #[.int .i64 v1, .int .i64 v2] 33 (0, 0))) := ⟨h1, h1.kp.heap HB0.out id⟩
  clear h1 HM' HW0 HB0
  go_wp2_with fail
  refine (Float_any _ _).mono ?_
  rintro e w2 ⟨rfl, hb2⟩
  have HFb : Hid (I64 (flt (floatOfInt FloatKind.f64 x))) := flt_i64 _
  generalize flt (floatOfInt FloatKind.f64 x) = fb at HFb ⊢
  generalize floatOfInt FloatKind.f64 x = fx
  have hk2 := Kept.of_below hb2
  have R2 : Hid (WB w W0 W0.heap.size a n sl 40000 v1 v2 w2.heap.size fb (w2.alloc (.cells #[.int .i64 3, .int .i64 fb] 33))) := ⟨(R1.out.1.no hk2).no ((Kept.refl _ _).alloc _), heap_old (hk2.heap R1.out.2 id) _, heap_new1 _ _⟩
  clear hb2 hk2 R1
  go_wp2_with fail
  generalize w2.alloc _ = w3 at R2 ⊢
  generalize w2.heap.size = Bf at R2 ⊢
  have HWh := Whole_any 3 fb w3 HFb.out.1 HFb.out.2
  have HKy : Hid (whE 3 fb = 0 → whN 3 fb = x → kyP (3, fb) = (2, x)) := by
    intro h1 h2
    unfold kyP kyT kyN
    simp only [h1, if_true, h2]
  generalize whN 3 fb = kk at HWh HKy
  generalize whE 3 fb = ee at HWh HKy
  have HWh' : Hid _ := HWh
  clear HWh
  refine Calls.mono HWh'.out ?_
  rintro e w4 ⟨rfl, hb4⟩
  have R4 : Hid (WB w W0 W0.heap.size a n sl 40000 v1 v2 Bf fb w4) := R2.out.no (Kept.of_below hb4)
  clear hb4 R2 HWh'
  obtain ⟨c0, c1, c2, c3⟩ := R4.out.cells
  go_wp2_with fail
  refine (no_any ee _).mono ?_
  rintro e w' ⟨rfl, rfl⟩
  by_cases hE : ee = 0
  case neg =>
    have hE1 : (ee == 0) = false := by simpa using hE
    have hE2 : (ee != 0) = true := by simpa using hE
    clear hE
    go_wp2_with fail
    refine (alive_any _).mono ?_
    rintro e wE ⟨rfl, hkE⟩
    have HE : Hid (Kept No w wE) := HK0.out.trans (R4.out.re.kp.trans hkE)
    clear hkE
    go_wp2
    go_ret
    exact ⟨rfl, HE.out⟩
  subst hE
  by_cases hK : kk = x
  case neg =>
    have hE1 : (kk == x) = false := by simpa using hK
    have hE2 : (kk != x) = true := by simpa using hK
    clear hK
    go_wp2_with fail
    refine (alive_any _).mono ?_
    rintro e wE ⟨rfl, hkE⟩
    have HE : Hid (Kept No w wE) := HK0.out.trans (R4.out.re.kp.trans hkE)
    clear hkE
    go_wp2
    go_ret
    exact ⟨rfl, HE.out⟩
  subst hK
  have hKy := HKy.out rfl rfl
  have HKy' : Hid (kyP (3, fb) = (2, kk)) := hKy
  clear HKy hKy
  have hkk : (kk != kk) = false := by simp
  by_cases hD : v1 = 11
  case pos =>
    have hE1 : (v1 == 11) = true := by simpa using hD
    go_wp2_with fail
    refine (alive_any _).mono ?_
    rintro e wE ⟨rfl, hkE⟩
    have HE : Hid (Kept No w wE) := HK0.out.trans (R4.out.re.kp.trans hkE)
    clear hkE
    go_wp2
    go_ret
    exact ⟨rfl, HE.out⟩
  have hD1 : (v1 == 11) = false := by simpa using hD
  clear hD
  go_wp2_with fail
  refine (plain_any v1 v2 _).mono ?_
  rintro e w5 ⟨rfl, hb5⟩
  have R5 : Hid (WB w W0 W0.heap.size a n sl 40000 v1 v2 Bf fb w5) := R4.out.no (Kept.of_below hb5)
  clear hb5 R4 c0 c1 c2 c3
  obtain ⟨c0, c1, c2, c3⟩ := R5.out.cells
  cases hpl : plB v1 v2
  case false =>
    go_wp2_with fail
    refine (alive_any _).mono ?_
    rintro e wE ⟨rfl, hkE⟩
    have HE : Hid (Kept No w wE) := HK0.out.trans (R5.out.re.kp.trans hkE)
    clear hkE
    go_wp2
    go_ret
    exact ⟨rfl, HE.out⟩
  have HPl : Hid (v1 = 0 → (v1, v2) = (0, 0)) := by
    intro h0
    unfold plB at hpl
    rw [h0] at hpl ⊢
    simp at hpl
    rw [hpl]
  clear hpl
  obtain ⟨r, hr⟩ : ∃ r, setR 400 a n sl (3, fb) (v1, v2) = r := ⟨_, rfl⟩
  obtain ⟨er, a', n', sl'⟩ := r
  have HSG : Hid (er = 0 → keyB 3 fb = true ∧ gv a' n' sl' (2, kk) = (v1, v2)) := by
    intro h0
    have h1 := set_get (most := 400) (a := a) (n := n) (sl := sl) (k := (3, fb)) (v := (v1, v2)) (by rw [hr]; exact h0) HPl.out
    rw [hr, HKy'.out] at h1
    exact h1
  have HS := R5.out.re.set' i64_400 (by omega) HLn.out (3, fb) (v1, v2) HFb.out HV2.out hr
  have HS' : Hid _ := HS
  clear hr HS
  go_wp2_with fail
  refine Calls.mono HS'.out ?_
  rintro e w6 ⟨rfl, h6, hfr⟩
  have R6 : Hid (WB w W0 W0.heap.size a' n' sl' 40500 v1 v2 Bf fb w6) := ⟨h6, hfr _ _ _ R5.out.bv (by decide), hfr _ _ _ R5.out.bf (by decide)⟩
  clear h6 hfr R5 HS' c0 c1 c2 c3
  obtain ⟨c0, c1, c2, c3⟩ := R6.out.cells
  go_wp2_with fail
  refine (no_any er _).mono ?_
  rintro e w' ⟨rfl, rfl⟩
  by_cases hE : er = 0
  case neg =>
    have hE1 : (er == 0) = false := by simpa using hE
    have hE2 : (er != 0) = true := by simpa using hE
    clear hE
    go_wp2_with fail
    refine (alive_any _).mono ?_
    rintro e wE ⟨rfl, hkE⟩
    have HE : Hid (Kept No w wE) := HK0.out.trans (R6.out.re.kp.trans hkE)
    clear hkE
    go_wp2
    go_ret
    exact ⟨rfl, HE.out⟩
  subst hE
  obtain ⟨hkb, hgv⟩ := HSG.out rfl
  have HG1 : Hid (getR a' n' sl' 2 kk = (v1, v2)) := by
    show _ = _
    rw [getR_gv, keyB2, if_pos rfl]
    unfold kyP
    simp only [kyT2, kyN2]
    exact hgv
  have HG2 : Hid (getR a' n' sl' 3 fb = (v1, v2)) := by
    show _ = _
    rw [getR_gv, hkb, if_pos rfl, HKy'.out]
    exact hgv
  have HNx : Hid (nextR a' n' sl' 3 fb = nextR a' n' sl' 2 kk) := by
    show _ = _
    unfold nextR
    rw [behR_ky hkb (keyB2 kk) (by rw [HKy'.out]; unfold kyP; simp only [kyT2, kyN2]) (by decide) (by decide)]
  clear hkb hgv HSG HKy'
  go_wp2_with fail
  refine (Int_any _ _).mono ?_
  rintro e w7 ⟨rfl, hb7⟩
  have R7 : Hid (WB w W0 W0.heap.size a' n' sl' 40500 v1 v2 Bf fb w7) := R6.out.no (Kept.of_below hb7)
  clear hb7 R6 c0 c1 c2 c3
  obtain ⟨r, hr⟩ : ∃ r, nextR a' n' sl' 2 kk = r := ⟨_, rfl⟩
  have HR2 : Hid (nextR a' n' sl' 3 fb = r) := by show _ = _; rw [HNx.out, hr]
  have HR1 : Hid (nextR a' n' sl' 2 kk = r) := hr
  clear hr HNx
  obtain ⟨⟨⟨p1, p2⟩, q1, q2⟩, re⟩ := r
  go_wp2_with fail
  refine (R7.out.re.nexts 2 kk HX.out _ HR1.out).mono ?_
  rintro e w8 ⟨rfl, hk8⟩
  have R8 : Hid (WB w W0 W0.heap.size a' n' sl' 40500 v1 v2 Bf fb ((w8.alloc (.cells #[.int .i64 p1, .int .i64 p2] 33)).alloc (.cells #[.int .i64 q1, .int .i64 q2] 33))) := (R7.out.no hk8).no (((Kept.refl _ _).alloc _).alloc _)
  have X8 : Hid (((w8.alloc (.cells #[.int .i64 p1, .int .i64 p2] 33)).alloc (.cells #[.int .i64 q1, .int .i64 q2] 33)).heap[w8.heap.size]? = some (.cells #[.int .i64 p1, .int .i64 p2] 33 (0, 0)) ∧ ((w8.alloc (.cells #[.int .i64 p1, .int .i64 p2] 33)).alloc (.cells #[.int .i64 q1, .int .i64 q2] 33)).heap[w8.heap.size + 1]? = some (.cells #[.int .i64 q1, .int .i64 q2] 33 (0, 0))) := by
    refine ⟨heap_old (heap_new1 _ _) _, ?_⟩
    have := heap_new1 (w8.alloc (.cells #[.int .i64 p1, .int .i64 p2] 33)) (.cells #[.int .i64 q1, .int .i64 q2] 33); rw [World.size_alloc] at this; exact this
  clear hk8 R7
  obtain ⟨c0, c1, c2, c3⟩ := R8.out.cells
  go_wp2_with fail
  generalize (w8.alloc _).alloc _ = w9 at R8 X8 c0 c1 c2 c3 ⊢
  generalize w8.heap.size = Bx at X8 ⊢
  refine (R8.out.re.nexts 3 fb HFb.out _ HR2.out).mono ?_
  rintro e w10 ⟨rfl, hk10⟩
  have R10 : Hid (WB w W0 W0.heap.size a' n' sl' 40500 v1 v2 Bf fb ((w10.alloc (.cells #[.int .i64 p1, .int .i64 p2] 33)).alloc (.cells #[.int .i64 q1, .int .i64 q2] 33))) := (R8.out.no hk10).no (((Kept.refl _ _).alloc _).alloc _)
  have X10 : Hid (((w10.alloc (.cells #[.int .i64 p1, .int .i64 p2] 33)).alloc (.cells #[.int .i64 q1, .int .i64 q2] 33)).heap[w10.heap.size]? = some (.cells #[.int .i64 p1, .int .i64 p2] 33 (0, 0)) ∧ ((w10.alloc (.cells #[.int .i64 p1, .int .i64 p2] 33)).alloc (.cells #[.int .i64 q1, .int .i64 q2] 33)).heap[w10.heap.size + 1]? = some (.cells #[.int .i64 q1, .int .i64 q2] 33 (0, 0)) ∧ ((w10.alloc (.cells #[.int .i64 p1, .int .i64 p2] 33)).alloc (.cells #[.int .i64 q1, .int .i64 q2] 33)).heap[Bx]? = some (.cells #[.int .i64 p1, .int .i64 p2] 33 (0, 0)) ∧ ((w10.alloc (.cells #[.int .i64 p1, .int .i64 p2] 33)).alloc (.cells #[.int .i64 q1, .int .i64 q2] 33)).heap[Bx + 1]? = some (.cells #[.int .i64 q1, .int .i64 q2] 33 (0, 0))) := by
    refine ⟨heap_old (heap_new1 _ _) _, ?_, heap_old (heap_old (hk10.heap X8.out.1 id) _) _, heap_old (heap_old (hk10.heap X8.out.2 id) _) _⟩
    have := heap_new1 (w10.alloc (.cells #[.int .i64 p1, .int .i64 p2] 33)) (.cells #[.int .i64 q1, .int .i64 q2] 33); rw [World.size_alloc] at this; exact this
  clear hk10 R8 X8 c0 c1 c2 c3
  go_wp2
  generalize (w10.alloc _).alloc _ = w11 at R10 X10 ⊢
  generalize w10.heap.size = By at X10 ⊢
  have hRL : Hid (∀ W, Below w11.heap.size w11 W → WB w W0 W0.heap.size a' n' sl' 40500 v1 v2 Bf fb W) := fun W hW => R10.out.no (Kept.of_below hW)
  have HC : Hid (∀ W, Below w11.heap.size w11 W → (W.cell? ⟨Bx, 0, none⟩ = some (.int .i64 p1) ∧ W.cell? ⟨Bx, 1, none⟩ = some (.int .i64 p2) ∧ W.cell? ⟨Bx + 1, 0, none⟩ = some (.int .i64 q1) ∧ W.cell? ⟨Bx + 1, 1, none⟩ = some (.int .i64 q2)) ∧ (W.cell? ⟨By, 0, none⟩ = some (.int .i64 p1) ∧ W.cell? ⟨By, 1, none⟩ = some (.int .i64 p2) ∧ W.cell? ⟨By + 1, 0, none⟩ = some (.int .i64 q1) ∧ W.cell? ⟨By + 1, 1, none⟩ = some (.int .i64 q2))) := fun W hW => by
    have hkw := Kept.of_below hW
    have p0 := hkw.heap X10.out.1 id
    have p1 := hkw.heap X10.out.2.1 id
    have p2 := hkw.heap X10.out.2.2.1 id
    have p3 := hkw.heap X10.out.2.2.2 id
    refine ⟨⟨?_, ?_, ?_, ?_⟩, ?_, ?_, ?_, ?_⟩
    · rw [cell_of p2]; rfl
    · rw [cell_of p2]; rfl
    · rw [cell_of p3]; rfl
    · rw [cell_of p3]; rfl
    · rw [cell_of p0]; rfl
    · rw [cell_of p0]; rfl
    · rw [cell_of p1]; rfl
    · rw [cell_of p1]; rfl
  have HKp : Hid (Kept No w w11) := HK0.out.trans R10.out.re.kp
  clear R10 X10
  refine region_quiet_class (C := fun w' => Below w11.heap.size w11 w') (by kernel_rfl) (by kernel_rfl) (Below.refl _ _).drew ?_
  refine q_op (MP W0.heap.size) (by kernel_rfl) (fun W hW => by simp [go_sem]) ?_
  try simp only [Act.put, List.setIfInBounds_toArray, List.set_cons_zero, List.set_cons_succ]
  refine q_op (MI W0.heap.size) (by kernel_rfl) (fun W hW => by simp [go_sem]) ?_
  try simp only [Act.put, List.setIfInBounds_toArray, List.set_cons_zero, List.set_cons_succ]
  refine q_op (.int .i64 kk) (by kernel_rfl) (fun W hW => by simp [go_sem]) ?_
  try simp only [Act.put, List.setIfInBounds_toArray, List.set_cons_zero, List.set_cons_succ]
  refine q_call 24 #[.int .i64 kk] (AV 2 kk) (by kernel_rfl) (fun W hW => by simp [go_sem]) (fun W hW => (Int_any kk W).mono (fun e w3 ⟨he, hb⟩ => ⟨he, Below.trans hW (hb.mono (Below.size hW))⟩)) ?_
  try simp only [Act.put, List.setIfInBounds_toArray, List.set_cons_zero, List.set_cons_succ]
  refine q_call 19 #[MI W0.heap.size, AV 2 kk] (AV v1 v2) (by kernel_rfl) (fun W hW => by simp [go_sem]) (fun W hW => ((hRL.out W hW).re.get 2 kk HX.out (v1, v2) HG1.out).mono (fun e w3 ⟨he, hb⟩ => ⟨he, Below.trans hW ((hb.below (Nat.le_refl _) (fun _ x => x.elim)).mono (Below.size hW))⟩)) ?_
  try simp only [Act.put, List.setIfInBounds_toArray, List.set_cons_zero, List.set_cons_succ]
  refine q_op (AV v1 v2) (by kernel_rfl) (fun W hW => by obtain ⟨r0, r1, r2, r3⟩ := (hRL.out W hW).cells; simp [go_sem, r0, r1]) ?_
  try simp only [Act.put, List.setIfInBounds_toArray, List.set_cons_zero, List.set_cons_succ]
  refine q_op (.bool true) (by kernel_rfl) (fun W hW => by simp [go_sem, eq33]) ?_
  try simp only [Act.put, List.setIfInBounds_toArray, List.set_cons_zero, List.set_cons_succ]
  refine q_op (.bool true) (by kernel_rfl) (fun W hW => by simp [go_sem]) ?_
  try simp only [Act.put, List.setIfInBounds_toArray, List.set_cons_zero, List.set_cons_succ]
  refine q_op (MP W0.heap.size) (by kernel_rfl) (fun W hW => by simp [go_sem]) ?_
  try simp only [Act.put, List.setIfInBounds_toArray, List.set_cons_zero, List.set_cons_succ]
  refine q_op (MI W0.heap.size) (by kernel_rfl) (fun W hW => by simp [go_sem]) ?_
  try simp only [Act.put, List.setIfInBounds_toArray, List.set_cons_zero, List.set_cons_succ]
  refine q_op (AV 3 fb) (by kernel_rfl) (fun W hW => by obtain ⟨r0, r1, r2, r3⟩ := (hRL.out W hW).cells; simp [go_sem, r2, r3]) ?_
  try simp only [Act.put, List.setIfInBounds_toArray, List.set_cons_zero, List.set_cons_succ]
  refine q_call 19 #[MI W0.heap.size, AV 3 fb] (AV v1 v2) (by kernel_rfl) (fun W hW => by simp [go_sem]) (fun W hW => ((hRL.out W hW).re.get 3 fb HFb.out (v1, v2) HG2.out).mono (fun e w3 ⟨he, hb⟩ => ⟨he, Below.trans hW ((hb.below (Nat.le_refl _) (fun _ x => x.elim)).mono (Below.size hW))⟩)) ?_
  try simp only [Act.put, List.setIfInBounds_toArray, List.set_cons_zero, List.set_cons_succ]
  refine q_op (AV v1 v2) (by kernel_rfl) (fun W hW => by obtain ⟨r0, r1, r2, r3⟩ := (hRL.out W hW).cells; simp [go_sem, r0, r1]) ?_
  try simp only [Act.put, List.setIfInBounds_toArray, List.set_cons_zero, List.set_cons_succ]
  refine q_op (.bool true) (by kernel_rfl) (fun W hW => by simp [go_sem, eq33]) ?_
  try simp only [Act.put, List.setIfInBounds_toArray, List.set_cons_zero, List.set_cons_succ]
  refine q_op (.bool true) (by kernel_rfl) (fun W hW => by simp [go_sem]) ?_
  try simp only [Act.put, List.setIfInBounds_toArray, List.set_cons_zero, List.set_cons_succ]
  refine q_op (.bool true) (by kernel_rfl) (fun W hW => by simp [go_sem]) ?_
  try simp only [Act.put, List.setIfInBounds_toArray, List.set_cons_zero, List.set_cons_succ]
  refine q_op (AV p1 p2) (by kernel_rfl) (fun W hW => by obtain ⟨⟨r0, r1, r2, r3⟩, s0, s1, s2, s3⟩ := HC.out W hW; simp [go_sem, r0, r1]) ?_
  try simp only [Act.put, List.setIfInBounds_toArray, List.set_cons_zero, List.set_cons_succ]
  refine q_op (AV p1 p2) (by kernel_rfl) (fun W hW => by obtain ⟨⟨r0, r1, r2, r3⟩, s0, s1, s2, s3⟩ := HC.out W hW; simp [go_sem, s0, s1]) ?_
  try simp only [Act.put, List.setIfInBounds_toArray, List.set_cons_zero, List.set_cons_succ]
  refine q_op (.bool true) (by kernel_rfl) (fun W hW => by simp [go_sem, eq33]) ?_
  try simp only [Act.put, List.setIfInBounds_toArray, List.set_cons_zero, List.set_cons_succ]
  refine q_op (.bool true) (by kernel_rfl) (fun W hW => by simp [go_sem]) ?_
  try simp only [Act.put, List.setIfInBounds_toArray, List.set_cons_zero, List.set_cons_succ]
  refine q_op (.bool true) (by kernel_rfl) (fun W hW => by simp [go_sem]) ?_
  try simp only [Act.put, List.setIfInBounds_toArray, List.set_cons_zero, List.set_cons_succ]
  refine q_op (AV q1 q2) (by kernel_rfl) (fun W hW => by obtain ⟨⟨r0, r1, r2, r3⟩, s0, s1, s2, s3⟩ := HC.out W hW; simp [go_sem, r2, r3]) ?_
  try simp only [Act.put, List.setIfInBounds_toArray, List.set_cons_zero, List.set_cons_succ]
  refine q_op (AV q1 q2) (by kernel_rfl) (fun W hW => by obtain ⟨⟨r0, r1, r2, r3⟩, s0, s1, s2, s3⟩ := HC.out W hW; simp [go_sem, s2, s3]) ?_
  try simp only [Act.put, List.setIfInBounds_toArray, List.set_cons_zero, List.set_cons_succ]
  refine q_op (.bool true) (by kernel_rfl) (fun W hW => by simp [go_sem, eq33]) ?_
  try simp only [Act.put, List.setIfInBounds_toArray, List.set_cons_zero, List.set_cons_succ]
  refine q_op (.bool true) (by kernel_rfl) (fun W hW => by simp [go_sem]) ?_
  try simp only [Act.put, List.setIfInBounds_toArray, List.set_cons_zero, List.set_cons_succ]
  refine q_op (.bool true) (by kernel_rfl) (fun W hW => by simp [go_sem]) ?_
  try simp only [Act.put, List.setIfInBounds_toArray, List.set_cons_zero, List.set_cons_succ]
  refine q_op (.int .i64 re) (by kernel_rfl) (fun W hW => by simp [go_sem]) ?_
  try simp only [Act.put, List.setIfInBounds_toArray, List.set_cons_zero, List.set_cons_succ]
  refine q_op (.int .i64 re) (by kernel_rfl) (fun W hW => by simp [go_sem]) ?_
  try simp only [Act.put, List.setIfInBounds_toArray, List.set_cons_zero, List.set_cons_succ]
  refine q_op (.bool true) (by kernel_rfl) (fun W hW => by simp [go_sem]) ?_
  try simp only [Act.put, List.setIfInBounds_toArray, List.set_cons_zero, List.set_cons_succ]
  refine q_op (.bool true) (by kernel_rfl) (fun W hW => by simp [go_sem]) ?_
  try simp only [Act.put, List.setIfInBounds_toArray, List.set_cons_zero, List.set_cons_succ]
  refine q_op (.bool true) (by kernel_rfl) (fun W hW => by simp [go_sem]) ?_
  try simp only [Act.put, List.setIfInBounds_toArray, List.set_cons_zero, List.set_cons_succ]
  refine q_call 13 #[] (.bool true) (by kernel_rfl) (fun W hW => by simp [go_sem]) (fun W hW => (alive_any W).mono (fun e w3 ⟨he, hb⟩ => ⟨he, Below.trans hW ((hb.below (Nat.le_refl _) (fun _ x => x.elim)).mono (Below.size hW))⟩)) ?_
  try simp only [Act.put, List.setIfInBounds_toArray, List.set_cons_zero, List.set_cons_succ]
  refine q_op (.bool true) (by kernel_rfl) (fun W hW => by simp [go_sem]) ?_
  try simp only [Act.put, List.setIfInBounds_toArray, List.set_cons_zero, List.set_cons_succ]
  refine q_op (.bool true) (by kernel_rfl) (fun W hW => by simp [go_sem]) ?_
  try simp only [Act.put, List.setIfInBounds_toArray, List.set_cons_zero, List.set_cons_succ]
  refine wpQuiet_nil ?_
  intro W3 H3
  have HE : Hid (Kept No w W3) := HKp.out.trans (Kept.of_below H3)
  clear H3
  go_wp2
  go_ret
  exact ⟨rfl, HE.out⟩
end Go.Proofs.Ythefmfjlinpepaa
