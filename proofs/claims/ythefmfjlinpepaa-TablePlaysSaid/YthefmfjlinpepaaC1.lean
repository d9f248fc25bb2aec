/- The chapter's example. -/
import Derived.Test.YthefmfjlinpepaaV1
import Derived.Test.YthefmfjlinpepaaV2
import Derived.Test.YthefmfjlinpepaaN2
import Derived.Test.YthefmfjlinpepaaRE
namespace Go.Proofs.Ythefmfjlinpepaa
open Go.RowKit Go.Shelf
set_option linter.unusedSimpArgs false
set_option linter.unusedVariables false
attribute [local go_sem] Oper.semAt_some

abbrev zS : Sl := fun _ => (0, 0)
def s1 : Sl := sput zS 0 (4, 1)
def s2 : Sl := sput s1 1 (4, 2)
def s3 : Sl := sput (sput s2 2 (4, 9)) 3 (4, 3)
def s4 : Sl := sput s3 1 (0, 0)
def s5 : Sl := sput s4 0 (4, 4)
theorem st1 : setR 100 0 0 zS (2, 1) (4, 1) = (0, 1, 0, s1) := by kernel_rfl
theorem st2 : setR 100 1 0 s1 (2, 2) (4, 2) = (0, 2, 0, s2) := by kernel_rfl
theorem st3 : setR 100 2 0 s2 (4, 9) (4, 3) = (0, 2, 1, s3) := by kernel_rfl
theorem st4 : setR 100 2 1 s3 (2, 2) (0, 0) = (0, 2, 1, s4) := by kernel_rfl
theorem st5 : setR 100 2 1 s4 (3, 4607182418800017408) (4, 4) = (0, 2, 1, s5) := by kernel_rfl
theorem len0 : (ents 0 0 zS 0).length ≤ 200 := by decide +kernel
theorem len1 : (ents 1 0 s1 0).length ≤ 200 := by decide +kernel
theorem len2 : (ents 2 0 s2 0).length ≤ 200 := by decide +kernel
theorem len3 : (ents 2 1 s3 0).length ≤ 200 := by decide +kernel
theorem len4 : (ents 2 1 s4 0).length ≤ 200 := by decide +kernel
theorem ln0 : (getR 2 1 s3 2 (((2 : Nat) : Int) + 1)).1 = 0 := by decide +kernel
theorem ln1 : ∀ j : Nat, j < 2 → (getR 2 1 s3 2 ((j : Int) + 1)).1 ≠ 0 := by decide +kernel
theorem lm0 : (getR 2 1 s5 2 (((1 : Nat) : Int) + 1)).1 = 0 := by decide +kernel
theorem lm1 : ∀ j : Nat, j < 1 → (getR 2 1 s5 2 ((j : Int) + 1)).1 ≠ 0 := by decide +kernel
theorem nx0 : (behR 2 1 s4 2 2).2 = true := by decide +kernel
theorem nx1 : fstE (ents 2 1 s4 (behR 2 1 s4 2 2).1.toNat) = ((4, 9), (4, 3)) := by decide +kernel
theorem gt1 : getR 2 1 s5 2 1 = (4, 4) := by decide +kernel
theorem flt1 : flt 4607182418800017408 = 4607182418800017408 := by decide +kernel
theorem wrap0 : IntKind.i64.wrap 0 = 0 := by decide
theorem i64_100 : I64 100 := by constructor <;> decide

set_option maxRecDepth 100000 in
set_option maxHeartbeats 8000000 in
theorem alive_any (w : World) : Calls Try.prog 13 #[] w fun e w' => e = .returned (.bool true) ∧ Kept No w w' := by
  go_enter Try.func13, Try.ntmps13
  go_wp2_with fail
  refine (NewMem_re 100 _).mono ?_
  rintro e w1 ⟨rfl, h1⟩
  have H1 : Hid (Re w w1 w.heap.size 100 0 0 zS 0) := h1
  clear h1
  go_wp2_with fail
  refine (Int_any 1 _).mono ?_
  rintro e w2 ⟨rfl, hb⟩
  have H2 : Hid (Re w w2 w.heap.size 100 0 0 zS 0) := H1.out.no (Kept.of_below hb)
  clear hb H1
  go_wp2_with fail
  refine (word_any 1 _).mono ?_
  rintro e w3 ⟨rfl, hb⟩
  have H3 : Hid (Re w w3 w.heap.size 100 0 0 zS 0) := H2.out.no (Kept.of_below hb)
  clear hb H2
  go_wp2_with fail
  refine (H3.out.set i64_100 (by omega) (by exact len0) (2, 1) (4, 1) (by constructor <;> decide) (by constructor <;> decide) st1).mono ?_
  rintro e w4 ⟨rfl, h⟩
  have H4 : Hid (Re w w4 w.heap.size 100 1 0 s1 500) := h
  clear h H3
  go_wp2_with fail
  refine (Int_any 2 _).mono ?_
  rintro e w5 ⟨rfl, hb⟩
  have H5 : Hid (Re w w5 w.heap.size 100 1 0 s1 500) := H4.out.no (Kept.of_below hb)
  clear hb H4
  go_wp2_with fail
  refine (word_any 2 _).mono ?_
  rintro e w6 ⟨rfl, hb⟩
  have H6 : Hid (Re w w6 w.heap.size 100 1 0 s1 500) := H5.out.no (Kept.of_below hb)
  clear hb H5
  go_wp2_with fail
  refine (H6.out.set i64_100 (by omega) (by exact len1) (2, 2) (4, 2) (by constructor <;> decide) (by constructor <;> decide) st2).mono ?_
  rintro e w7 ⟨rfl, h⟩
  have H7 : Hid (Re w w7 w.heap.size 100 2 0 s2 1000) := h
  clear h H6
  go_wp2_with fail
  refine (word_any 9 _).mono ?_
  rintro e w8 ⟨rfl, hb⟩
  have H8 : Hid (Re w w8 w.heap.size 100 2 0 s2 1000) := H7.out.no (Kept.of_below hb)
  clear hb H7
  go_wp2_with fail
  refine (word_any 3 _).mono ?_
  rintro e w9 ⟨rfl, hb⟩
  have H9 : Hid (Re w w9 w.heap.size 100 2 0 s2 1000) := H8.out.no (Kept.of_below hb)
  clear hb H8
  go_wp2_with fail
  refine (H9.out.set i64_100 (by omega) (by exact len2) (4, 9) (4, 3) (by constructor <;> decide) (by constructor <;> decide) st3).mono ?_
  rintro e w10 ⟨rfl, h⟩
  have H10 : Hid (Re w w10 w.heap.size 100 2 1 s3 1500) := h
  clear h H9
  have HA := H10.out.array
  have HN := H10.out.nodes
  have HA' : Hid _ := HA
  have HN' : Hid _ := HN
  clear HA HN
  go_wp2_with (first | (go_at_call 25; refine Calls.mono HA'.out ?_; rintro e w' ⟨rfl, rfl⟩) | (go_at_call 26; refine Calls.mono HN'.out ?_; rintro e w' ⟨rfl, rfl⟩))
  clear HA' HN'
  refine (H10.out.len 2 (by omega) ln0 ln1).mono ?_
  rintro e w11 ⟨rfl, hk⟩
  have H11 : Hid (Re w w11 w.heap.size 100 2 1 s3 1500) := H10.out.no hk
  clear hk H10
  go_wp2_with fail
  refine (Int_any 2 _).mono ?_
  rintro e w12 ⟨rfl, hb⟩
  have H12 : Hid (Re w w12 w.heap.size 100 2 1 s3 1500) := H11.out.no (Kept.of_below hb)
  clear hb H11
  go_wp2_with fail
  refine (H12.out.set i64_100 (by omega) (by exact len3) (2, 2) (0, 0) (by constructor <;> decide) (by constructor <;> decide) st4).mono ?_
  rintro e w13 ⟨rfl, h⟩
  have H13 : Hid (Re w w13 w.heap.size 100 2 1 s4 2000) := h
  clear h H12
  go_wp2_with fail
  refine (Int_any 2 _).mono ?_
  rintro e w14 ⟨rfl, hb⟩
  have H14 : Hid (Re w w14 w.heap.size 100 2 1 s4 2000) := H13.out.no (Kept.of_below hb)
  clear hb H13
  go_wp2_with fail
  refine (H14.out.next 2 2 (by constructor <;> decide) ((4, 9), (4, 3)) nx0 nx1).mono ?_
  rintro e w15 ⟨rfl, hk⟩
  have H15 : Hid (Re w w15 w.heap.size 100 2 1 s4 2000) := H14.out.no hk
  clear hk H14
  go_wp2_with fail
  have HX : Hid ((((w15.alloc (.cells #[.int .i64 4, .int .i64 9] 33)).alloc (.cells #[.int .i64 4, .int .i64 3] 33)).heap[w15.heap.size]? = some (.cells #[.int .i64 4, .int .i64 9] 33 (0, 0))) ∧ (((w15.alloc (.cells #[.int .i64 4, .int .i64 9] 33)).alloc (.cells #[.int .i64 4, .int .i64 3] 33)).heap[w15.heap.size + 1]? = some (.cells #[.int .i64 4, .int .i64 3] 33 (0, 0)))) := by
    refine ⟨heap_old (heap_new1 _ _) _, ?_⟩
    have := heap_new1 (w15.alloc (.cells #[.int .i64 4, .int .i64 9] 33)) (.cells #[.int .i64 4, .int .i64 3] 33); rw [World.size_alloc] at this; exact this
  have H16 : Hid (Re w ((w15.alloc (.cells #[.int .i64 4, .int .i64 9] 33)).alloc (.cells #[.int .i64 4, .int .i64 3] 33)) w.heap.size 100 2 1 s4 2000) := H15.out.no (((Kept.refl _ _).alloc _).alloc _)
  clear H15
  generalize (w15.alloc _).alloc _ = w16 at HX H16 ⊢
  generalize w15.heap.size = Bk at HX ⊢
  refine (Float_any 4607182418800017408 _).mono ?_
  rintro e w17 ⟨rfl, hb⟩
  rw [flt1]
  have hkk := Kept.of_below hb
  have H17 : Hid (Re w w17 w.heap.size 100 2 1 s4 2000) := H16.out.no hkk
  have HX2 : Hid (w17.heap[Bk]? = some (.cells #[.int .i64 4, .int .i64 9] 33 (0, 0)) ∧ w17.heap[Bk + 1]? = some (.cells #[.int .i64 4, .int .i64 3] 33 (0, 0))) := ⟨hkk.heap HX.out.1 id, hkk.heap HX.out.2 id⟩
  clear hb hkk H16 HX
  go_wp2_with fail
  refine (word_any 4 _).mono ?_
  rintro e w18 ⟨rfl, hb⟩
  have hkk := Kept.of_below hb
  have H18 : Hid (Re w w18 w.heap.size 100 2 1 s4 2000) := H17.out.no hkk
  have HX : Hid (w18.heap[Bk]? = some (.cells #[.int .i64 4, .int .i64 9] 33 (0, 0)) ∧ w18.heap[Bk + 1]? = some (.cells #[.int .i64 4, .int .i64 3] 33 (0, 0))) := ⟨hkk.heap HX2.out.1 id, hkk.heap HX2.out.2 id⟩
  clear hb hkk H17 HX2
  go_wp2_with fail
  refine (H18.out.set' i64_100 (by omega) (by exact len4) (3, 4607182418800017408) (4, 4) (by constructor <;> decide) (by constructor <;> decide) st5).mono ?_
  rintro e w19 ⟨rfl, h, hfr⟩
  have H19 : Hid (Re w w19 w.heap.size 100 2 1 s5 2500) := h
  have HX2 : Hid (w19.heap[Bk]? = some (.cells #[.int .i64 4, .int .i64 9] 33 (0, 0)) ∧ w19.heap[Bk + 1]? = some (.cells #[.int .i64 4, .int .i64 3] 33 (0, 0))) := ⟨hfr _ _ _ HX.out.1 (by decide), hfr _ _ _ HX.out.2 (by decide)⟩
  clear h hfr H18 HX
  go_wp2
  have hRL : Hid (∀ W, Below w19.heap.size w19 W → Re w W w.heap.size 100 2 1 s5 2500) := fun W hW => H19.out.no (Kept.of_below hW)
  have HC : Hid (∀ W, Below w19.heap.size w19 W → W.cell? ⟨Bk, 0, none⟩ = some (.int .i64 4) ∧ W.cell? ⟨Bk, 1, none⟩ = some (.int .i64 9) ∧ W.cell? ⟨Bk + 1, 0, none⟩ = some (.int .i64 4) ∧ W.cell? ⟨Bk + 1, 1, none⟩ = some (.int .i64 3)) := fun W hW => by
    have p0 := (Kept.of_below hW).heap HX2.out.1 id
    have p1 := (Kept.of_below hW).heap HX2.out.2 id
    refine ⟨?_, ?_, ?_, ?_⟩
    · rw [cell_of p0]; rfl
    · rw [cell_of p0]; rfl
    · rw [cell_of p1]; rfl
    · rw [cell_of p1]; rfl
  have HKp : Hid (Kept No w w19) := H19.out.kp
  clear H19 HX2
  try simp only [List.append_eq, List.cons_append, List.nil_append]
  refine region_quiet_class (C := fun w' => Below w19.heap.size w19 w') (by kernel_rfl) (by kernel_rfl) (Below.refl _ _).drew ?_
  refine q_op (.bool true) (by kernel_rfl) (fun W hW => by simp [go_sem, wrap0]) ?_
  try simp only [Act.put, List.setIfInBounds_toArray, List.set_cons_zero, List.set_cons_succ]
  refine q_op (.bool true) (by kernel_rfl) (fun W hW => by simp [go_sem, wrap0]) ?_
  try simp only [Act.put, List.setIfInBounds_toArray, List.set_cons_zero, List.set_cons_succ]
  refine q_op (.int .i64 0) (by kernel_rfl) (fun W hW => by simp [go_sem, wrap0]) ?_
  try simp only [Act.put, List.setIfInBounds_toArray, List.set_cons_zero, List.set_cons_succ]
  refine q_call 21 #[.int .i64 0] (.int .i64 0) (by kernel_rfl) (fun W hW => by simp [go_sem]) (fun W hW => (no_any 0 W).mono (fun e w3 ⟨he, hb⟩ => ⟨he, by subst hb; exact hW⟩)) ?_
  try simp only [Act.put, List.setIfInBounds_toArray, List.set_cons_zero, List.set_cons_succ]
  refine q_op (.int .i64 0) (by kernel_rfl) (fun W hW => by simp [go_sem, wrap0]) ?_
  try simp only [Act.put, List.setIfInBounds_toArray, List.set_cons_zero, List.set_cons_succ]
  refine q_call 21 #[.int .i64 0] (.int .i64 0) (by kernel_rfl) (fun W hW => by simp [go_sem]) (fun W hW => (no_any 0 W).mono (fun e w3 ⟨he, hb⟩ => ⟨he, by subst hb; exact hW⟩)) ?_
  try simp only [Act.put, List.setIfInBounds_toArray, List.set_cons_zero, List.set_cons_succ]
  refine q_op (.int .i64 0) (by kernel_rfl) (fun W hW => by simp [go_sem, wrap0]) ?_
  try simp only [Act.put, List.setIfInBounds_toArray, List.set_cons_zero, List.set_cons_succ]
  refine q_op (.int .i64 0) (by kernel_rfl) (fun W hW => by simp [go_sem, wrap0]) ?_
  try simp only [Act.put, List.setIfInBounds_toArray, List.set_cons_zero, List.set_cons_succ]
  refine q_call 21 #[.int .i64 0] (.int .i64 0) (by kernel_rfl) (fun W hW => by simp [go_sem]) (fun W hW => (no_any 0 W).mono (fun e w3 ⟨he, hb⟩ => ⟨he, by subst hb; exact hW⟩)) ?_
  try simp only [Act.put, List.setIfInBounds_toArray, List.set_cons_zero, List.set_cons_succ]
  refine q_op (.int .i64 0) (by kernel_rfl) (fun W hW => by simp [go_sem, wrap0]) ?_
  try simp only [Act.put, List.setIfInBounds_toArray, List.set_cons_zero, List.set_cons_succ]
  refine q_op (.int .i64 0) (by kernel_rfl) (fun W hW => by simp [go_sem, wrap0]) ?_
  try simp only [Act.put, List.setIfInBounds_toArray, List.set_cons_zero, List.set_cons_succ]
  refine q_call 21 #[.int .i64 0] (.int .i64 0) (by kernel_rfl) (fun W hW => by simp [go_sem]) (fun W hW => (no_any 0 W).mono (fun e w3 ⟨he, hb⟩ => ⟨he, by subst hb; exact hW⟩)) ?_
  try simp only [Act.put, List.setIfInBounds_toArray, List.set_cons_zero, List.set_cons_succ]
  refine q_op (.int .i64 0) (by kernel_rfl) (fun W hW => by simp [go_sem, wrap0]) ?_
  try simp only [Act.put, List.setIfInBounds_toArray, List.set_cons_zero, List.set_cons_succ]
  refine q_op (.int .i64 0) (by kernel_rfl) (fun W hW => by simp [go_sem, wrap0]) ?_
  try simp only [Act.put, List.setIfInBounds_toArray, List.set_cons_zero, List.set_cons_succ]
  refine q_call 21 #[.int .i64 0] (.int .i64 0) (by kernel_rfl) (fun W hW => by simp [go_sem]) (fun W hW => (no_any 0 W).mono (fun e w3 ⟨he, hb⟩ => ⟨he, by subst hb; exact hW⟩)) ?_
  try simp only [Act.put, List.setIfInBounds_toArray, List.set_cons_zero, List.set_cons_succ]
  refine q_op (.int .i64 0) (by kernel_rfl) (fun W hW => by simp [go_sem, wrap0]) ?_
  try simp only [Act.put, List.setIfInBounds_toArray, List.set_cons_zero, List.set_cons_succ]
  refine q_op (.int .i64 0) (by kernel_rfl) (fun W hW => by simp [go_sem, wrap0]) ?_
  try simp only [Act.put, List.setIfInBounds_toArray, List.set_cons_zero, List.set_cons_succ]
  refine q_call 21 #[.int .i64 0] (.int .i64 0) (by kernel_rfl) (fun W hW => by simp [go_sem]) (fun W hW => (no_any 0 W).mono (fun e w3 ⟨he, hb⟩ => ⟨he, by subst hb; exact hW⟩)) ?_
  try simp only [Act.put, List.setIfInBounds_toArray, List.set_cons_zero, List.set_cons_succ]
  refine q_op (.int .i64 0) (by kernel_rfl) (fun W hW => by simp [go_sem, wrap0]) ?_
  try simp only [Act.put, List.setIfInBounds_toArray, List.set_cons_zero, List.set_cons_succ]
  refine q_op (.bool true) (by kernel_rfl) (fun W hW => by simp [go_sem, wrap0]) ?_
  try simp only [Act.put, List.setIfInBounds_toArray, List.set_cons_zero, List.set_cons_succ]
  refine q_op (.bool true) (by kernel_rfl) (fun W hW => by simp [go_sem, wrap0]) ?_
  try simp only [Act.put, List.setIfInBounds_toArray, List.set_cons_zero, List.set_cons_succ]
  refine q_op (.bool true) (by kernel_rfl) (fun W hW => by simp [go_sem, wrap0]) ?_
  try simp only [Act.put, List.setIfInBounds_toArray, List.set_cons_zero, List.set_cons_succ]
  refine q_op (MP w.heap.size) (by kernel_rfl) (fun W hW => by simp [go_sem, wrap0]) ?_
  try simp only [Act.put, List.setIfInBounds_toArray, List.set_cons_zero, List.set_cons_succ]
  refine q_op (MI w.heap.size) (by kernel_rfl) (fun W hW => by simp [go_sem, wrap0]) ?_
  try simp only [Act.put, List.setIfInBounds_toArray, List.set_cons_zero, List.set_cons_succ]
  refine q_call 23 #[MI w.heap.size] (.int .i64 1) (by kernel_rfl) (fun W hW => by simp [go_sem]) (fun W hW => ((hRL.out W hW).len 1 (by omega) lm0 lm1).mono (fun e w3 ⟨he, hb⟩ => ⟨he, Below.trans hW ((hb.below (Nat.le_refl _) (fun _ x => x.elim)).mono (Below.size hW))⟩)) ?_
  try simp only [Act.put, List.setIfInBounds_toArray, List.set_cons_zero, List.set_cons_succ]
  refine q_op (.bool true) (by kernel_rfl) (fun W hW => by simp [go_sem, wrap0]) ?_
  try simp only [Act.put, List.setIfInBounds_toArray, List.set_cons_zero, List.set_cons_succ]
  refine q_op (.bool true) (by kernel_rfl) (fun W hW => by simp [go_sem, wrap0]) ?_
  try simp only [Act.put, List.setIfInBounds_toArray, List.set_cons_zero, List.set_cons_succ]
  refine q_op (.bool true) (by kernel_rfl) (fun W hW => by simp [go_sem, wrap0]) ?_
  try simp only [Act.put, List.setIfInBounds_toArray, List.set_cons_zero, List.set_cons_succ]
  refine q_op (AV 4 9) (by kernel_rfl) (fun W hW => by obtain ⟨r0, r1, r2, r3⟩ := HC.out W hW; simp [go_sem, r0, r1]) ?_
  try simp only [Act.put, List.setIfInBounds_toArray, List.set_cons_zero, List.set_cons_succ]
  refine q_call 34 #[.int .i64 9] (AV 4 9) (by kernel_rfl) (fun W hW => by simp [go_sem]) (fun W hW => (word_any 9 W).mono (fun e w3 ⟨he, hb⟩ => ⟨he, Below.trans hW (hb.mono (Below.size hW))⟩)) ?_
  try simp only [Act.put, List.setIfInBounds_toArray, List.set_cons_zero, List.set_cons_succ]
  refine q_op (.bool true) (by kernel_rfl) (fun W hW => by simp [go_sem, eq33]) ?_
  try simp only [Act.put, List.setIfInBounds_toArray, List.set_cons_zero, List.set_cons_succ]
  refine q_op (.bool true) (by kernel_rfl) (fun W hW => by simp [go_sem, wrap0]) ?_
  try simp only [Act.put, List.setIfInBounds_toArray, List.set_cons_zero, List.set_cons_succ]
  refine q_op (.bool true) (by kernel_rfl) (fun W hW => by simp [go_sem, wrap0]) ?_
  try simp only [Act.put, List.setIfInBounds_toArray, List.set_cons_zero, List.set_cons_succ]
  refine q_op (AV 4 3) (by kernel_rfl) (fun W hW => by obtain ⟨r0, r1, r2, r3⟩ := HC.out W hW; simp [go_sem, r2, r3]) ?_
  try simp only [Act.put, List.setIfInBounds_toArray, List.set_cons_zero, List.set_cons_succ]
  refine q_call 34 #[.int .i64 3] (AV 4 3) (by kernel_rfl) (fun W hW => by simp [go_sem]) (fun W hW => (word_any 3 W).mono (fun e w3 ⟨he, hb⟩ => ⟨he, Below.trans hW (hb.mono (Below.size hW))⟩)) ?_
  try simp only [Act.put, List.setIfInBounds_toArray, List.set_cons_zero, List.set_cons_succ]
  refine q_op (.bool true) (by kernel_rfl) (fun W hW => by simp [go_sem, eq33]) ?_
  try simp only [Act.put, List.setIfInBounds_toArray, List.set_cons_zero, List.set_cons_succ]
  refine q_op (.bool true) (by kernel_rfl) (fun W hW => by simp [go_sem, wrap0]) ?_
  try simp only [Act.put, List.setIfInBounds_toArray, List.set_cons_zero, List.set_cons_succ]
  refine q_op (.bool true) (by kernel_rfl) (fun W hW => by simp [go_sem, wrap0]) ?_
  try simp only [Act.put, List.setIfInBounds_toArray, List.set_cons_zero, List.set_cons_succ]
  refine q_op (MP w.heap.size) (by kernel_rfl) (fun W hW => by simp [go_sem, wrap0]) ?_
  try simp only [Act.put, List.setIfInBounds_toArray, List.set_cons_zero, List.set_cons_succ]
  refine q_op (MI w.heap.size) (by kernel_rfl) (fun W hW => by simp [go_sem, wrap0]) ?_
  try simp only [Act.put, List.setIfInBounds_toArray, List.set_cons_zero, List.set_cons_succ]
  refine q_call 24 #[.int .i64 1] (AV 2 1) (by kernel_rfl) (fun W hW => by simp [go_sem]) (fun W hW => (Int_any 1 W).mono (fun e w3 ⟨he, hb⟩ => ⟨he, Below.trans hW (hb.mono (Below.size hW))⟩)) ?_
  try simp only [Act.put, List.setIfInBounds_toArray, List.set_cons_zero, List.set_cons_succ]
  refine q_call 19 #[MI w.heap.size, AV 2 1] (AV 4 4) (by kernel_rfl) (fun W hW => by simp [go_sem]) (fun W hW => ((hRL.out W hW).get 2 1 (by constructor <;> decide) (4, 4) gt1).mono (fun e w3 ⟨he, hb⟩ => ⟨he, Below.trans hW ((hb.below (Nat.le_refl _) (fun _ x => x.elim)).mono (Below.size hW))⟩)) ?_
  try simp only [Act.put, List.setIfInBounds_toArray, List.set_cons_zero, List.set_cons_succ]
  refine q_call 34 #[.int .i64 4] (AV 4 4) (by kernel_rfl) (fun W hW => by simp [go_sem]) (fun W hW => (word_any 4 W).mono (fun e w3 ⟨he, hb⟩ => ⟨he, Below.trans hW (hb.mono (Below.size hW))⟩)) ?_
  try simp only [Act.put, List.setIfInBounds_toArray, List.set_cons_zero, List.set_cons_succ]
  refine q_op (.bool true) (by kernel_rfl) (fun W hW => by simp [go_sem, eq33]) ?_
  try simp only [Act.put, List.setIfInBounds_toArray, List.set_cons_zero, List.set_cons_succ]
  refine q_op (.bool true) (by kernel_rfl) (fun W hW => by simp [go_sem, wrap0]) ?_
  try simp only [Act.put, List.setIfInBounds_toArray, List.set_cons_zero, List.set_cons_succ]
  refine q_op (.bool true) (by kernel_rfl) (fun W hW => by simp [go_sem, wrap0]) ?_
  try simp only [Act.put, List.setIfInBounds_toArray, List.set_cons_zero, List.set_cons_succ]
  refine wpQuiet_nil ?_
  intro W3 H3
  have HE : Hid (Kept No w W3) := HKp.out.trans (Kept.of_below H3)
  clear H3
  go_wp2
  go_ret
  exact ⟨rfl, HE.out⟩
end Go.Proofs.Ythefmfjlinpepaa
