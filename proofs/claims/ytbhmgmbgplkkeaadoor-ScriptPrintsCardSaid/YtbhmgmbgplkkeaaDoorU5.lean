/- The program's Print. -/
import Derived.Test.YtbhmgmbgplkkeaaDoorU4
namespace Go.Proofs.YtbhmgmbgplkkeaaDoor
open Go.RowKit
set_option linter.unusedSimpArgs false
set_option linter.unusedVariables false

theorem bd_at {T e : TypeId} {B b : Nat} {p : Value} {bs : List Value} {W W' : World} (h : Lib.BuilderAtF T e B b p bs W) (hb : Kept No W W') : Lib.BuilderAtF T e B b p bs W' := by
  have hlt := h.lt
  obtain ⟨hB, v, hv, hown, hne⟩ := h
  exact ⟨hB, v, (hb.block b hlt id).trans hv, hown.kept (row := none) ⟨hb.os, hb.tape, hb.output, hb.size, fun k hk _ => hb.block k hk id⟩ (Classical.em _), hne⟩
/-- A builder that holds t; below it nothing turned. -/
def BJ (w1 : World) (B : Nat) (t : List UInt8) (X : World) : Prop := Lib.IsBuilderF 63 5 B B (Lib.byteCells t) X ∧ Kept No w1 X ∧ w1.heap.size = B
theorem BJ.no {w1 : World} {B : Nat} {t : List UInt8} {X Y : World} (h : BJ w1 B t X) (hk : Kept No X Y) : BJ w1 B t Y :=
  ⟨h.1.elim (fun x => .inl (bd_at x hk)) (fun x => .inr (bd_at x hk)), h.2.1.trans hk, h.2.2⟩
theorem kb {a b c : World} {B : Nat} (h : Kept No a b) (hB : a.heap.size = B) (k : Below B b c) : Kept No a c := by
  subst hB
  exact ⟨k.os.trans h.os, k.tape.trans h.tape, k.output.trans h.output, Nat.le_trans h.size k.size, fun i hi hn => (k.block i hi).trans (h.block i hi hn)⟩
theorem BJ.fresh (w1 : World) : BJ w1 w1.heap.size [] (w1.alloc (.cells #[.pointer none, .slice none 0 0] 63)) :=
  ⟨.inl (Lib.BuilderAtF.of ⟨Nat.le_refl _, .slice none 0 0, World.alloc_heap_new w1 _, World.ownsRow_nil _ _ 5 1, by simp [Value.ownBlock]⟩), (Kept.refl No w1).alloc _, rfl⟩
theorem BJ.write {w1 : World} {B : Nat} {t : List UInt8} {X : World} (h : BJ w1 B t X) (s : ByteArray) (ht : t.length ≤ 1000000) (hs : s.size ≤ 1000000) :
    Calls Tryd.prog 27 #[.pointer (some ⟨B, 0, none⟩), .string s] X fun e w' => e = .returned (.tuple #[.int .i64 s.size, .nilIface]) ∧ BJ w1 B (t ++ bl s) w' := by
  refine Calls.mono (WriteString_any B B _ s X h.1 (by rw [Lib.byteCells_length]; omega) (by rw [← h.2.2]; exact h.2.1.size)) ?_
  rintro e w' ⟨rfl, hb, hl, _⟩
  refine ⟨rfl, ?_, kb h.2.1 h.2.2 hl, h.2.2⟩
  rw [Lib.strCells_eq, ← Lib.byteCells_append] at hb
  exact hb
theorem BJ.text {w1 : World} {B : Nat} {t : List UInt8} {X : World} (h : BJ w1 B t X) :
    Calls Tryd.prog 31 #[.pointer (some ⟨B, 0, none⟩)] X fun e w' => e = .returned (.string (mk t)) ∧ Kept No w1 w' := by
  refine Calls.mono (Tryd.Builder_String_any_f B B t X h.1 (by rw [← h.2.2]; exact h.2.1.size)) ?_
  rintro e w' ⟨rfl, hb, hl⟩
  exact ⟨rfl, kb h.2.1 h.2.2 hl⟩
theorem RdV.drop {W : World} {ao : Option Addr} {cap : Nat} {L : List V} (h : RdV W (.slice ao L.length cap) L) (h0 : 0 < L.length) (n : Nat) (hn : n ≤ L.length) : ∃ b off, ao = some ⟨b, off, none⟩ ∧ RdV W (.slice (some ⟨b, off + n * 2, none⟩) (L.length - n) (cap - n)) (L.drop n) := by
  obtain ⟨ao', cap', e, hc, hC⟩ := h
  injection e with e1 e2 e3
  subst e1 e3
  obtain ⟨b, off, rfl, _, _⟩ := hC 0 h0
  refine ⟨b, off, rfl, _, _, by rw [List.length_drop], by rw [List.length_drop]; omega, fun j hj => ?_⟩
  rw [List.length_drop] at hj
  obtain ⟨b', off', e', h1, h2⟩ := hC (n + j) (by omega)
  injection e' with e'
  injection e' with ea eb
  subst ea eb
  refine ⟨b, off + n * 2, rfl, ?_, ?_⟩
  · rw [List.getElem_drop, show off + n * 2 + j * 2 = off + (n + j) * 2 by omega]; exact h1
  · rw [List.getElem_drop, show off + n * 2 + j * 2 + 1 = off + (n + j) * 2 + 1 by omega]; exact h2

/-- What is told of a scene. -/
def prV : Nat ⊕ List UInt8 → Value
  | .inl c => .tuple #[.string ⟨#[]⟩, .int .i64 (c : Int)]
  | .inr t => .tuple #[.string (mk t), .int .i64 0]
theorem print_fault (x : Sc) : (faultF x = 0 ∧ GoodS x ∧ printF x = .inr (textF x)) ∨ (faultF x ≠ 0 ∧ printF x = .inl (faultF x)) := by
  cases hp : printF x with
  | inr t =>
    obtain ⟨hg, rfl⟩ := good_print hp
    refine .inl ⟨?_, hg, rfl⟩
    unfold printF at hp
    unfold faultF
    split at hp
    · cases hp
    · rename_i h1
      rw [if_neg h1]
      split at hp
      · cases hp
      · rename_i h2
        rw [if_neg h2]
        split at hp
        · cases hp
        · rename_i h3
          rw [if_neg h3]
          split at hp
          · cases hp
          · rename_i h4; rw [if_neg h4]
  | inl c =>
    refine .inr ?_
    unfold printF at hp
    unfold faultF
    split at hp
    · rename_i h1; injection hp with hp; subst hp; simp [h1]
    · rename_i h1
      rw [if_neg h1]
      split at hp
      · rename_i h2; injection hp with hp; subst hp; simp [h2]
      · rename_i h2
        rw [if_neg h2]
        split at hp
        · rename_i h3; injection hp with hp; subst hp; simp [h3]
        · rename_i h3
          rw [if_neg h3]
          split at hp
          · rename_i h4; injection hp with hp; subst hp; simp [h4]
          · cases hp

theorem sz_mk (l : Array UInt8) : (⟨l⟩ : ByteArray).size = l.size := rfl
macro "go_size" : tactic => `(tactic| (simp only [ByteArray.size_append, sz_mk, List.size_toArray, List.length_append, List.length_cons, List.length_nil, bl_len]; omega))
def lenOf : Value → Nat
  | .slice _ n _ => n
  | _ => 0
set_option maxRecDepth 20000 in
set_option maxHeartbeats 4000000 in
theorem Print_any {w : World} {z n : Int} {pv : Value} {src : ByteArray} {L : List V} (hL : RdV w pv L) (hn : L.length ≤ 140737488355328) (hs : src.size ≤ 140737488355328) (hr : RowsIs w) (ht : TenIs w) :
    Calls Tryd.prog 15 #[.agg #[.int .i64 z, .int .i64 n, pv, .string src]] w fun e w' => e = .returned (prV (printF ⟨z, n, L, bl src⟩)) ∧ Kept No w w' := by
  have HL0 : Hid (RdV w pv L) := hL
  obtain ⟨ao, cap, rfl, hcap, hC⟩ := hL
  obtain ⟨W, HW⟩ : ∃ W, Hid (W = w.alloc (.cells #[.int .i64 z, .int .i64 n, .slice ao L.length cap, .string src] 25)) := ⟨_, rfl⟩
  have HK : Hid (Kept No w W) := by show Kept _ _ _; rw [HW.out]; exact (Kept.refl No w).alloc _
  obtain ⟨R, HR⟩ : ∃ R, Hid (w.heap.size = R) := ⟨_, rfl⟩
  have HB : Hid (W.heap[R]? = some (.cells #[.int .i64 z, .int .i64 n, .slice ao L.length cap, .string src] 25 (0, 0))) := by show _ = _; rw [HW.out, ← HR.out]; exact World.alloc_heap_new w _
  have b0 : W.cell? ⟨R, 0, none⟩ = some (.int .i64 z) := by rw [cell_of HB.out]; rfl
  have b1 : W.cell? ⟨R, 1, none⟩ = some (.int .i64 n) := by rw [cell_of HB.out]; rfl
  have b2 : W.cell? ⟨R, 2, none⟩ = some (.slice ao L.length cap) := by rw [cell_of HB.out]; rfl
  have b3 : W.cell? ⟨R, 3, none⟩ = some (.string src) := by rw [cell_of HB.out]; rfl
  have HFa : Hid _ := fault_any (z := z) (n := n) (src := src) (HL0.out.no HK.out) hn hs (hr.no HK.out)
  rcases print_fault ⟨z, n, L, bl src⟩ with ⟨h0, hg, hp⟩ | ⟨h0, hp⟩
  · rw [hp]
    rw [h0] at HFa
    have HG : Hid (GoodS ⟨z, n, L, bl src⟩) := hg
    have HIt : Hid (∀ X, Kept No w X → ∀ m : Int, 0 ≤ m → m ≤ 999999999 → ∃ A : ByteArray, A = mk (Lib.itoa m) ∧ A.size ≤ 20 ∧ Calls Tryd.prog 28 #[.int .i64 m] X fun e w' => e = .returned (.string A) ∧ Kept No X w') := fun X hX m h0 h1 => ⟨_, rfl, by rw [mk_size]; exact itoa_size h0 h1, Itoa_any m (by omega) (by omega) X (ht.no hX)⟩
    have HPL : Hid (∀ X, Kept No w X → ∀ (p : V) (k : Nat), fitsP p = true → k ≤ 4000 → ∃ A : ByteArray, A = mk (lineT p k) ∧ A.size ≤ 100 ∧ Calls Tryd.prog 30 #[AV p, .int .i64 k] X fun e w' => e = .returned (.string A) ∧ Kept No X w') := fun X hX p k hf hk => ⟨_, rfl, by
      rw [mk_size]
      obtain ⟨base, _, hb14, hlT⟩ := line_len hf
      have := nDigits_le 8 k (by omega)
      rw [hlT]; split <;> omega, pointLine_any p k hf (by omega) X (hr.no hX) (ht.no hX)⟩
    have hsrc : src.size ≤ 8192 := by have := hg.src; rwa [bl_len] at this
    have hl4 : L.length ≤ 4000 := hg.len
    clear hp hr ht hC hg h0
    go_enter Tryd.func15, Tryd.ntmps15
    go_wp2_with (first | rw [← HW.out, HR.out])
    refine Calls.mono HFa.out ?_
    rintro e w1 ⟨rfl, hk1⟩
    have HK1 : Hid (Kept No w w1) := HK.out.trans hk1
    have HB1 : Hid (w1.heap[R]? = some (.cells #[.int .i64 z, .int .i64 n, .slice ao L.length cap, .string src] 25 (0, 0))) := hk1.heap HB.out id
    obtain ⟨B, hBe⟩ : ∃ B, Hid (w1.heap.size = B) := ⟨_, rfl⟩
    obtain ⟨W2, HW2⟩ : ∃ W2, Hid (W2 = w1.alloc (.cells #[.pointer none, .slice none 0 0] 63)) := ⟨_, rfl⟩
    have HJ2 : Hid (BJ w1 B [] W2) := by show BJ _ _ _ _; rw [HW2.out, ← hBe.out]; exact BJ.fresh w1
    have HX1 : Hid (∀ X t, BJ w1 B t X → Kept No w X ∧ X.cell? ⟨R, 0, none⟩ = some (.int .i64 z) ∧ X.cell? ⟨R, 1, none⟩ = some (.int .i64 n) ∧ X.cell? ⟨R, 2, none⟩ = some (.slice ao L.length cap) ∧ X.cell? ⟨R, 3, none⟩ = some (.string src)) := fun X t hX => by
      have hb := hX.2.1.heap HB1.out id
      exact ⟨HK1.out.trans hX.2.1, by rw [cell_of hb]; rfl, by rw [cell_of hb]; rfl, by rw [cell_of hb]; rfl, by rw [cell_of hb]; rfl⟩
    clear hk1 b0 b1 b2 b3
    obtain ⟨k2, c0, c1, c2, c3⟩ := HX1.out W2 _ HJ2.out
    obtain ⟨A, hA, sA, HA⟩ := HIt.out W2 k2 z (by have := HG.out.z0; dsimp only at this; omega) (by have := HG.out.z1; dsimp only at this; omega)
    replace HA : Hid _ := HA
    replace hA : Hid _ := hA
    replace k2 : Hid _ := k2
    clear c1 c2 c3
    go_wp2_with (first | rw [← HW2.out, hBe.out])
    refine Calls.mono HA.out ?_
    rintro e w3 ⟨rfl, hk3⟩
    have HJ3 : Hid (BJ w1 B [] w3) := HJ2.out.no hk3
    clear hk3 c0 HA
    go_wp2_with fail
    refine Calls.mono (HJ3.out.write _ (by go_size) (by go_size)) ?_
    rintro e w4 ⟨rfl, hj4⟩
    replace hj4 : Hid (BJ w1 B _ w4) := hj4
    obtain ⟨k4, c0, c1, c2, c3⟩ := HX1.out w4 _ hj4.out
    obtain ⟨A2, hA2, sA2, HA2⟩ := HIt.out w4 k4 n HG.out.n0 (by have := HG.out.n1; dsimp only at this; omega)
    replace HA2 : Hid _ := HA2
    replace hA2 : Hid _ := hA2
    replace k4 : Hid _ := k4
    clear c0 c2 c3
    go_wp2_with fail
    refine Calls.mono HA2.out ?_
    rintro e w5 ⟨rfl, hk5⟩
    have hj5 : Hid (BJ w1 B _ w5) := hj4.out.no hk5
    clear hk5 c1 HA2
    go_wp2_with fail
    refine Calls.mono (hj5.out.write _ (by go_size) (by go_size)) ?_
    rintro e w6 ⟨rfl, hj6⟩
    have HJ6 : Hid (BJ w1 B (headT z n) w6) := by
      have e : ([] : List UInt8) ++ bl (⟨#[115, 105, 122, 101, 32]⟩ ++ A ++ ⟨#[10]⟩) ++ bl (⟨#[115, 116, 101, 112, 115, 32]⟩ ++ A2 ++ ⟨#[10]⟩) = headT z n := by
        rw [hA.out, hA2.out]; simp [bl, headT, mk]
      show BJ _ _ _ _
      rw [← e]; exact hj6
    obtain ⟨k6, c0, c1, c2, c3⟩ := HX1.out w6 _ HJ6.out
    replace k6 : Hid _ := k6
    have HT : Hid ((headT z n ++ bodyR 0 L).length ≤ 60023 ∧ L.all fitsP = true) := by
      refine ⟨?_, HG.out.fit⟩
      have := body_le _ L (Nat.le_refl _) HG.out.fit
      have := head_len z n (by have := HG.out.z0; dsimp only at this; omega) (by have := HG.out.z1; dsimp only at this; omega) HG.out.n0 (by have := HG.out.n1; dsimp only at this; omega)
      rw [List.length_append]; omega
    clear hj6 hj5 hj4 hA hA2 sA sA2 c0 c1 c3 k4 HJ3 HJ2 k2
    go_wp2_with fail
    go_loopw [6] (fun v wr => ∃ (M : List V) (ao' : Option Addr) (cap' : Nat), v = .slice ao' M.length cap' ∧ M.length ≤ cap' ∧ M.length ≤ 4000 ∧ Hid (RdV w (.slice ao' M.length cap') M ∧ ∃ t, BJ w1 B t wr ∧ t ++ bodyR 0 M = headT z n ++ bodyR 0 L ∧ M.all fitsP = true)) (fun v _ => lenOf v)
    case atStart => exact ⟨L, ao, cap, rfl, hcap, hl4, HL0.out, _, HJ6.out, rfl, HT.out.2⟩
    case round =>
      clear c2 HJ6 k6 HG HFa HB HB1 HW HW2 HIt hcap
      obtain ⟨M, mo, mc, rfl, hmc, hm4, HR0⟩ := hrel
      obtain ⟨hM, t, hJ, ht, hfit⟩ := HR0.out
      clear HR0
      have hJ : Hid (BJ w1 B t wr) := hJ
      have hM : Hid (RdV w (.slice mo M.length mc) M) := hM
      have hfit : Hid (M.all fitsP = true) := hfit
      have htl : t.length ≤ 60023 := by have := congrArg List.length ht; rw [List.length_append] at this; have := HT.out.1; omega
      have ht : Hid (t ++ bodyR 0 M = headT z n ++ bodyR 0 L) := ht
      obtain ⟨kr, c0, c1, c2, c3⟩ := HX1.out wr _ hJ.out
      replace kr : Hid (Kept No w wr) := kr
      by_cases hM0 : 0 < M.length
      · have iM : (0 : Int) < (M.length : Int) := by omega
        have hne : M ≠ [] := by intro e; rw [e] at hM0; simp at hM0
        have hal := aliF_le M
        have hap : 1 ≤ aliF M := by
          cases M with
          | nil => exact absurd rfl hne
          | cons p r => exact aliF_pos p r
        obtain ⟨b, off, rfl, hMd⟩ := hM.out.drop hM0 (aliF M) hal
        have hMd : Hid _ := hMd
        have HAl : Hid (Calls Tryd.prog 29 #[.slice (some ⟨b, off, none⟩) M.length mc] wr fun e w' => e = .returned (.int .i64 (aliF M : Int)) ∧ ∃ m, w' = wr.drewN m) := alike_any (hM.out.no kr.out) (by omega) hne
        obtain ⟨_, _, e1, _, hc⟩ := hM.out
        injection e1 with e1 e2 e3
        subst e1 e3
        obtain ⟨b', off', e1, x0, x1⟩ := hc 0 hM0
        injection e1 with e1
        injection e1 with e1 e2
        subst e1 e2
        simp only [Nat.zero_mul, Nat.add_zero] at x0 x1
        have q0 := cell_kept x0 kr.out
        have q1 := cell_kept x1 kr.out
        have hp : Hid (fitsP M[0] = true) := List.all_eq_true.1 hfit.out _ (List.getElem_mem hM0)
        have hb : Hid (bodyR 0 M = lineT M[0] (aliF M) ++ (10 :: bodyR 0 (M.drop (aliF M)))) := by
          have := bodyR_ali M M[0] 0 (by rw [List.head?_eq_getElem?]; exact List.getElem?_eq_getElem hM0)
          rwa [Nat.zero_add] at this
        have hlen : (M.drop (aliF M)).length = M.length - aliF M := List.length_drop
        have hfd : Hid ((M.drop (aliF M)).all fitsP = true) := by
          show _ = _
          have := hfit.out
          rw [List.all_eq_true] at this ⊢
          exact fun q hq => this q (List.mem_of_mem_drop hq)
        generalize M.drop (aliF M) = D at hMd hb hlen hfd
        generalize aliF M = A at hal hap hMd HAl hb hlen
        generalize M[0] = pp at q0 q1 hp hb
        obtain ⟨p1, p2⟩ := pp
        clear x0 x1 hc hM hfit hne c0 c1 c2 c3
        go_wp2_with fail
        refine Calls.mono HAl.out ?_
        rintro e wa ⟨rfl, m, rfl⟩
        have hJa : Hid (BJ w1 B t (wr.drewN m)) := hJ.out.no ((Kept.refl No wr).drewN m)
        have kra : Hid (Kept No w (wr.drewN m)) := kr.out.drewN m
        obtain ⟨S, hS, sS, hC⟩ := HPL.out _ kra.out (p1, p2) A hp.out (by omega)
        replace hS : Hid (S = mk (lineT (p1, p2) A)) := hS
        have hC : Hid (Calls Tryd.prog 30 #[.agg #[.int .i64 p1, .int .i64 p2], .int .i64 A] (wr.drewN m) fun e w' => e = .returned (.string S) ∧ Kept No (wr.drewN m) w') := hC
        go_wp2_with fail
        refine Calls.mono hC.out ?_
        rintro e wb ⟨rfl, hkb⟩
        have hJb : Hid (BJ w1 B t wb) := hJa.out.no hkb
        clear hkb hC HAl q0 q1
        go_wp2_with fail
        refine Calls.mono (hJb.out.write _ (by omega) (by go_size)) ?_
        rintro e wc ⟨rfl, hJc⟩
        have hJc : Hid (BJ w1 B (t ++ bl (S ++ ⟨#[10]⟩)) wc) := hJc
        clear hJb hJa kra
        go_wp2
        go_roundw
        case rel =>
          refine ⟨D, if mc = A then some ⟨b, off, none⟩ else some ⟨b, off + A * 2, none⟩, mc - A, by rw [hlen], by omega, by omega, ?_, _, hJc.out, ?_, hfd.out⟩
          · by_cases hmA : mc = A
            · exact ⟨_, _, rfl, by omega, fun j hj => by omega⟩
            · rw [if_neg hmA, hlen]; exact hMd.out
          · rw [← ht.out, hb.out, hS.out]; simp [bl, mk]
        case measure => simp [lenOf] <;> omega
      · have iM : ¬ (0 : Int) < (M.length : Int) := by omega
        have hMn : M = [] := List.length_eq_zero_iff.1 (by omega)
        have htx : Hid (t = headT z n ++ bodyR 0 L) := by
          have := ht.out
          rw [hMn] at this
          show _ = _
          simpa [bodyR] using this
        clear c0 c1 c2
        go_wp2_with fail
        refine Calls.mono (hJ.out.write _ (by omega) (by go_size)) ?_
        rintro e wc ⟨rfl, hJc⟩
        have hJc : Hid (BJ w1 B (t ++ bl ((⟨#[115, 111, 117, 114, 99, 101, 10]⟩ : ByteArray) ++ src)) wc) := hJc
        clear c3
        go_wp2_with fail
        refine Calls.mono hJc.out.text ?_
        rintro e wd ⟨rfl, hkd⟩
        have hkd : Hid (Kept No w wd) := HK1.out.trans hkd
        have hX : Hid (t ++ bl ((⟨#[115, 111, 117, 114, 99, 101, 10]⟩ : ByteArray) ++ src) = textF ⟨z, n, L, bl src⟩) := by
          show _ = _
          rw [htx.out]; simp [bl, textF]
        rw [hX.out]
        clear hJc htx
        go_wp2_with fail
        go_ret2
        exact ⟨rfl, hkd.out⟩
  · rw [hp]
    generalize faultF ⟨z, n, L, bl src⟩ = F at h0 HFa ⊢
    have i0 : ((F : Int) == 0) = false := by rw [beq_eq_false_iff_ne]; omega
    clear hp hr ht hC
    go_enter Tryd.func15, Tryd.ntmps15
    go_wp2_with (first | rw [← HW.out, HR.out])
    refine Calls.mono HFa.out ?_
    rintro e w1 ⟨rfl, hk1⟩
    have HK1 : Hid (Kept No w w1) := HK.out.trans hk1
    clear hk1
    go_wp2_with fail
    go_ret2
    exact ⟨rfl, HK1.out⟩
end Go.Proofs.YtbhmgmbgplkkeaaDoor
