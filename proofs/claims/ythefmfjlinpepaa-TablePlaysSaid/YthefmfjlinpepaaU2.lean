/- made: a table behind some calls. -/
import Derived.Test.YthefmfjlinpepaaU1
import Derived.Test.YthefmfjlinpepaaO0
import Derived.Deep.RegionHeld3
namespace Go.Proofs.Ythefmfjlinpepaa
open Go.RowKit Go.Shelf
set_option linter.unusedSimpArgs false
set_option linter.unusedVariables false
attribute [local go_sem] Oper.semAt_some

/-- Array slots, nodes, slots. -/
abbrev St := Nat × Nat × Sl
/-- A call's doing. -/
def stepR (most : Int) (s : St) (x : Ac) : St := if x.kind = 1 then (setR most s.1 s.2.1 s.2.2 x.k x.v).2 else s
/-- A table behind some calls. -/
def playR (most : Int) (L : List Ac) : St := L.foldl (stepR most) (0, 0, fun _ => (0, 0))
theorem playR_snoc (most : Int) (L : List Ac) (x : Ac) : playR most (L ++ [x]) = stepR most (playR most L) x := by
  unfold playR; rw [List.foldl_append]; rfl
theorem playR_len (most : Int) (L : List Ac) : ∀ j, (ents (playR most (L.take j)).1 (playR most (L.take j)).2.1 (playR most (L.take j)).2.2 0).length ≤ j
  | 0 => by
    rw [List.take_zero]
    exact Nat.le_of_eq (ents_zero 0 0)
  | j + 1 => by
    have ih := playR_len most L j
    rw [List.take_add_one]
    rcases h : L[j]? with _ | x
    · simp only [Option.toList_none, List.append_nil]; omega
    · simp only [Option.toList_some]
      rw [playR_snoc]
      unfold stepR
      split
      · have := ents_set most (playR most (L.take j)).1 (playR most (L.take j)).2.1 (playR most (L.take j)).2.2 x.k x.v
        omega
      · omega

/-- A table with that state. -/
abbrev ReS (w W : World) (P : Nat) (most : Int) (s : St) (b : Nat) : Prop := Re w W P most s.1 s.2.1 s.2.2 b

theorem Kept.cell {w w' : World} (h : Kept No w w') {b o : Nat} {v : Value} (hc : w.cell? ⟨b, o, none⟩ = some v) : w'.cell? ⟨b, o, none⟩ = some v := by
  cases e : w.heap[b]? with
  | none => simp [World.cell?, e] at hc
  | some ob =>
    have := h.heap e id
    simp only [World.cell?, e, this] at hc ⊢
    exact hc

theorem Acts.kept {w w' : World} {v : Value} {L : List Ac} (h : Acts w v L) (hk : Kept No w w') : Acts w' v L := by
  obtain ⟨ao, cap, rfl, h1, h2⟩ := h
  refine ⟨ao, cap, rfl, h1, fun h0 => ?_⟩
  obtain ⟨b, off, rfl, hc⟩ := h2 h0
  refine ⟨b, off, rfl, fun i a ha => ?_⟩
  obtain ⟨c0, c1, c2, c3, c4, c5⟩ := hc i a ha
  exact ⟨hk.cell c0, hk.cell c1, hk.cell c2, hk.cell c3, hk.cell c4, hk.cell c5⟩

theorem i64_400 : I64 400 := by constructor <;> decide

set_option maxRecDepth 20000 in
set_option maxHeartbeats 4000000 in
theorem made_any (v : Value) (L : List Ac) (w : World) (hL : Acts w v L) :
    Calls Try.prog 16 #[v] w fun e w' => e = .returned (MP w.heap.size) ∧ ReS w w' w.heap.size 400 (playR 400 (L.take 80)) 40000 := by
  obtain ⟨ao, cap, rfl, hwf, hcl⟩ := hL
  have HW : Hid (∀ a ∈ L, I64 a.k.2 ∧ I64 a.v.2 ∧ I64 a.i ∧ I64 a.k.1 ∧ I64 a.v.1) := hwf
  have HC : Hid (0 < L.length → ∃ b off, ao = some ⟨b, off, none⟩ ∧ ∀ i a, L[i]? = some a →
    w.cell? ⟨b, off + i * 6, none⟩ = some (.int .i64 a.kind) ∧ w.cell? ⟨b, off + i * 6 + 1, none⟩ = some (.int .i64 a.k.1) ∧ w.cell? ⟨b, off + i * 6 + 2, none⟩ = some (.int .i64 a.k.2) ∧ w.cell? ⟨b, off + i * 6 + 3, none⟩ = some (.int .i64 a.v.1) ∧ w.cell? ⟨b, off + i * 6 + 4, none⟩ = some (.int .i64 a.v.2) ∧ w.cell? ⟨b, off + i * 6 + 5, none⟩ = some (.int .i64 a.i)) := hcl
  clear hwf hcl
  go_enter Try.func16, Try.ntmps16
  go_wp2_with fail
  refine (NewMem_re 400 _).mono ?_
  rintro e w1 ⟨rfl, h1⟩
  have H1 : Hid (ReS w w1 w.heap.size 400 (playR 400 (L.take 0)) 0) := h1
  clear h1
  go_wp2_with fail
  go_loopw [4] (fun i wr => ∃ j : Nat, j ≤ L.length ∧ j ≤ 80 ∧ i = .int .i64 j ∧ Hid (ReS w wr w.heap.size 400 (playR 400 (L.take j)) (500 * j))) (fun i _ => L.length - (intOf i).toNat)
  case atStart => exact ⟨0, Nat.zero_le _, by omega, rfl, H1.out⟩
  case round =>
    obtain ⟨j, hj, hj8, rfl, HP⟩ := hrel
    by_cases hlt : j < L.length
    · have k1 : (0 : Int) ≤ (j : Int) := by omega
      have k2 : (j : Int) < (L.length : Int) := by omega
      by_cases h80 : j < 80
      · have k3 : (j : Int) < 80 := by omega
        obtain ⟨b, off, rfl, hcell⟩ := HC.out (by omega)
        obtain ⟨x, hx⟩ : ∃ x, L[j]? = some x := ⟨L[j]'hlt, List.getElem?_eq_getElem _⟩
        obtain ⟨c0, c1, c2, c3, c4, c5⟩ := hcell j x hx
        have hkk := HP.out.kp
        have d0 := hkk.cell c0
        have d1 := hkk.cell c1
        have d2 := hkk.cell c2
        have d3 := hkk.cell c3
        have d4 := hkk.cell c4
        have HX : Hid (playR 400 (L.take (j + 1)) = stepR 400 (playR 400 (L.take j)) x) := by
          show _ = _
          rw [List.take_add_one, hx]; exact playR_snoc _ _ _
        have HWx := HW.out x (List.mem_of_getElem? hx)
        have HLn := playR_len 400 L j
        obtain ⟨kd, ⟨x1, x2⟩, ⟨y1, y2⟩, ii⟩ := x
        simp only at c0 c1 c2 c3 c4 c5 d0 d1 d2 d3 d4 HWx
        clear hcell hkk hx
        by_cases hkd : kd = 1
        · subst hkd
          have HS : Hid (∀ W, Kept No wr W → Calls Try.prog 22 #[MI w.heap.size, AV x1 x2, AV y1 y2] W fun r w' => r = .returned (.int .i64 (setR 400 (playR 400 (L.take j)).1 (playR 400 (L.take j)).2.1 (playR 400 (L.take j)).2.2 (x1, x2) (y1, y2)).1) ∧ ReS w w' w.heap.size 400 (playR 400 (L.take (j + 1))) (500 * (j + 1))) := by
            intro W hW
            refine ((HP.out.no hW).set i64_400 (by omega) (by omega) (x1, x2) (y1, y2) HWx.1 HWx.2.1 rfl).mono ?_
            rintro r w' ⟨rfl, h⟩
            refine ⟨rfl, ?_⟩
            rw [HX.out]
            exact h
          generalize (setR 400 (playR 400 (L.take j)).1 (playR 400 (L.take j)).2.1 (playR 400 (L.take j)).2.2 (x1, x2) (y1, y2)).1 = er at HS
          have HK : Hid (∀ W, Kept No wr W → W.cell? ⟨b, off + j * 6 + 1, none⟩ = some (.int .i64 x1) ∧ W.cell? ⟨b, off + j * 6 + 2, none⟩ = some (.int .i64 x2) ∧ W.cell? ⟨b, off + j * 6 + 3, none⟩ = some (.int .i64 y1) ∧ W.cell? ⟨b, off + j * 6 + 4, none⟩ = some (.int .i64 y2)) := fun W hW => ⟨hW.cell d1, hW.cell d2, hW.cell d3, hW.cell d4⟩
          have HK2 : Hid (∀ W, Kept No w W → W.cell? ⟨b, off + j * 6 + 1, none⟩ = some (.int .i64 x1) ∧ W.cell? ⟨b, off + j * 6 + 2, none⟩ = some (.int .i64 x2) ∧ W.cell? ⟨b, off + j * 6 + 3, none⟩ = some (.int .i64 y1) ∧ W.cell? ⟨b, off + j * 6 + 4, none⟩ = some (.int .i64 y2)) := fun W hW => ⟨hW.cell c1, hW.cell c2, hW.cell c3, hW.cell c4⟩
          clear HX HLn HWx HP c0 c1 c2 c3 c4 c5
          go_wp2_with fail
          go_region_held3 (fun w' => w'.cell? ⟨b, off + j * 6 + 1, none⟩ = some (.int .i64 x1) ∧ w'.cell? ⟨b, off + j * 6 + 2, none⟩ = some (.int .i64 x2) ∧ w'.cell? ⟨b, off + j * 6 + 3, none⟩ = some (.int .i64 y1) ∧ w'.cell? ⟨b, off + j * 6 + 4, none⟩ = some (.int .i64 y2)) (go_keep)
            (first | (go_at_call 22; refine (HS.out _ ((Kept.refl _ _).drew)).mono ?_; rintro e w2 ⟨rfl, h2⟩; have H2 : Hid (ReS w w2 w.heap.size 400 (playR 400 (L.take (j + 1))) (500 * (j + 1))) := h2; have q1 := (HK.out _ ((Kept.refl No wr).drew)); have q2 := HK2.out w2 h2.kp; clear h2))
          clear HS HK HK2
          go_wp2
          go_roundw
          case rel => exact ⟨j + 1, by omega, by omega, by go_num, H2.out⟩
          case measure => simp [intOf]; omega
        · have hkd' : (kd == 1) = false := by simp [hkd]
          have H2 : Hid (ReS w wr w.heap.size 400 (playR 400 (L.take (j + 1))) (500 * (j + 1))) := by
            have e : playR 400 (L.take (j + 1)) = playR 400 (L.take j) := by rw [HX.out]; unfold stepR; rw [if_neg hkd]
            show Re _ _ _ _ _ _ _ _
            rw [e]
            obtain ⟨nn, hb, ht⟩ := HP.out.tb
            exact ⟨⟨nn, by omega, ht⟩, HP.out.fp, HP.out.kp, HP.out.is⟩
          clear HX HLn HWx HP c0 c1 c2 c3 c4 c5
          go_wp2
          go_roundw
          case rel => exact ⟨j + 1, by omega, by omega, by go_num, H2.out⟩
          case measure => simp [intOf]; omega
      · have k3 : ¬ (j : Int) < 80 := by omega
        obtain rfl : j = 80 := by omega
        have HF : Hid (ReS w wr w.heap.size 400 (playR 400 (L.take 80)) 40000) := HP.out
        clear HP
        go_wp2
        go_ret
        exact ⟨rfl, HF.out⟩
    · have k2 : ¬ (j : Int) < (L.length : Int) := by omega
      obtain rfl : j = L.length := by omega
      have HF : Hid (ReS w wr w.heap.size 400 (playR 400 (L.take 80)) 40000) := by
        have e : L.take 80 = L.take L.length := by rw [List.take_length, List.take_of_length_le hj8]
        show Re _ _ _ _ _ _ _ _
        rw [e]
        obtain ⟨nn, hb, ht⟩ := HP.out.tb
        exact ⟨⟨nn, by omega, ht⟩, HP.out.fp, HP.out.kp, HP.out.is⟩
      clear HP
      go_wp2
      go_ret
      exact ⟨rfl, HF.out⟩
end Go.Proofs.Ythefmfjlinpepaa
