/- The rules of a mode: between two collections. -/
import Derived.Test.YtnihfakhijjjkaaA3
namespace Go.Proofs.Ytnihfakhijjjkaa
open Go.RowKit
set_option linter.unusedSimpArgs false
set_option linter.unusedVariables false

/-- Has an object a colour that its age may have? -/
def fits (c a wh : Int) (ag : Bool) : Bool :=
  if a = 0 then decide (c = wh) else if a = 1 then decide (c = wh) else if a = 5 then decide (c = 2) && ag else if a = 3 then decide (c = 3) else if a = 4 then decide (c = 3) else if a = 6 then decide (c = 3)
  else if a = 2 then decide (c = 2) || decide (c = 3) else false

theorem fits2 (c wh : Int) (ag : Bool) : fits c 2 wh ag = (c == 2 || c == 3) := by
  have e : fits c 2 wh ag = (decide (c = 2) || decide (c = 3)) := rfl
  rw [e]
  by_cases h1 : c = 2 <;> by_cases h2 : c = 3 <;> simp [h1, h2]
set_option maxRecDepth 20000 in
set_option maxHeartbeats 2000000 in
theorem fitsAge_any (s : Sn) (so : Option Addr) (sn sc : Nat) (wh : Int) (ag : Bool) (w : World) :
    Calls Try.prog 31 #[AS s (.slice so sn sc), .int .i64 wh, .bool ag] w fun e w' => e = .returned (.bool (fits s.col s.age wh ag)) ∧ Kept No w w' := by
  obtain ⟨sh, sk, sw, sr, ssl, sf, c, a⟩ := s
  dsimp only
  have HK : Hid (∀ o, Kept No w (w.alloc o)) := fun o => (Kept.refl _ _).alloc _
  obtain ⟨r, HR⟩ : ∃ r, Hid (fits c a wh ag = r) := ⟨_, rfl⟩
  rw [HR.out]
  rcases cases7 a with rfl | rfl | rfl | rfl | rfl | rfl | rfl | ⟨h0, h1, h2, h3, h4, h5, h6⟩
  all_goals try (have HR2 := HR.out; simp only [fits, if_true, if_false, reduceIte, show (1 : Int) ≠ 0 by decide, show (2 : Int) ≠ 0 by decide, show (2 : Int) ≠ 1 by decide, show (2 : Int) ≠ 5 by decide, show (2 : Int) ≠ 3 by decide, show (2 : Int) ≠ 4 by decide, show (2 : Int) ≠ 6 by decide] at HR2)
  · go_enter Try.func31, Try.ntmps31
    go_wp2
    go_ret
    exact ⟨by rw [← HR.out]; rfl, HK.out _⟩
  · go_enter Try.func31, Try.ntmps31
    go_wp2
    go_ret
    exact ⟨by rw [← HR.out]; rfl, HK.out _⟩
  · clear HR2
    by_cases hc : c = 2
    · go_enter Try.func31, Try.ntmps31
      go_wp2
      go_ret
      exact ⟨by rw [← HR.out]; simp [fits, hc], HK.out _⟩
    · go_enter Try.func31, Try.ntmps31
      go_wp2
      go_ret
      exact ⟨by rw [← HR.out]; rw [fits2]; rfl, HK.out _⟩
  · go_enter Try.func31, Try.ntmps31
    go_wp2
    go_ret
    exact ⟨by rw [← HR.out]; rfl, HK.out _⟩
  · go_enter Try.func31, Try.ntmps31
    go_wp2
    go_ret
    exact ⟨by rw [← HR.out]; rfl, HK.out _⟩
  · by_cases hc : c = 2
    · go_enter Try.func31, Try.ntmps31
      go_wp2
      go_ret
      exact ⟨by rw [← HR.out]; simp [fits, hc], HK.out _⟩
    · go_enter Try.func31, Try.ntmps31
      go_wp2
      go_ret
      exact ⟨by rw [← HR.out]; simp [fits, hc], HK.out _⟩
  · go_enter Try.func31, Try.ntmps31
    go_wp2
    go_ret
    exact ⟨by rw [← HR.out]; rfl, HK.out _⟩
  · go_enter Try.func31, Try.ntmps31
    go_wp2
    go_ret
    exact ⟨by rw [← HR.out]; simp [fits, *], HK.out _⟩

abbrev Fc (n : Nat) (cs : Array Value) : Value := .func (.func n) #[] cs
/-- A view's box. -/
abbrev BV (md ph wh : Int) (sv gv av pv : Value) : Obj := .cells #[.int .i64 md, .int .i64 ph, .int .i64 wh, sv, gv, av, pv] 30

set_option maxRecDepth 20000 in
set_option maxHeartbeats 2000000 in
theorem gen1_any {w : World} {vb tb M n : Nat} {md ph wh : Int} {sv gv av pv : Value} {L : List Int} (hv : w.heap[vb]? = some (BV md ph wh sv gv av pv)) (ht : w.heap[tb]? = some (.cells #[.map (some M)] 56)) (hM : MapJ w M n (cnt L L.length))
    (s : Sn) (so : Option Addr) (sn sc : Nat) (hw : wf s.h) :
    Calls Try.prog 30 #[AS s (.slice so sn sc), PT vb, PT tb] w fun e w' => e = .returned (.bool (!fits s.col s.age wh (decide (0 < cnt L L.length s.h)))) ∧ Kept No w w' := by
  obtain ⟨W, HWd⟩ : ∃ W, Hid (W = w.alloc (BS s (.slice so sn sc))) := ⟨_, rfl⟩
  have hkW : Kept No w W := by rw [HWd.out]; exact (Kept.refl _ _).alloc _
  have hb : W.heap[w.heap.size]? = some (BS s (.slice so sn sc)) := by rw [HWd.out]; exact World.alloc_heap_new w _
  have c0 : W.cell? ⟨vb, 2, none⟩ = some (.int .i64 wh) := by rw [cell_of (hkW.heap hv id)]; rfl
  have c1 : W.cell? ⟨tb, 0, none⟩ = some (.map (some M)) := by rw [cell_of (hkW.heap ht id)]; rfl
  have hl := (hM.kept hkW id).look hw
  obtain ⟨cc, HCc⟩ : ∃ cc, Hid (cnt L L.length s.h = cc) := ⟨_, rfl⟩
  rw [HCc.out] at hl ⊢
  have HF : Hid _ := fitsAge_any s so sn sc wh (decide (0 < cc)) W
  obtain ⟨sh, sk, sw, sr, ssl, sf, c, a⟩ := s
  dsimp only at HF hl hb ⊢
  have HK : Hid (Kept No w W) := hkW
  have d0 : W.cell? ⟨w.heap.size, 0, none⟩ = some (.int .i64 sh) := by rw [cell_of hb]; rfl
  have d1 : W.cell? ⟨w.heap.size, 1, none⟩ = some (.int .i64 sk) := by rw [cell_of hb]; rfl
  have d2 : W.cell? ⟨w.heap.size, 2, none⟩ = some (.int .i64 sw) := by rw [cell_of hb]; rfl
  have d3 : W.cell? ⟨w.heap.size, 3, none⟩ = some (.int .i64 sr) := by rw [cell_of hb]; rfl
  have d4 : W.cell? ⟨w.heap.size, 4, none⟩ = some (.slice so sn sc) := by rw [cell_of hb]; rfl
  have d5 : W.cell? ⟨w.heap.size, 5, none⟩ = some (.int .i64 sf) := by rw [cell_of hb]; rfl
  have d6 : W.cell? ⟨w.heap.size, 6, none⟩ = some (.int .i64 c) := by rw [cell_of hb]; rfl
  have d7 : W.cell? ⟨w.heap.size, 7, none⟩ = some (.int .i64 a) := by rw [cell_of hb]; rfl
  clear hkW hb hv ht hM HCc
  go_enter Try.func30, Try.ntmps30
  go_wp2_with (first | rw [← HWd.out])
  go_at_call 31
  refine Calls.mono HF.out ?_
  rintro e w2 ⟨rfl, hk2⟩
  have HK2 : Hid (Kept No w w2) := HK.out.trans hk2
  clear hk2
  go_wp2
  go_ret
  exact ⟨rfl, HK2.out⟩

set_option maxRecDepth 20000 in
set_option maxHeartbeats 2000000 in
theorem gen2_any (s t : Sn) (so : Option Addr) (sn sc : Nat) (to : Option Addr) (tn tc : Nat) (w : World) :
    Calls Try.prog 32 #[AS s (.slice so sn sc), AS t (.slice to tn tc)] w fun e w' => e = .returned (.bool (tooY s.age t.age)) ∧ Kept No w w' := by
  have HK : Hid (∀ o o', Kept No w ((w.alloc o).alloc o')) := fun o o' => ((Kept.refl _ _).alloc _).alloc _
  obtain ⟨sh, sk, sw, sr, ssl, sf, c, a⟩ := s
  obtain ⟨th, tk, tw, tr, tsl, tf, tc', ta⟩ := t
  dsimp only
  have HT : Hid (∀ W, Calls Try.prog 33 #[.int .i64 a, .int .i64 ta] W fun e w' => e = .returned (.bool (tooY a ta)) ∧ W = w') := fun W => tooYoung_any a ta W
  obtain ⟨r, hr⟩ : ∃ r, tooY a ta = r := ⟨_, rfl⟩
  rw [hr] at HT ⊢
  clear hr
  go_enter Try.func32, Try.ntmps32
  go_wp2_with (go_at_call 33; refine (HT.out _).mono ?_; rintro e w' ⟨rfl, rfl⟩)
  go_ret
  exact ⟨rfl, HK.out _ _⟩
theorem str1_any (s : Sn) (so : Option Addr) (sn sc : Nat) (w : World) :
    Calls Try.prog 35 #[AS s (.slice so sn sc)] w fun e w' => e = .returned (.bool true) ∧ Kept No w w' := by
  have HK : Hid (∀ o, Kept No w (w.alloc o)) := fun o => (Kept.refl _ _).alloc _
  obtain ⟨sh, sk, sw, sr, ssl, sf, c, a⟩ := s
  go_enter Try.func35, Try.ntmps35
  go_wp2
  go_ret
  exact ⟨rfl, HK.out _⟩
theorem str3_any (s t : Sn) (so : Option Addr) (sn sc : Nat) (to : Option Addr) (tn tc : Nat) (w : World) :
    Calls Try.prog 36 #[AS s (.slice so sn sc), AS t (.slice to tn tc)] w fun e w' => e = .returned (.bool false) ∧ Kept No w w' := by
  have HK : Hid (∀ o o', Kept No w ((w.alloc o).alloc o')) := fun o o' => ((Kept.refl _ _).alloc _).alloc _
  obtain ⟨sh, sk, sw, sr, ssl, sf, c, a⟩ := s
  obtain ⟨th, tk, tw, tr, tsl, tf, tc', ta⟩ := t
  go_enter Try.func36, Try.ntmps36
  go_wp2
  go_ret
  exact ⟨rfl, HK.out _ _⟩
theorem pau_any {w : World} {vb : Nat} {md ph wh : Int} {sv gv av pv : Value} (hv : w.heap[vb]? = some (BV md ph wh sv gv av pv)) (s : Sn) (so : Option Addr) (sn sc : Nat) :
    Calls Try.prog 37 #[AS s (.slice so sn sc), PT vb] w fun e w' => e = .returned (.bool (!decide (s.col = wh))) ∧ Kept No w w' := by
  have HK : Hid (∀ o, Kept No w (w.alloc o)) := fun o => (Kept.refl _ _).alloc _
  have c0 : ∀ o, (w.alloc o).cell? ⟨vb, 2, none⟩ = some (.int .i64 wh) := fun o => by rw [cell_of ((HK.out o).heap hv id)]; rfl
  obtain ⟨sh, sk, sw, sr, ssl, sf, c, a⟩ := s
  dsimp only
  clear hv
  by_cases h : c = wh
  all_goals
    go_enter Try.func37, Try.ntmps37
    go_wp2
    go_ret
    exact ⟨by simp [h], HK.out _⟩
set_option maxRecDepth 20000 in
set_option maxHeartbeats 2000000 in
theorem inc1_any {w : World} {vb fb : Nat} {md ph wh : Int} {sv gv av pv : Value} (hv : w.heap[vb]? = some (BV md ph wh sv gv av pv)) (hf : w.heap[fb]? = some (.cells #[Fc 37 #[PT vb]] 44)) (s : Sn) (so : Option Addr) (sn sc : Nat) :
    Calls Try.prog 28 #[AS s (.slice so sn sc), PT fb] w fun e w' => e = .returned (.bool (!decide (s.age = 0) || !decide (s.col = wh))) ∧ Kept No w w' := by
  obtain ⟨W, HWd⟩ : ∃ W, Hid (W = w.alloc (BS s (.slice so sn sc))) := ⟨_, rfl⟩
  have hkW : Kept No w W := by rw [HWd.out]; exact (Kept.refl _ _).alloc _
  have hb : W.heap[w.heap.size]? = some (BS s (.slice so sn sc)) := by rw [HWd.out]; exact World.alloc_heap_new w _
  have c1 : W.cell? ⟨fb, 0, none⟩ = some (Fc 37 #[PT vb]) := by rw [cell_of (hkW.heap hf id)]; rfl
  have HF : Hid _ := pau_any (hkW.heap hv id) s so sn sc
  obtain ⟨sh, sk, sw, sr, ssl, sf, c, a⟩ := s
  dsimp only at HF hb ⊢
  have HK : Hid (Kept No w W) := hkW
  have d0 : W.cell? ⟨w.heap.size, 0, none⟩ = some (.int .i64 sh) := by rw [cell_of hb]; rfl
  have d1 : W.cell? ⟨w.heap.size, 1, none⟩ = some (.int .i64 sk) := by rw [cell_of hb]; rfl
  have d2 : W.cell? ⟨w.heap.size, 2, none⟩ = some (.int .i64 sw) := by rw [cell_of hb]; rfl
  have d3 : W.cell? ⟨w.heap.size, 3, none⟩ = some (.int .i64 sr) := by rw [cell_of hb]; rfl
  have d4 : W.cell? ⟨w.heap.size, 4, none⟩ = some (.slice so sn sc) := by rw [cell_of hb]; rfl
  have d5 : W.cell? ⟨w.heap.size, 5, none⟩ = some (.int .i64 sf) := by rw [cell_of hb]; rfl
  have d6 : W.cell? ⟨w.heap.size, 6, none⟩ = some (.int .i64 c) := by rw [cell_of hb]; rfl
  have d7 : W.cell? ⟨w.heap.size, 7, none⟩ = some (.int .i64 a) := by rw [cell_of hb]; rfl
  clear hkW hb hv hf
  obtain ⟨r, hr⟩ : ∃ r, (!decide (c = wh)) = r := ⟨_, rfl⟩
  rw [hr] at HF ⊢
  clear hr
  by_cases h0 : a = 0
  · subst h0
    go_enter Try.func28, Try.ntmps28
    go_wp2_with (first | rw [← HWd.out])
    go_at_call 37
    refine Calls.mono HF.out ?_
    rintro e w2 ⟨rfl, hk2⟩
    have HK2 : Hid (Kept No w w2) := HK.out.trans hk2
    clear hk2
    go_wp2
    go_ret
    exact ⟨by simp, HK2.out⟩
  · go_enter Try.func28, Try.ntmps28
    go_wp2_with (first | rw [← HWd.out])
    go_ret
    exact ⟨by simp [h0], HK.out⟩
end Go.Proofs.Ytnihfakhijjjkaa
