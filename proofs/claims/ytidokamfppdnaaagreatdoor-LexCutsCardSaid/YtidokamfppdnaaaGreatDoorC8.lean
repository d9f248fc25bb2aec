/- A sign. -/
import Derived.Test.YtidokamfppdnaaaGreatDoorC7
import Derived.Deep.MidRow
namespace Go.Proofs.YtidokamfppdnaaaGreatDoor
open Go.RowKit
set_option linter.unusedSimpArgs false
set_option linter.unusedVariables false

/-- The signs. -/
def sgs : List (List UInt8) := [[47, 47], [46, 46], [61, 61], [126, 61], [60, 61], [62, 61], [43], [45], [42], [47], [37], [60], [62], [61], [40], [41], [123], [125], [91], [93], [44], [59], [46], [35]]
def sgV : List Value := sgs.map fun g => .string ⟨g.toArray⟩
/-- .. as they lie in memory. -/
def SgIs (w : World) : Prop := w.rangeAt 0 0 sgV
theorem cell_kept {w w' : World} {b o : Nat} {v : Value} (h : w.cell? ⟨b, o, none⟩ = some v) (hk : Kept No w w') : w'.cell? ⟨b, o, none⟩ = some v := by
  cases hb : w.heap[b]? with
  | none => simp [World.cell?, hb] at h
  | some o' => rw [← h]; simp [World.cell?, hb, hk.heap hb id]
theorem SgIs.no {w w' : World} (h : SgIs w) (hk : Kept No w w') : SgIs w' := fun j v hv => cell_kept (h j v hv) hk
theorem sgV_size : sgV.toArray.size = 24 := by decide
theorem sgV_at {j : Nat} (h : j < 24) : sgV.toArray[j]'(by rw [sgV_size]; exact h) = .string ⟨(sgs[j]'h).toArray⟩ := by
  simp [sgV]; rfl
theorem sgs_le : ∀ g ∈ sgs, g.length ≤ 2 ∧ 1 ≤ g.length := by decide
theorem hp_len {l g : List UInt8} (h : Lib.hasPrefix l g = true) : g.length ≤ l.length := by
  rw [← Lib.hasPrefix_of_take] at h; simp at h; exact h.1
theorem index73 (A : Array Value) (j : Nat) (h : j < 24) (hs : A.size = 24) (w : World) (t : ByteArray) (ht : A[j]'(by rw [hs]; exact h) = .string t) : (Instr.index 62 (.agg A) (.int .i64 (j : Int))).run Tryz.prog w = .ok (.string t) w := by
  have h1 : ((j : Int) < 24) := by omega
  have h2 : A[j]? = some (.string t) := by rw [Array.getElem?_eq_getElem (by rw [hs]; exact h), ht]
  simp [Instr.index, go_sem, h1, h2]
  intro h3; omega
/-- The first of some signs that a text begins with. -/
def sgF (l : List UInt8) (G : List (List UInt8)) : Option (List UInt8) := G.find? (fun g => Lib.hasPrefix l g)

set_option maxRecDepth 20000 in
set_option maxHeartbeats 2000000 in
theorem sign_is {w : World} {c : Nat} {s : ByteArray} (h : Cu w c s) (hg : SgIs w) (k : Nat) (hk : k < s.size) (hs : s.size ≤ 8192) (X : Tk) (hX : X = match sgF ((bl s).drop k) sgs with | some g => ⟨5, s.extract k (k + g.length), 0, 0, ⟨#[]⟩, k, (k + g.length : Nat)⟩ | none => t0) :
    Calls Tryz.prog 19 #[.pointer (some ⟨c, 0, none⟩), .int .i64 (k : Int)] w fun r w' => r = .returned (.tuple #[tv X, .int .i64 0]) ∧ Kept No w w' := by
  obtain ⟨W, HW⟩ : ∃ W, Hid (W = w.alloc (.cells #[.int .i64 0, .string ⟨#[]⟩, .int .i64 0, .int .i64 0, .string ⟨#[]⟩, .int .i64 0, .int .i64 0] 38)) := ⟨_, show _ = _ from rfl⟩
  have HC : Hid (Cu W c s) := by show Cu _ _ _; rw [HW.out]; exact h.no ((Kept.refl No w).alloc _)
  have HK : Hid (Kept No w W) := by show Kept _ _ _; rw [HW.out]; exact (Kept.refl No w).alloc _
  have HR0 : Hid (W.heap[w.heap.size]? = some (tb t0)) := by show _ = _; rw [HW.out]; exact World.alloc_heap_new w _
  obtain ⟨A, HA⟩ : ∃ A : Array Value, Hid (sgV.toArray = A) := ⟨_, show _ = _ from rfl⟩
  have HAs : Hid (A.size = 24) := by show _ = _; rw [← HA.out]; exact sgV_size
  have HAi : Hid (∀ j (h : j < 24), A[j]'(by rw [HAs.out]; exact h) = .string ⟨(sgs[j]'h).toArray⟩) := by
    have e := HA.out; subst e; exact fun j h => sgV_at h
  have HG : Hid (∀ o, SgIs (w.alloc o)) := fun o => hg.no ((Kept.refl No w).alloc o)
  obtain ⟨R, HRR⟩ : ∃ R, Hid (w.heap.size = R) := ⟨_, show _ = _ from rfl⟩
  rw [HRR.out] at HR0
  have c0 := HC.out.src
  have HX : Hid (X = _) := hX
  have HKK : Hid (Kept No w W ∧ w.heap.size ≤ R) := ⟨HK.out, by rw [HRR.out]; exact Nat.le_refl _⟩
  have q1 : (k : Int) ≤ (s.size : Int) := by omega
  have HHP : Hid (∀ (g : List UInt8) w, Calls Tryz.prog 21 #[.string (s.extract k s.size), .string ⟨g.toArray⟩] w fun e w' => e = .returned (.bool (Lib.hasPrefix ((bl s).drop k) g)) ∧ w = w') := fun g w => by
    refine (Tryz.strings_HasPrefix (s.extract k s.size) ⟨g.toArray⟩ w).mono ?_
    rintro e w' ⟨he, hw⟩
    refine ⟨?_, hw.symm⟩
    rw [he, ← bl_from]
  clear h hg hX HK
  go_enter Tryz.func19, Tryz.ntmps19
  go_wp2_with (refine wpList_load_mid rfl 62 _ rfl 0 0 rfl sgV _ (HG.out _) Tryz.underlying62 rfl (by kernel_rfl) ?_)
  rw [← HW.out, HA.out, HRR.out]
  clear HG HW HA HRR
  go_loop [9] (fun i => ∃ j : Nat, j ≤ 24 ∧ i = .int .i64 j ∧ Hid (sgF ((bl s).drop k) (sgs.drop j) = sgF ((bl s).drop k) sgs)) (fun i => 24 - (intOf i).toNat)
  case atStart => exact ⟨0, by omega, rfl, rfl⟩
  case round =>
    obtain ⟨j, hj, rfl, HJ⟩ := hrel
    by_cases hlt : j < 24
    · have dlt : decide ((j : Int) < 24) = true := decide_eq_true (by omega)
      have hAi := fun w => index73 A j hlt HAs.out w _ (HAi.out j hlt)
      have Hd : Hid (sgs.drop j = sgs[j] :: sgs.drop (j + 1)) := List.drop_eq_getElem_cons hlt
      have Hle : Hid ((sgs[j]).length ≤ 2) := (sgs_le _ (List.getElem_mem hlt)).1
      have HP : Hid (∀ w, _) := HHP.out sgs[j]
      generalize sgs[j] = g at hAi Hd HP Hle
      cases hp : Lib.hasPrefix ((bl s).drop k) g with
      | false =>
        have HJ2 : Hid (sgF ((bl s).drop k) (sgs.drop (j + 1)) = sgF ((bl s).drop k) sgs) := by
          show _ = _
          rw [← HJ.out, Hd.out]
          unfold sgF
          rw [List.find?_cons, hp]
        rw [hp] at HP
        clear HJ Hd hp
        go_wp2_with (go_at_call 21; refine Calls.mono (HP.out _) ?_; rintro e w' ⟨rfl, rfl⟩)
        go_round
        case rel => exact ⟨j + 1, by omega, by go_num, HJ2⟩
        case measure => simp [intOf] <;> omega
      | true =>
        have HF : Hid (sgF ((bl s).drop k) sgs = some g) := by
          show _ = _
          rw [← HJ.out, Hd.out]
          unfold sgF
          rw [List.find?_cons, hp]
        rw [hp] at HP
        have HXX : Hid (X = ⟨5, s.extract k (k + g.length), 0, 0, ⟨#[]⟩, k, (k + g.length : Nat)⟩) := by show _ = _; rw [HX.out, HF.out]
        have hgl : k + g.length ≤ s.size := by
          have := hp_len hp
          rw [List.length_drop, bl_len] at this; omega
        have hgz : (⟨g.toArray⟩ : ByteArray).size = g.length := by simp [ByteArray.size]
        have u1 : IntKind.i64.wrap ((k : Int) + (g.length : Int)) = (k : Int) + (g.length : Int) := by have := Hle.out; rw [IntKind.wrap_i64]; omega
        clear HJ Hd hp HF HX
        go_wp2_with (first | (go_at_call 21; refine Calls.mono (HP.out _) ?_; rintro e w' ⟨rfl, rfl⟩) | fail)
        rw [show (k : Int) + (g.length : Int) = ((k + g.length : Nat) : Int) from by omega]
        refine (cut_any HC.out 5 k (k + g.length) (by omega) (by omega) (by omega)).mono ?_
        rintro e W1 ⟨rfl, hk1⟩
        have HRx : Hid (W1.heap[R]? = some (tb t0)) := hk1.heap HR0.out id
        have HKf : Hid (Kept No w W1) := HKK.out.1.trans hk1
        obtain ⟨r3, r4, r5, r6, r7, r8, r9⟩ := tb_cells HRx.out
        have t2' := fun o => tb_frozen HRx.out o
        dsimp only [t0] at r3 r4 r5 r6 r7 r8 r9
        clear hk1 HRx HR0 HC c0
        unfold tv
        dsimp only
        go_wp2_with fail
        refine bodyPost_ret (v := .tuple #[tv ⟨5, s.extract k (k + g.length), 0, 0, ⟨#[]⟩, k, (k + g.length : Nat)⟩, .int .i64 0]) (by simp [results, Tryz.results19, go_sem, tv, t0, r3, r4, r5, r6, r7, r8, r9]) rfl ⟨by rw [HXX.out], ?_⟩
        exact HKf.out.set _ _ _ (Or.inr HKK.out.2)|>.set _ _ _ (Or.inr HKK.out.2)|>.set _ _ _ (Or.inr HKK.out.2)|>.set _ _ _ (Or.inr HKK.out.2)|>.set _ _ _ (Or.inr HKK.out.2)|>.set _ _ _ (Or.inr HKK.out.2)|>.set _ _ _ (Or.inr HKK.out.2)
    · obtain rfl : j = 24 := by omega
      have dlt : decide ((24 : Int) < 24) = false := by decide
      have HXX : Hid (X = t0) := by show _ = _; rw [HX.out, ← HJ.out]; rfl
      have HRx := HR0
      obtain ⟨r3, r4, r5, r6, r7, r8, r9⟩ := tb_cells HRx.out
      have t2' := fun o => tb_frozen HRx.out o
      dsimp only [t0] at r3 r4 r5 r6 r7 r8 r9

      clear HJ HX
      go_wp2_with fail
      refine bodyPost_ret (v := .tuple #[tv t0, .int .i64 0]) (by simp [results, Tryz.results19, go_sem, tv, t0, r3, r4, r5, r6, r7, r8, r9]) rfl ⟨by rw [HXX.out], ?_⟩
      exact HKK.out.1.set _ _ _ (Or.inr HKK.out.2)|>.set _ _ _ (Or.inr HKK.out.2)|>.set _ _ _ (Or.inr HKK.out.2)|>.set _ _ _ (Or.inr HKK.out.2)|>.set _ _ _ (Or.inr HKK.out.2)|>.set _ _ _ (Or.inr HKK.out.2)|>.set _ _ _ (Or.inr HKK.out.2)

/-- What sign tells. -/
def sgX (s : ByteArray) (k : Nat) : Tk := match sgF ((bl s).drop k) sgs with | some g => ⟨5, s.extract k (k + g.length), 0, 0, ⟨#[]⟩, k, (k + g.length : Nat)⟩ | none => t0
theorem sign_any {w : World} {c : Nat} {s : ByteArray} (h : Cu w c s) (hg : SgIs w) (k : Nat) (hk : k < s.size) (hs : s.size ≤ 8192) :
    Calls Tryz.prog 19 #[.pointer (some ⟨c, 0, none⟩), .int .i64 (k : Int)] w fun r w' => r = .returned (.tuple #[tv (sgX s k), .int .i64 0]) ∧ Kept No w w' := sign_is h hg k hk hs _ rfl
end Go.Proofs.YtidokamfppdnaaaGreatDoor
