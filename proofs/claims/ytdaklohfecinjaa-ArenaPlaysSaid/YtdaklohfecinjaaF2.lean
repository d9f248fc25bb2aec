/- made: an arena behind some calls. -/
import Derived.Test.YtdaklohfecinjaaF1
namespace Go.Proofs.Ytdaklohfecinjaa
open Go.RowKit
set_option linter.unusedSimpArgs false
set_option linter.unusedVariables false

/-- The calls that a slice holds. -/
def Acts (w : World) (v : Value) (L : List (Int × Int × Int × Int)) : Prop :=
  ∃ ao cap, v = .slice ao L.length cap ∧ (∀ a ∈ L, wf a.2.1) ∧ (0 < L.length → ∃ b off, ao = some ⟨b, off, none⟩ ∧ ∀ i (hi : i < L.length),
    w.cell? ⟨b, off + i * 4, none⟩ = some (.int .i64 L[i].1) ∧ w.cell? ⟨b, off + i * 4 + 1, none⟩ = some (.int .i64 L[i].2.1) ∧ w.cell? ⟨b, off + i * 4 + 2, none⟩ = some (.int .i64 L[i].2.2.1) ∧ w.cell? ⟨b, off + i * 4 + 3, none⟩ = some (.int .i64 L[i].2.2.2))

theorem Kept.cell {w w' : World} (h : Kept No w w') {b o : Nat} {v : Value} (hc : w.cell? ⟨b, o, none⟩ = some v) : w'.cell? ⟨b, o, none⟩ = some v := by
  cases e : w.heap[b]? with
  | none => simp [World.cell?, e] at hc
  | some ob =>
    have := h.heap e id
    simp only [World.cell?, e, this] at hc ⊢
    exact hc

theorem Pl.kept {w0 w : World} {A size n : Nat} (h : Pl w0 w A size n) : Kept No w0 w := by
  obtain ⟨hb, C, M, F, f, least, cs, hR, hfp, hk0⟩ := h
  exact hk0

set_option maxHeartbeats 1000000 in
theorem made_none (size : Int) (v : Value) (L : List (Int × Int × Int × Int)) (w : World) (hL : Acts w v L) (hs : rl size = false) :
    Calls Try.prog 22 #[.int .i64 size, v] w fun e w' => e = .returned (.pointer none) ∧ w = w' := by
  obtain ⟨ao, cap, rfl, _, _⟩ := hL
  go_enter Try.func22, Try.ntmps22
  go_wp2_with (first | (go_at_call 12; refine (New_arg _ hs _).mono ?_; rintro e w' ⟨rfl, rfl⟩) | (go_at_call 14; refine (no_any _ _).mono ?_; rintro e w' ⟨rfl, rfl⟩))
  go_ret
  exact ⟨rfl, rfl⟩

set_option maxHeartbeats 1000000 in
theorem made_many (size : Nat) (v : Value) (L : List (Int × Int × Int × Int)) (w : World) (hL : Acts w v L) (hs : rl size = true) (hn : ¬ L.length ≤ 80) :
    Calls Try.prog 22 #[.int .i64 size, v] w fun e w' => e = .returned (.pointer none) ∧ Kept No w w' := by
  obtain ⟨ao, cap, rfl, _, _⟩ := hL
  have hn' : ¬ (L.length : Int) ≤ 80 := by omega
  have HN := Re.new size hs
  go_enter Try.func22, Try.ntmps22
  go_wp2_with fail
  refine (HN w).mono ?_
  rintro e w1 ⟨A, rfl, h1⟩
  have H1 : Hid (Pl w w1 A size 0) := ⟨_, h1⟩
  clear h1
  go_wp2_with (go_at_call 14; refine (no_any _ _).mono ?_; rintro e w' ⟨rfl, rfl⟩)
  go_ret
  exact ⟨rfl, H1.out.kept⟩

set_option maxHeartbeats 2000000 in
theorem made_some (size : Nat) (v : Value) (L : List (Int × Int × Int × Int)) (w : World) (hL : Acts w v L) (hs : rl size = true) (hn : L.length ≤ 80) :
    Calls Try.prog 22 #[.int .i64 size, v] w fun e w' => ∃ A, e = .returned (.pointer (some ⟨A, 0, none⟩)) ∧ Pl w w' A size 80 := by
  obtain ⟨ao, cap, rfl, hwf, hcl⟩ := hL
  have hn' : (L.length : Int) ≤ 80 := by omega
  have HW : Hid (∀ a ∈ L, wf a.2.1) := hwf
  have HC : Hid (0 < L.length → ∃ b off, ao = some ⟨b, off, none⟩ ∧ ∀ i (hi : i < L.length),
    w.cell? ⟨b, off + i * 4, none⟩ = some (.int .i64 L[i].1) ∧ w.cell? ⟨b, off + i * 4 + 1, none⟩ = some (.int .i64 L[i].2.1) ∧ w.cell? ⟨b, off + i * 4 + 2, none⟩ = some (.int .i64 L[i].2.2.1) ∧ w.cell? ⟨b, off + i * 4 + 3, none⟩ = some (.int .i64 L[i].2.2.2)) := hcl
  have HN := Re.new size hs
  clear hwf hcl
  go_enter Try.func22, Try.ntmps22
  go_wp2_with fail
  refine (HN w).mono ?_
  rintro e w1 ⟨A, rfl, h1⟩
  have H1 : Hid (Pl w w1 A size 0) := ⟨_, h1⟩
  clear h1 HN
  go_wp2_with (go_at_call 14; refine (no_any _ _).mono ?_; rintro e w' ⟨rfl, rfl⟩)
  go_loopw [7] (fun i wr => ∃ k : Nat, k ≤ L.length ∧ i = .int .i64 k ∧ Hid (Pl w wr A size k)) (fun i _ => L.length - (intOf i).toNat)
  case atStart => exact ⟨0, Nat.zero_le _, rfl, H1.out⟩
  case round =>
    obtain ⟨k, hk, rfl, HP⟩ := hrel
    by_cases hlt : k < L.length
    · have k1 : (0 : Int) ≤ (k : Int) := by omega
      have k2 : (k : Int) < (L.length : Int) := by omega
      obtain ⟨b, off, rfl, hcell⟩ := HC.out (by omega)
      obtain ⟨c0, c1, c2, c3⟩ := hcell k hlt
      have hkk := HP.out.kept
      have d0 := hkk.cell c0
      have d1 := hkk.cell c1
      have d2 := hkk.cell c2
      have d3 := hkk.cell c3
      have HWk : Hid (wf L[k].2.1) := HW.out _ (List.getElem_mem hlt)
      clear hcell c0 c1 c2 c3 hkk
      generalize L[k].1 = kd at *
      generalize L[k].2.1 = hh at *
      generalize L[k].2.2.1 = mm at *
      generalize L[k].2.2.2 = xx at *
      go_wp2_with fail
      refine (play_any kd hh mm xx HWk.out wr HP.out (by omega)).mono ?_
      rintro e w2 ⟨⟨v, rfl⟩, h2⟩
      have H2 : Hid (Pl w w2 A size (k + 1)) := h2
      clear h2
      go_wp2
      go_roundw
      case rel => exact ⟨k + 1, by omega, by go_num, H2.out⟩
      case measure => simp [intOf]; omega
    · have hk2 : ¬ (k : Int) < (L.length : Int) := by omega
      have HF : Hid (Pl w wr A size 80) := HP.out.mono (by omega)
      go_wp2
      go_ret
      exact ⟨A, rfl, HF.out⟩
end Go.Proofs.Ytdaklohfecinjaa
