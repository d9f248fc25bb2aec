/- The document's Quote. -/
import Derived.Test.YtinhfgpcgbnhdaaT6
import Derived.Deep.QuietTactic
import Derived.BigQuiet
namespace Go.Proofs.Ytinhfgpcgbnhdaa
open Go.RowKit

theorem str_size (l : List Nat) : (str l).size = l.length := by unfold str; rw [strOfNums_size, List.length_map]

theorem str_append (a b : List Nat) : str (a ++ b) = str a ++ str b := by
  apply Go.WideShapes.bytes_inj
  simp [str, strOfNums_data]

theorem digs_cut : ∀ i, i < 16 → digs.extract i (i + 1) = str [dg i] := by decide +kernel
theorem esc_str : (⟨#[92, 120]⟩ : ByteArray) = str [92, 120] := by decide +kernel

set_option maxHeartbeats 1000000 in
theorem one_any (c : Nat) (w : World) (hc : c < 256) :
    Calls Try.prog 32 #[.int .u8 c] w fun e w' => e = .returned (.string (str (qb c))) ∧ Below w.heap.size w w' := by
  cases hp : pl c
  · have HQ : Hid (qb c = [92, 120, dg (c / 16), dg (c % 16)]) := qb_hex hp
    obtain ⟨h, hh⟩ : ∃ h : Nat, h = c / 16 := ⟨_, rfl⟩
    obtain ⟨l, hl⟩ : ∃ l : Nat, l = c % 16 := ⟨_, rfl⟩
    have h1 : (c : Int) / 16 = (h : Int) := by omega
    have l1 : (c : Int) % 16 = (l : Int) := by omega
    have HH : Hid (h = c / 16) := hh
    have HL : Hid (l = c % 16) := hl
    have h2 : h < 16 := by omega
    have l2 : l < 16 := by omega
    clear hh hl
    have h3 : (0 : Int) ≤ (h : Int) := by omega
    have h4 : (h : Int) < 16 := by omega
    have l3 : (0 : Int) ≤ (l : Int) := by omega
    have l4 : (l : Int) < 16 := by omega
    go_enter Try.func32, Try.ntmps32
    go_wp2_with (first | (go_at_call 35; refine (RPlain_any _ _).mono ?_; rintro e w' ⟨rfl, rfl⟩))
    have HE : Hid (str (qb c) = (⟨#[92, 120]⟩ : ByteArray) ++ digs.extract h (h + 1) ++ digs.extract l (l + 1)) := by
      show _ = _
      rw [HQ.out, ← HH.out, ← HL.out, digs_cut h h2, digs_cut l l2, esc_str, ← str_append, ← str_append]; rfl
    clear HQ HH HL
    go_quiet (fail)
    go_wp2
    go_ret
    exact ⟨by rw [HE.out]; rfl, below_drewN (Below.refl _ _) _⟩
  · have HQ : Hid (str (qb c) = strOfNums [(c : Int)]) := by show _ = _; rw [qb_plain hp]; rfl
    have hcv := run_convert_bytes_arg (P := Try.prog) (w.alloc (.cells #[.int .u8 c] 5)) 48 5 Try.underlying48 Try.underlying5 w.heap.size 0 1 1 [(c : Int)] rfl (fun i hi => by
      have : i = 0 := by omega
      subst this
      rw [World.cell?_alloc_at _ _ _ _ rfl]; rfl) 9 Try.underlying9
    go_enter Try.func32, Try.ntmps32
    go_wp2_with (first | (go_at_call 35; refine (RPlain_any _ _).mono ?_; rintro e w' ⟨rfl, rfl⟩))
    go_ret
    rw [HQ.out]
    exact ⟨rfl, (Below.refl _ _).alloc (Nat.le_refl _) _⟩
theorem bl_nat (s : ByteArray) (k : Nat) (h : k < s.size) : s[k].toNat < 256 := UInt8.toNat_lt _

set_option maxHeartbeats 1000000 in
theorem RQuote_any (s : ByteArray) (w : World) (hs : s.size ≤ 3000) :
    Calls Try.prog 25 #[.string s] w fun e w' => e = .returned (.string (str (quoteL (bl s)))) ∧ Below w.heap.size w w' := by
  go_enter Try.func25, Try.ntmps25
  go_wp2_with fail
  go_loopw [3, 4] (fun o i wr => ∃ (k : Nat) (t : ByteArray), k ≤ s.size ∧ i = .int .i64 k ∧ o = .string t ∧ t.size ≤ 4 * k + 1 ∧ Hid (t = str (34 :: qin ((bl s).take k))) ∧ Hid (Below w.heap.size w wr)) (fun _ i _ => s.size - (intOf i).toNat)
  case atStart => exact ⟨0, ⟨#[34]⟩, Nat.zero_le _, rfl, rfl, by decide, (show (⟨#[34]⟩ : ByteArray) = str [34] by decide +kernel), Below.refl _ _⟩
  case round =>
    obtain ⟨k, t, hk, rfl, rfl, ht, HT, HB⟩ := hrel
    by_cases hlt : k < s.size
    · have HS : Hid (qin ((bl s).take (k + 1)) = qin ((bl s).take k) ++ qb s[k].toNat) := qin_snoc s k hlt
      obtain ⟨u, hu⟩ : ∃ u, u = str (qb s[k].toNat) := ⟨_, rfl⟩
      have HU : Hid (u = str (qb s[k].toNat)) := hu
      have hul : u.size ≤ 4 := by rw [hu, str_size]; exact (qb_len _).2
      clear hu
      go_wp2_with (first | (go_at_call 32; refine (one_any s[k].toNat wr (UInt8.toNat_lt _)).mono ?_; rintro e w3 ⟨rfl, hb3⟩; rw [← HU.out]))
      have HT' : Hid (t ++ u = str (34 :: qin ((bl s).take (k + 1)))) := by
        show _ = _; rw [HS.out, HT.out, HU.out, ← str_append]; rfl
      have HB' : Hid (Below w.heap.size w w3) := HB.out.trans (hb3.mono HB.out.size)
      go_roundw
      case rel => exact ⟨k + 1, t ++ u, by omega, by go_num, rfl, by rw [ByteArray.size_append]; omega, HT'.out, HB'.out⟩
      case measure => simp [intOf]; omega
    · have he : k = s.size := by omega
      subst he
      have HT' : Hid (t ++ (⟨#[34]⟩ : ByteArray) = str (quoteL (bl s))) := by
        have h := HT.out; rw [List.take_of_length_le (by rw [bl_len]; exact Nat.le_refl _)] at h
        show _ = _; rw [h, show (⟨#[34]⟩ : ByteArray) = str [34] by decide +kernel, ← str_append]; rfl
      clear HT
      go_wp2
      go_ret
      exact ⟨by rw [← HT'.out]; rfl, HB.out⟩

theorem beq_toList (a : ByteArray) : (a.toList == a.toList) = true := by simp

set_option maxHeartbeats 1000000 in
theorem TextQuotes_any (s : ByteArray) (w : World) (hs : s.size ≤ maxLen) :
    Calls Try.prog 6 #[.string s] w fun e w' => e = .returned (.bool true) ∧ Below w.heap.size w w' := by
  unfold maxLen at hs
  by_cases hb : (3000 : Int) < (s.size : Int)
  · go_enter Try.func6, Try.ntmps6
    go_wp2
    go_ret
    exact ⟨rfl, Below.refl _ _⟩
  · have h3 : s.size ≤ 3000 := by omega
    obtain ⟨Q, hQ⟩ : ∃ Q, Q = str (quoteL (bl s)) := ⟨_, rfl⟩
    have q1 := Quote_any s
    have q2 := RQuote_any s
    rw [← hQ] at q1 q2
    clear hQ
    have hq := beq_toList Q
    have Q1 : Hid (∀ w, s.size ≤ 3000 → Calls Try.prog 24 #[.string s] w fun e w' => e = .returned (.string Q) ∧ Below w.heap.size w w') := q1
    have Q2 : Hid (∀ w, s.size ≤ 3000 → Calls Try.prog 25 #[.string s] w fun e w' => e = .returned (.string Q) ∧ Below w.heap.size w w') := q2
    clear q1 q2
    go_enter Try.func6, Try.ntmps6
    go_wp2_with (first | (go_at_call 11; refine (alive_any _).mono ?_; rintro e w3 ⟨rfl, hb3⟩) | (go_at_call 24; refine (Q1.out _ h3).mono ?_; rintro e w1 ⟨rfl, hb1⟩) | (go_at_call 25; refine (Q2.out _ h3).mono ?_; rintro e w2 ⟨rfl, hb2⟩))
    go_ret
    exact ⟨rfl, (hb1.trans (hb2.mono hb1.size)).trans (hb3.mono (Nat.le_trans hb1.size hb2.size))⟩
end Go.Proofs.Ytinhfgpcgbnhdaa
