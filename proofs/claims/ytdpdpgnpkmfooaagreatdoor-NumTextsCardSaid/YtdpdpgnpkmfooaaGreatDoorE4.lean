/- NumTexts answers true at every value and text. -/
import Derived.Test.YtdpdpgnpkmfooaaGreatDoorE3
import Derived.Test.YtdpdpgnpkmfooaaGreatDoorB5
import Derived.Deep.RegionHeld3
namespace Go.Proofs.YtdpdpgnpkmfooaaGreatDoor
open Go.RowKit

/-- Both write the same text. -/
theorem text_same (t n : Int) (h1 : -9223372036854775808 ≤ n) (h2 : n ≤ 9223372036854775807) : ∃ S : ByteArray,
    (∀ w, TabIs4 w → Tab10 w → Calls Tryz.prog 36 #[AV t n] w fun e w' => e = .returned (.string S) ∧ Below w.heap.size w w') ∧
    (∀ w, Calls Tryz.prog 37 #[AV t n] w fun e w' => e = .returned (.string S) ∧ Below w.heap.size w w') := by
  cases hi : isNum t n
  · exact ⟨_, fun w _ _ => Text_none t n w h1 h2 hi, fun w => RText_none t n w hi⟩
  · by_cases e2 : t = 2
    · subst e2
      exact ⟨_, fun w _ h10 => Text_int n w h1 h2 h10, fun w => RText_int n w h1 h2⟩
    · have h3 : t = 3 := by
        unfold isNum at hi; simp [e2] at hi; exact hi.1
      subst h3
      exact ⟨_, fun w ht _ => Text_float n w h1 h2 hi ht, fun w => RText_float n w hi⟩

set_option maxHeartbeats 4000000 in
set_option maxRecDepth 100000 in
theorem NumTexts_any (a b : Int) (s : ByteArray) (w : World) (g1 : -9223372036854775808 ≤ b) (g2 : b ≤ 9223372036854775807) (hz : s.size ≤ 140737488351232) (ht : TabIs4 w) (h10 : Tab10 w) (he : ErrIs w) :
    Calls Tryz.prog 7 #[AV a b, .string s] w fun e w' => e = .returned (.bool true) ∧ Below w.heap.size w w' := by
  obtain ⟨S, TX0, TY0⟩ := text_same a b g1 g2
  obtain ⟨t, m, x, RX0, RY0⟩ := same_all s hz
  have TX : Hid (∀ w1, TabIs4 w1 → Below w.heap.size w w1 → Calls Tryz.prog 36 #[AV a b] w1 fun e w' => e = .returned (.string S) ∧ Below w1.heap.size w1 w') := fun w1 h hb => TX0 w1 h (tab10_below h10 hb)
  have TY : Hid (∀ w, Calls Tryz.prog 37 #[AV a b] w fun e w' => e = .returned (.string S) ∧ Below w.heap.size w w') := TY0
  have RX : Hid (∀ w1, Below w.heap.size w w1 → Calls Tryz.prog 34 #[.string s] w1 fun e w' => e = .returned (.tuple #[AV t m, .int .i64 x]) ∧ Below w1.heap.size w1 w') := fun w1 hb => RX0 w1 (err_later he hb)
  have RY : Hid (∀ w, Calls Tryz.prog 35 #[.string s] w fun e w' => e = .returned (.tuple #[AV t m, .int .i64 x]) ∧ Below w.heap.size w w') := RY0
  have hSS : (S.toList == S.toList) = true := by simp
  clear TX0 TY0 RX0 RY0 h10 he
  go_enter Tryz.func7, Tryz.ntmps7
  go_wp2_with fail
  refine (RX.out _ ((Below.refl _ _).alloc (Nat.le_refl _) _)).mono ?_
  rintro e w1 ⟨rfl, hb⟩
  have HB : Hid (Below w.heap.size w w1) := end1 hb
  have ht := cell_later hb (alC _ ht)
  have c1 := cell_later hb (new0 w (.int .i64 a) (.int .i64 b))
  have c2 := cell_later hb (new1 w (.int .i64 a) (.int .i64 b))
  clear hb RX
  have HB := alB (.cells #[(.int .i64 t), (.int .i64 m)] 23) HB
  have ht := alC (.cells #[(.int .i64 t), (.int .i64 m)] 23) ht
  have c1 := alC (.cells #[(.int .i64 t), (.int .i64 m)] 23) c1
  have c2 := alC (.cells #[(.int .i64 t), (.int .i64 m)] 23) c2
  have x0 := new0 w1 (.int .i64 t) (.int .i64 m)
  have x1 := new1 w1 (.int .i64 t) (.int .i64 m)
  go_wp2_with fail
  refine (RY.out _).mono ?_
  rintro e w2 ⟨rfl, hb⟩
  have HB := chain HB hb
  have ht := cell_later hb ht
  have c1 := cell_later hb c1
  have c2 := cell_later hb c2
  have x0 := cell_later hb x0
  have x1 := cell_later hb x1
  clear hb RY
  have HB := alB (.cells #[(.int .i64 t), (.int .i64 m)] 23) HB
  have ht := alC (.cells #[(.int .i64 t), (.int .i64 m)] 23) ht
  have c1 := alC (.cells #[(.int .i64 t), (.int .i64 m)] 23) c1
  have c2 := alC (.cells #[(.int .i64 t), (.int .i64 m)] 23) c2
  have x0 := alC (.cells #[(.int .i64 t), (.int .i64 m)] 23) x0
  have x1 := alC (.cells #[(.int .i64 t), (.int .i64 m)] 23) x1
  have y0 := new0 w2 (.int .i64 t) (.int .i64 m)
  have y1 := new1 w2 (.int .i64 t) (.int .i64 m)
  go_wp2_with fail
  generalize hA : w1.heap.size = A at *
  generalize hC : w2.heap.size = C at *
  clear hA hC
  go_region_held3 (fun w' => w'.cell? ⟨6, 15, none⟩ = some (.int .u8 4) ∧ w'.cell? ⟨w.heap.size, 0, none⟩ = some (.int .i64 a) ∧ w'.cell? ⟨w.heap.size, 1, none⟩ = some (.int .i64 b) ∧ w'.cell? ⟨A, 0, none⟩ = some (.int .i64 t) ∧ w'.cell? ⟨A, 1, none⟩ = some (.int .i64 m) ∧ w'.cell? ⟨C, 0, none⟩ = some (.int .i64 t) ∧ w'.cell? ⟨C, 1, none⟩ = some (.int .i64 m)) (go_keep)
    (first
    | (go_at_call 24; refine (no_any _ _).mono ?_; rintro e w' ⟨rfl, rfl⟩)
    | (go_at_call 36; refine (TX.out _ (by first | exact ht | assumption) (by first | exact HB.out | exact HB.out.drew)).mono ?_; rintro e wa ⟨rfl, hb⟩; have HB := (by first | exact chain HB hb | exact chain_drew HB hb : Hid (Below w.heap.size w wa)); have ht := cell_later hb (by first | exact ht | assumption); have c1 := cell_later hb (by first | exact c1 | assumption); have c2 := cell_later hb (by first | exact c2 | assumption); have x0 := cell_later hb (by first | exact x0 | assumption); have x1 := cell_later hb (by first | exact x1 | assumption); have y0 := cell_later hb (by first | exact y0 | assumption); have y1 := cell_later hb (by first | exact y1 | assumption); clear hb)
    | (go_at_call 37; refine (TY.out _).mono ?_; rintro e wa ⟨rfl, hb⟩; have HB := (by first | exact chain HB hb | exact chain_drew HB hb : Hid (Below w.heap.size w wa)); have ht := cell_later hb (by first | exact ht | assumption); have c1 := cell_later hb (by first | exact c1 | assumption); have c2 := cell_later hb (by first | exact c2 | assumption); have x0 := cell_later hb (by first | exact x0 | assumption); have x1 := cell_later hb (by first | exact x1 | assumption); have y0 := cell_later hb (by first | exact y0 | assumption); have y1 := cell_later hb (by first | exact y1 | assumption); clear hb)
    | (go_at_call 25; refine (alive_any _ (by first | exact ht | assumption)).mono ?_; rintro e wa ⟨rfl, hb⟩; have HB := (by first | exact chain HB hb | exact chain_drew HB hb : Hid (Below w.heap.size w wa)); have ht := cell_later hb (by first | exact ht | assumption); have c1 := cell_later hb (by first | exact c1 | assumption); have c2 := cell_later hb (by first | exact c2 | assumption); have x0 := cell_later hb (by first | exact x0 | assumption); have x1 := cell_later hb (by first | exact x1 | assumption); have y0 := cell_later hb (by first | exact y0 | assumption); have y1 := cell_later hb (by first | exact y1 | assumption); clear hb))
  all_goals go_wp2
  all_goals go_ret
  all_goals exact ⟨rfl, HB.out⟩
end Go.Proofs.YtdpdpgnpkmfooaaGreatDoor
