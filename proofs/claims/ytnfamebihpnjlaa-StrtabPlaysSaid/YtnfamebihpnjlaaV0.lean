/- bits.Len, nextPowerOfTwo, xorshift's Next. -/
import Derived.Test.YtnfamebihpnjlaaU9
import Derived.Lib.Small
import Derived.Lib.Walk
import Derived.Lib.BitFns
import Derived.Lib.ItoaNum
import Derived.Laws.Closers25b
namespace Go.Proofs.Ytnfamebihpnjlaa
open Go.RowKit Go.Shelf
set_option linter.unusedSimpArgs false
set_option linter.unusedVariables false
attribute [local go_sem] Oper.semAt_some

set_option maxRecDepth 100000 in
set_option maxHeartbeats 4000000 in
theorem Len64_two (x : Int) (w : World) (h0 : 256 ≤ x) (h1 : x ≤ 65535) :
    Calls Try.prog 66 #[.int .u64 x] w fun e w' => e = .returned (.int .i64 (Lib.bitLen x.toNat)) ∧ w = w' := by
  have q0 : 0 ≤ x / 256 := by omega
  have q1 : x / 256 ≤ 255 := by omega
  have l1 := Lib.len8_of (x / 256) q0 q1
  have l2 := Lib.bitLen_le8' (x / 256) q0 q1
  have HS : Hid (Lib.bitLen x.toNat = 8 + Lib.bitLen (x / 256).toNat) := by
    have := Lib.bitLen_shift8 x.toNat (by omega) (by omega)
    rw [show x.toNat / 256 = (x / 256).toNat by omega] at this
    exact this
  generalize Lib.bitLen (x / 256).toNat = b at l1 l2 HS
  go_enter Try.func66, Try.ntmps66
  go_wp2
  all_goals go_ret
  all_goals refine ⟨congrArg Ending.returned (congrArg (Value.int IntKind.i64) ?_), rfl⟩
  all_goals rw [HS.out]
  all_goals (first | omega | (go_num; done))
theorem Len64_one (x : Int) (w : World) (h0 : 0 ≤ x) (h1 : x ≤ 255) :
    Calls Try.prog 66 #[.int .u64 x] w fun e w' => e = .returned (.int .i64 (Lib.bitLen x.toNat)) ∧ w = w' := by
  have l1 := Lib.len8_of x h0 h1
  have l2 := Lib.bitLen_le8' x h0 h1
  generalize Lib.bitLen x.toNat = b at l1 l2 ⊢
  go_enter Try.func66, Try.ntmps66
  go_wp2
  all_goals go_ret
  all_goals refine ⟨congrArg Ending.returned (congrArg (Value.int IntKind.i64) ?_), rfl⟩
  all_goals (first | omega | (go_num; done) | rfl)
theorem Len64_any (n : Nat) (hn : n ≤ 65535) (w : World) :
    Calls Try.prog 66 #[.int .u64 (n : Int)] w fun e w' => e = .returned (.int .i64 (Lib.bitLen n : Nat)) ∧ w = w' := by
  rcases Nat.lt_or_ge n 256 with h | h
  · exact Len64_one (n : Int) w (by omega) (by omega)
  · exact Len64_two (n : Int) w (by omega) (by omega)
set_option maxRecDepth 20000 in
set_option maxHeartbeats 1000000 in
theorem BLen_any (n : Nat) (hn : n ≤ 65535) (w : World) : Calls Try.prog 55 #[.int .u64 (n : Int)] w fun e w' => e = .returned (.int .i64 (Lib.bitLen n : Nat)) ∧ w = w' := by
  go_enter Try.func55, Try.ntmps55
  go_wp2_with (go_at_call 66; refine (Len64_any n hn _).mono ?_; rintro e w' ⟨rfl, rfl⟩)
  go_ret
  exact ⟨rfl, rfl⟩
theorem bitLen_small (n : Nat) (hn : n ≤ 65535) : Lib.bitLen n ≤ 16 := Lib.bitLen_le n 16 (by omega) (by omega)
theorem pow_small : ∀ k, k ≤ 16 → (2 : Nat) ^ k ≤ 65536 := by decide
set_option maxRecDepth 20000 in
set_option maxHeartbeats 1000000 in
theorem npow_any (n : Nat) (h0 : 1 ≤ n) (hn : n ≤ 65535) (w : World) : Calls Try.prog 68 #[.int .i64 (n : Int)] w fun e w' => ∃ M : Nat, e = .returned (.int .u64 (M : Int)) ∧ n < M ∧ M ≤ 2 * n ∧ w = w' := by
  obtain ⟨b1, b2, b3⟩ := Lib.bitLenAux_bounds 64 n (by omega) (by omega)
  have l16 := bitLen_small n hn
  have HL : Hid (∀ w : World, Calls Try.prog 55 #[.int .u64 (n : Int)] w fun e w' => e = .returned (.int .i64 (Lib.bitLen n : Nat)) ∧ w = w') := fun w => BLen_any n hn w
  change 1 ≤ Lib.bitLen n at b1
  change 2 ^ (Lib.bitLen n - 1) ≤ n at b2
  change n < 2 ^ Lib.bitLen n at b3
  have b4 : 2 ^ Lib.bitLen n ≤ 2 * n := by
    have : 2 ^ Lib.bitLen n = 2 * 2 ^ (Lib.bitLen n - 1) := by
      rw [← Nat.pow_succ']; congr 1; omega
    omega
  generalize Lib.bitLen n = k at *
  have HB : Hid (n < 2 ^ k ∧ 2 ^ k ≤ 2 * n) := ⟨b3, b4⟩
  have hp : (2 : Nat) ^ k ≤ 65536 := pow_small k l16
  obtain ⟨M, hM⟩ : ∃ M, M = 2 ^ k := ⟨_, rfl⟩
  have hs : IntKind.u64.wrap (1 * ((2 ^ k : Nat) : Int)) = (M : Int) := by rw [hM, IntKind.wrap_u64]; omega
  have hs2 : IntKind.u64.wrap ((2 ^ k : Nat) : Int) = (M : Int) := by rw [hM, IntKind.wrap_u64]; omega
  have hs3 : IntKind.u64.wrap ((2 : Int) ^ k) = (M : Int) := by
    have : ((2 : Int) ^ k) = ((2 ^ k : Nat) : Int) := by simp
    rw [this]; exact hs2
  have HM : Hid (M = 2 ^ k) := hM
  clear b1 b2 b3 b4 hp hM
  go_enter Try.func68, Try.ntmps68
  go_wp2_with (go_at_call 55; refine (HL.out _).mono ?_; rintro e w' ⟨rfl, rfl⟩)
  go_ret
  obtain ⟨c1, c2⟩ := HB.out
  rw [← HM.out] at c1 c2
  exact ⟨M, rfl, c1, c2, rfl⟩

theorem box_step {w W : World} {c : Nat} {u : Value} (hk : Kept (fun k => k = c) w W) (hc : W.cell? ⟨c, 0, none⟩ = some u) (hf : W.frozen? ⟨c, 0, none⟩ = false) (v : Value) :
    Hid (Kept (fun k => k = c) w (W.setCell ⟨c, 0, none⟩ v).drew) ∧ (W.setCell ⟨c, 0, none⟩ v).drew.cell? ⟨c, 0, none⟩ = some v ∧ (W.setCell ⟨c, 0, none⟩ v).drew.frozen? ⟨c, 0, none⟩ = false :=
  ⟨(hk.set c 0 v (.inl rfl)).drew, World.cell?_setCell_same _ _ _ hc, by show (W.setCell ⟨c, 0, none⟩ v).frozen? _ = _; rw [World.frozen?_setCell]; exact hf⟩
set_option maxRecDepth 20000 in
set_option maxHeartbeats 1000000 in
theorem Next_any {w : World} {c : Nat} {r : Int} (hc : w.cell? ⟨c, 0, none⟩ = some (.int .u64 r)) (hf : w.frozen? ⟨c, 0, none⟩ = false) :
    Calls Try.prog 69 #[.pointer (some ⟨c, 0, none⟩)] w fun e w' => ∃ r' : Int, e = .returned (.int .u64 r') ∧ 0 ≤ r' ∧ r' ≤ 18446744073709551615 ∧ w'.cell? ⟨c, 0, none⟩ = some (.int .u64 r') ∧ w'.frozen? ⟨c, 0, none⟩ = false ∧ Kept (fun k => k = c) w w' := by
  have mixed : Try.prog.follows .mixedOrders = true := by kernel_rfl
  have HK : Hid (Kept (fun k => k = c) w w) := Kept.refl _ _
  go_enter Try.func69, Try.ntmps69
  go_wp2_with fail
  go_big_region_o
  obtain ⟨HK1, c1, f1⟩ := box_step HK.out hc hf (.int .u64 (bits BinOp.xor IntKind.u64 r (IntKind.u64.wrap (r * 8192))))
  generalize bits BinOp.xor IntKind.u64 r (IntKind.u64.wrap (r * 8192)) = r1 at HK1 c1 f1 ⊢
  generalize (w.setCell ⟨c, 0, none⟩ (.int .u64 r1)).drew = W1 at HK1 c1 f1 ⊢
  clear hc hf HK
  go_wp2_with fail
  go_big_region_o
  obtain ⟨HK2, c2, f2⟩ := box_step HK1.out c1 f1 (.int .u64 (bits BinOp.xor IntKind.u64 r1 (r1 / 128)))
  generalize bits BinOp.xor IntKind.u64 r1 (r1 / 128) = r2 at HK2 c2 f2 ⊢
  generalize (W1.setCell ⟨c, 0, none⟩ (.int .u64 r2)).drew = W2 at HK2 c2 f2 ⊢
  clear c1 f1 HK1
  go_wp2_with fail
  go_big_region_o
  obtain ⟨HK3, c3, f3⟩ := box_step HK2.out c2 f2 (.int .u64 (bits BinOp.xor IntKind.u64 r2 (IntKind.u64.wrap (r2 * 131072))))
  have HB : Hid (0 ≤ bits BinOp.xor IntKind.u64 r2 (IntKind.u64.wrap (r2 * 131072)) ∧ bits BinOp.xor IntKind.u64 r2 (IntKind.u64.wrap (r2 * 131072)) ≤ 18446744073709551615) := bits_within .xor .u64 _ _
  generalize bits BinOp.xor IntKind.u64 r2 (IntKind.u64.wrap (r2 * 131072)) = r3 at HK3 c3 f3 HB ⊢
  generalize (W2.setCell ⟨c, 0, none⟩ (.int .u64 r3)).drew = W3 at HK3 c3 f3 ⊢
  clear c2 f2 HK2
  go_wp2
  go_ret
  exact ⟨r3, rfl, HB.out.1, HB.out.2, c3, f3, HK3.out⟩
end Go.Proofs.Ytnfamebihpnjlaa
