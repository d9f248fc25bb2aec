/- Cells: how many; the cell of eight bytes. -/
import Derived.Test.YtinhfgpcgbnhdaaT3
namespace Go.Proofs.Ytinhfgpcgbnhdaa
open Go.RowKit

set_option maxHeartbeats 400000 in
theorem Cells_any (n : Nat) (w : World) (h : n ≤ 9223372036854775807) :
    Calls Try.prog 19 #[.int .i64 n] w fun e w' => e = .returned (.int .i64 (((n + 7) / 8 : Nat) : Int)) ∧ w = w' := by
  by_cases h0 : (n : Int) < 1
  · have e : (n + 7) / 8 = 0 := by omega
    rw [e]
    go_enter Try.func19, Try.ntmps19
    go_wp2
    go_ret
    exact ⟨rfl, rfl⟩
  · obtain ⟨m, hm⟩ : ∃ m : Nat, m = (n + 7) / 8 := ⟨_, rfl⟩
    have e : ((n : Int) - 1) / 8 + 1 = (m : Int) := by omega
    rw [← hm]; clear hm
    go_enter Try.func19, Try.ntmps19
    go_wp2
    go_ret
    exact ⟨by rw [← e]; rfl, rfl⟩

set_option maxHeartbeats 400000 in
theorem Cells_neg (n : Int) (w : World) (h : n < 1) :
    Calls Try.prog 19 #[.int .i64 n] w fun e w' => e = .returned (.int .i64 0) ∧ w = w' := by
  go_enter Try.func19, Try.ntmps19
  go_wp2
  go_ret
  exact ⟨rfl, rfl⟩

/-- The number of bytes, the lowest first. -/
def val : List Nat → Nat
  | [] => 0
  | a :: l => a + 256 * val l

theorem val_snoc (l : List Nat) (a : Nat) : val (l ++ [a]) = val l + a * 256 ^ l.length := by
  induction l with
  | nil => simp [val]
  | cons b l ih => simp only [List.cons_append, val, ih, List.length_cons, Nat.pow_succ]; rw [Nat.mul_add]; simp [Nat.mul_comm, Nat.mul_left_comm]; omega
theorem val_lt (l : List Nat) (h : ∀ a ∈ l, a < 256) : val l < 256 ^ l.length := by
  induction l with
  | nil => simp [val]
  | cons b l ih =>
    have h1 := ih (fun a ha => h a (by simp [ha]))
    have h2 := h b (by simp)
    simp only [val, List.length_cons, Nat.pow_succ]
    have : val l + 1 ≤ 256 ^ l.length := h1
    have := Nat.mul_le_mul_right 256 this
    omega

theorem pow256 (k : Nat) : 2 ^ (8 * k) = 256 ^ k := by rw [Nat.pow_mul]

theorem join_step {x b k : Nat} (hk : k < 8) (hx : x < 256 ^ k) (hb : b < 256) :
    bits .or .u64 (x : Int) (IntKind.u64.wrap (IntKind.u64.wrap (b : Int) * 2 ^ (8 * k))) = ((x + b * 256 ^ k : Nat) : Int) := by
  have e1 : IntKind.u64.wrap (b : Int) = (b : Int) := by rw [IntKind.wrap_u64]; omega
  have hp : (256 : Nat) ^ (k + 1) ≤ 256 ^ 8 := Nat.pow_le_pow_right (by decide) (by omega)
  have hp1 : (256 : Nat) ^ (k + 1) = 256 * 256 ^ k := by rw [Nat.pow_succ, Nat.mul_comm]
  have h8 : (256 : Nat) ^ 8 = 18446744073709551616 := by decide
  have hle : b * 256 ^ k + 256 ^ k ≤ 256 * 256 ^ k := by
    have := Nat.mul_le_mul_right (256 ^ k) (show b + 1 ≤ 256 by omega)
    rwa [Nat.add_mul, Nat.one_mul] at this
  have e2 : ((b : Int) * 2 ^ (8 * k)) = ((b * 256 ^ k : Nat) : Int) := by
    rw [← pow256 k]; simp
  have e3 : IntKind.u64.wrap ((b * 256 ^ k : Nat) : Int) = ((b * 256 ^ k : Nat) : Int) := by
    rw [IntKind.wrap_u64]; omega
  rw [e1, e2, e3, u64_or_nat x (b * 256 ^ k) (by omega) (by omega), Nat.or_comm, nat_join (8 * k) (b * 256 ^ k) x (by rw [pow256]; exact Nat.mul_mod_left _ _) (by rw [pow256]; exact hx)]
  congr 1; omega

theorem take_snoc_nat (l : List Nat) (k : Nat) (h : k < l.length) : l.take (k + 1) = l.take k ++ [l.getD k 0] := by
  rw [List.take_succ_eq_append_getElem h]; simp [List.getD, List.getElem?_eq_getElem h]

set_option maxHeartbeats 400000 in
theorem join_any (l : List Nat) (hl : l.length = 8) (hb : ∀ a ∈ l, a < 256) (w : World) :
    Calls Try.prog 28 #[.agg (bc l).toArray] w fun e w' => e = .returned (.int .i64 (wrap64 (val l))) ∧ Below w.heap.size w w' := by
  have hsz : (bc l).toArray.size = 8 := by simp [bc, hl]
  have hcell : ∀ k : Nat, k < 8 → (w.alloc (.cells (bc l).toArray 47)).cell? ⟨w.heap.size, k, none⟩ = some (.int .u8 ((l.getD k 0 : Nat) : Int)) := by
    intro k hk
    rw [World.cell?_alloc_at _ _ _ _ rfl]
    simp [bc, List.getD, List.getElem?_eq_getElem (show k < l.length by omega)]
  have HC : Hid (∀ k : Nat, k < 8 → (w.alloc (.cells (bc l).toArray 47)).cell? ⟨w.heap.size, k, none⟩ = some (.int .u8 ((l.getD k 0 : Nat) : Int))) := hcell
  have HW : Hid (l.length = 8 ∧ ∀ a ∈ l, a < 256) := ⟨hl, hb⟩
  clear hcell hl hb
  go_enter Try.func28, Try.ntmps28
  go_wp2_with fail
  have HB : Hid (Below w.heap.size w (w.alloc (.cells (bc l).toArray 47))) := (Below.refl _ _).alloc (Nat.le_refl _) _
  go_loop [3, 4, 5] (fun c _ i => ∃ k x : Nat, k ≤ 8 ∧ i = .int .i64 k ∧ c = .int .u64 x ∧ Hid (x = val (l.take k))) (fun _ _ i => 8 - (intOf i).toNat)
  case atStart => exact ⟨0, 0, Nat.zero_le _, rfl, rfl, rfl⟩
  case round =>
    obtain ⟨k, x, hk, rfl, rfl, hx⟩ := hrel
    by_cases hlt : k < 8
    · obtain ⟨b, hbe⟩ : ∃ b, b = l.getD k 0 := ⟨_, rfl⟩
      have hc : (w.alloc (.cells (bc l).toArray 47)).cell? ⟨w.heap.size, k, none⟩ = some (.int .u8 (b : Int)) := by rw [hbe]; exact HC.out k hlt
      have HS : Hid (bits .or .u64 (x : Int) (IntKind.u64.wrap (IntKind.u64.wrap (b : Int) * 2 ^ (8 * k))) = ((val (l.take (k + 1)) : Nat) : Int)) := by
        have hlk : k < l.length := by rw [HW.out.1]; exact hlt
        have hv : x < 256 ^ k := by
          rw [hx.out]
          have := val_lt (l.take k) (fun a ha => HW.out.2 a (List.mem_of_mem_take ha))
          rwa [List.length_take, Nat.min_eq_left (by omega)] at this
        have hb' : b < 256 := by
          rw [hbe]; simp [List.getD, List.getElem?_eq_getElem hlk]; exact HW.out.2 _ (List.getElem_mem hlk)
        show _ = _
        rw [join_step hlt hv hb', take_snoc_nat l k hlk, val_snoc, hx.out, hbe, List.length_take, Nat.min_eq_left (by omega)]
      clear hbe hx
      go_wp2
      go_round
      case rel => exact ⟨k + 1, val (l.take (k + 1)), by omega, by go_num, by rw [HS.out], rfl⟩
      case measure => simp [intOf]; omega
    · have he : k = 8 := by omega
      subst he
      have HX : Hid (x = val l) := by show _ = _; rw [hx.out, List.take_of_length_le (by rw [HW.out.1]; exact Nat.le_refl _)]
      clear hx
      go_wp2
      go_ret
      exact ⟨by rw [← HX.out]; rfl, HB.out⟩
end Go.Proofs.Ytinhfgpcgbnhdaa
