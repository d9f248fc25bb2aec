/- The document's Parse. -/
import Derived.Test.YtbhmgmbgplkkeaaDoorP11
import Derived.Test.YtbhmgmbgplkkeaaDoorP6b
namespace Go.Proofs.YtbhmgmbgplkkeaaDoor
open Go.RowKit
set_option linter.unusedSimpArgs false
set_option linter.unusedVariables false

theorem hp_len {l g : List UInt8} (h : Lib.hasPrefix l g = true) : g.length ≤ l.length := by
  rw [← Lib.hasPrefix_of_take] at h; simp at h; exact h.1
/-- A point is appended; where its row lies then. -/
theorem app_val2 {ops : Array Oper} {rest : List Oper} {o : Oper} {a : Act} {Q : Exit → Act → World → Prop} {w : World} (hgd : o.guard = none) (s x : Operand)
    (ho : o.op = .call { callee := .builtin .append, args := #[s, x], argTypes := #[23, 23] }) (base : Nat) (v : Value) (L : List V) (hs : a.eval s = v) (hrow : VRow w base v L)
    (N : Nat) (e : V) (hx : a.eval x = .slice (some ⟨N, 0, none⟩) 1 1) (hN : w.heap[N]? = some (.cells #[.int .i64 e.1, .int .i64 e.2] 45 (0, 0))) (hlen : L.length + 1 ≤ 1000000) (hbase : base ≤ w.heap.size)
    (h : ∀ v' w', Hid (VRow w' base v' (L ++ [e])) → Hid (w.grownBy w' v.ownBlock) → Hid (v'.ownBlock = v.ownBlock ∨ v'.ownBlock = some w.heap.size) → wpList Tryd.prog ops Q rest (a.put o.dst v') w') : wpList Tryd.prog ops Q (o :: rest) a w :=
  wpList_plain hgd fun K hK => app_valO s x ho hs hrow N e hx hN hlen hbase (fun v' w' h1 h2 h3 => hK _ _ (h v' w' h1 h2 h3))

set_option maxRecDepth 20000 in
set_option maxHeartbeats 2000000 in
theorem Rafter_any (line wd : ByteArray) (hl : line.size ≤ 100000) (hw : wd.size ≤ 100) (w : World) :
    Calls Tryd.prog 24 #[.string line, .string wd] w fun e w' => e = .returned (.int .i64 (optM (afterF (bl wd) (bl line)))) ∧ w = w' := by
  by_cases h1 : line.size ≤ wd.size
  · have ha : Hid (afterF (bl wd) (bl line) = none) := by
      show _ = _
      unfold afterF
      rw [if_neg]
      intro h
      have := hp_len h
      rw [List.length_append, bl_len, bl_len] at this
      simp at this; omega
    have i1 : (line.size : Int) ≤ (wd.size : Int) := by omega
    go_enter Tryd.func24, Tryd.ntmps24
    go_wp2
    go_ret
    exact ⟨by rw [ha.out]; rfl, rfl⟩
  have i1 : decide ((line.size : Int) ≤ (wd.size : Int)) = false := by rw [decide_eq_false_iff_not]; omega
  have i2 : (wd.size : Int) + 1 ≤ (line.size : Int) := by omega
  have i3 : wd.size + 1 ≤ line.size := by omega
  have e1 : line.extract 0 (wd.size + 1) = mk ((bl line).take (wd.size + 1)) := mk_to line _
  have e2 : line.extract (wd.size + 1) line.size = mk ((bl line).drop (wd.size + 1)) := mk_from line _
  have u1 : IntKind.i64.wrap ((wd.size : Int) + 1) = (wd.size : Int) + 1 := by rw [IntKind.wrap_i64]; omega
  have hcmp : ((bl line).take (wd.size + 1) == (wd ++ ⟨#[32]⟩).toList) = Lib.hasPrefix (bl line) (bl wd ++ [32]) := by
    have e : (wd ++ (⟨#[32]⟩ : ByteArray)).toList = bl wd ++ [32] := by rw [ByteArray.toList_eq]; simp [bl]
    rw [e, ← Lib.hasPrefix_of_take, List.length_append, bl_len, bl_len, show wd.size + ([32] : List UInt8).length = wd.size + 1 from rfl, decide_eq_true i3, Bool.true_and]
  cases hp : Lib.hasPrefix (bl line) (bl wd ++ [32]) with
  | false =>
    have ha : Hid (afterF (bl wd) (bl line) = none) := by show _ = _; unfold afterF; rw [if_neg (by rw [hp]; decide)]
    rw [hp] at hcmp
    clear hp
    go_enter Tryd.func24, Tryd.ntmps24
    go_wp2
    go_ret
    exact ⟨by rw [ha.out]; rfl, rfl⟩
  | true =>
    have ha : Hid (afterF (bl wd) (bl line) = numP ((bl line).drop (wd.size + 1))) := by show _ = _; unfold afterF; rw [if_pos hp, bl_len]
    rw [hp] at hcmp
    have HN : Hid (∀ X, Calls Tryd.prog 38 #[.string (mk ((bl line).drop (wd.size + 1)))] X fun e w' => e = .returned (.int .i64 (optM (numP ((bl line).drop (wd.size + 1))))) ∧ X = w') := fun X => by
      have := RNumber_any (mk ((bl line).drop (wd.size + 1))) (by rw [mk_size, List.length_drop, bl_len]; omega) X
      rwa [bl_mk] at this
    clear hp
    go_enter Tryd.func24, Tryd.ntmps24
    go_wp2_with fail
    refine Calls.mono (HN.out _) ?_
    rintro e w' ⟨rfl, rfl⟩
    go_wp2
    go_ret
    exact ⟨by rw [ha.out]; rfl, rfl⟩

theorem lineF_pos (l : List UInt8) (p : V) (k : Nat) (h : lineF l = some (p, k)) : k ≠ 0 ∧ k ≤ 999999999 := by
  unfold lineF at h
  cases hc : cutO bx l with
  | none =>
    rw [hc] at h
    obtain ⟨q, _, h2⟩ := Option.map_eq_some_iff.1 h
    injection h2 with _ h2
    omega
  | some q =>
    obtain ⟨told, t⟩ := q
    rw [hc] at h
    simp only [] at h
    cases hn : numP t with
    | none => rw [hn] at h; cases h
    | some n =>
      rw [hn] at h
      have := numP_lt t n hn
      by_cases h2 : n < 2
      · simp only [if_pos h2] at h; cases h
      · simp only [if_neg h2] at h
        obtain ⟨q, _, h3⟩ := Option.map_eq_some_iff.1 h
        injection h3 with _ h3
        omega
end Go.Proofs.YtbhmgmbgplkkeaaDoor
