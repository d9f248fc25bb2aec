/- Dead values in a table, where no key is. -/
import Derived.Test.YtnmchcanijkggaaD1
namespace Go.Proofs.Ytnmchcanijkggaa
open Go.RowKit Go.Lib
set_option linter.unusedVariables false

theorem eq_someF (w : World) : (binOp .eql 72 (.func (.func 58) #[] #[]) .nilFunc).run Try.prog w = .ok (.bool false) w := by kernel_rfl

/-- Is a dead value among the first k where no key is? -/
def deadK (A : Nat) (ps : List (Int × Int)) (k : Nat) : Bool := (List.range k).any fun i => (ps.getD i (0, 0)).1 == 11 && !keyB A i
theorem deadK_snoc (A : Nat) (ps : List (Int × Int)) (k : Nat) : deadK A ps (k + 1) = (deadK A ps k || ((ps.getD k (0, 0)).1 == 11 && !keyB A k)) := by
  simp [deadK, List.range_succ]
theorem deadK_yes {A : Nat} {ps : List (Int × Int)} {k n : Nat} (hk : k < n) (h : ((ps.getD k (0, 0)).1 == 11 && !keyB A k) = true) : deadK A ps n = true :=
  List.any_eq_true.2 ⟨k, List.mem_range.2 hk, h⟩

set_option maxHeartbeats 4000000 in
theorem dead_key (h : Hd) (b' off' na ca A : Nat) (so : Option Addr) (ns cs : Nat) (ps : List (Int × Int)) (w : World) (hl : ps.length = ns) (h2 : ns ≤ 100000) (hp : PairsIs w (.slice so ns cs) ps) (hna : 0 < na) (hA : A ≤ 100000) (hc : w.cell? ⟨b', off', none⟩ = some (.int .i64 (A : Int))) :
    Calls Try.prog 49 #[.agg #[.func (.func 57) #[] #[], .func (.func 58) #[] #[]], AO h (.slice (some ⟨b', off', none⟩) na ca) (.slice so ns cs)] w fun e w' => e = .returned (.bool (deadK A ps ns)) ∧ Below w.heap.size w w' := by
  have HP : Hid (PairsIs w (.slice so ns cs) ps ∧ ps.length = ns) := ⟨hp, hl⟩
  have HK : Hid (∀ (W : World) (i : Nat), Below w.heap.size w W → i ≤ 100000 → Calls Try.prog 58 #[AO h (.slice (some ⟨b', off', none⟩) na ca) (.slice so ns cs), .int .i64 (i : Int)] W fun e w' => e = .returned (.bool (keyB A i)) ∧ Below W.heap.size W w') :=
    fun W i hb hi => keyOfTable_any h b' off' na ca A i so ns cs W hna hA hi (cell_later hb hc)
  clear hp hl hc hna hA
  go_enter Try.func49, Try.ntmps49
  go_wp2_with fail
  have HW0 : Hid (∃ W0, W0 = (w.alloc (.cells #[.func (.func 57) #[] #[], .func (.func 58) #[] #[]] 74)).alloc (.cells #[.int .i64 h.k, .int .i64 h.c, .int .i64 h.a, .int .i64 h.w, .int .i64 h.s, .int .i64 h.f, .int .i64 h.x, .int .i64 h.l, .slice (some ⟨b', off', none⟩) na ca, .slice so ns cs] 43)) := ⟨_, rfl⟩
  obtain ⟨W0, hW0⟩ := HW0.out
  have HS0 : Hid (SeenO (w.heap.size + 1) h (.slice (some ⟨b', off', none⟩) na ca) (.slice so ns cs) W0 ∧ W0.cell? ⟨w.heap.size, 1, none⟩ = some (.func (.func 58) #[] #[])) := by
    constructor
    · have := seenO_new h (.slice (some ⟨b', off', none⟩) na ca) (.slice so ns cs) (w.alloc (.cells #[.func (.func 57) #[] #[], .func (.func 58) #[] #[]] 74))
      rw [show (w.alloc (.cells #[.func (.func 57) #[] #[], .func (.func 58) #[] #[]] 74)).heap.size = w.heap.size + 1 by simp, ← hW0] at this
      exact this
    · rw [hW0, World.cell?_alloc_past _ _ _ (by simp), World.cell?_alloc_at _ _ _ _ rfl]; rfl
  have HB0 : Hid (Below w.heap.size w W0) := by rw [hW0]; exact ((Below.refl _ _).alloc (Nat.le_refl _) _).alloc (by simp) _
  have hz0 : w.heap.size + 1 < W0.heap.size := by rw [hW0]; simp
  rw [← hW0]
  clear hW0 HW0
  go_loopw [5, 6, 10] (fun _ _ i wr => ∃ k : Nat, k ≤ ns ∧ i = .int .i64 k ∧ Hid (deadK A ps k = false) ∧ Hid (Below W0.heap.size W0 wr)) (fun _ _ i _ => ns - (intOf i).toNat)
  case atStart => exact ⟨0, Nat.zero_le _, rfl, rfl, Below.refl _ _⟩
  case round =>
    obtain ⟨k, hk, rfl, HA, HB⟩ := hrel
    have hbr : W0.heap.size ≤ wr.heap.size := HB.out.size
    by_cases hlt : k < ns
    · have hlen : ps.length = ns := HP.out.2
      obtain ⟨t, ht⟩ : ∃ t, t = (ps.getD k (0, 0)).1 := ⟨_, rfl⟩
      obtain ⟨n, hn⟩ : ∃ n, n = (ps.getD k (0, 0)).2 := ⟨_, rfl⟩
      obtain ⟨b, off, hso, e1, e2⟩ := (HP.out.1.later (HB0.out.trans (HB.out.mono HB0.out.size))).at' (k := k) (by omega)
      subst hso
      have c1 : wr.cell? ⟨b, off + k * 2, none⟩ = some (.int .i64 t) := by rw [ht]; exact e1
      have c2 : wr.cell? ⟨b, off + k * 2 + 1, none⟩ = some (.int .i64 n) := by rw [hn]; exact e2
      have k1 : (0 : Int) ≤ (k : Int) := by omega
      have k2 : (k : Int) < (ns : Int) := by omega
      have hzw : w.heap.size < wr.heap.size := by omega
      have hzw' : w.heap.size + 1 < wr.heap.size := by omega
      have HB2 : Hid (∀ o, Below W0.heap.size W0 (wr.alloc o)) := fun o => HB.out.alloc hbr o
      cases hvb : (t == 11)
      · have HA2 : Hid (deadK A ps (k + 1) = false) := by show _ = _; rw [deadK_snoc, HA.out, ← ht, hvb]; rfl
        clear ht hn e1 e2
        go_wp2
        go_roundw
        case rel => exact ⟨k + 1, by omega, by go_num, HA2.out, HB2.out _⟩
        case measure => simp [intOf]; omega
      · obtain rfl : t = 11 := by simpa using hvb
        have eqf := eq_someF
        obtain ⟨q0, q1, q2, q3, q4, q5, q6, q7, q8, q9⟩ := seenO_keep HS0.out.1 HB.out
        have f1 : wr.cell? ⟨w.heap.size, 1, none⟩ = some (.func (.func 58) #[] #[]) := cell_later HB.out HS0.out.2
        have HX : Hid (keyB A k = true → deadK A ps (k + 1) = false) := fun h => by rw [deadK_snoc, HA.out, h]; simp
        have HY : Hid (keyB A k = false → deadK A ps ns = true) := fun h => deadK_yes hlt (by rw [← ht, h]; rfl)
        have hk1 : k ≤ 100000 := by omega
        clear ht hn e1 e2 hvb
        go_wp2_with fail
        refine (HK.out _ k (HB0.out.trans ((HB2.out _).mono HB0.out.size)) hk1).mono ?_
        rintro e w2 ⟨rfl, hb2⟩
        have HB3 : Hid (Below W0.heap.size W0 w2) := (HB2.out _).trans (hb2.mono (HB2.out _).size)
        clear hb2 c1 c2 q0 q1 q2 q3 q4 q5 q6 q7 q8 q9 f1
        cases hkb : keyB A k
        · go_wp2
          go_ret
          exact ⟨by rw [HY.out hkb]; rfl, HB0.out.trans (HB3.out.mono HB0.out.size)⟩
        · have HA2 : Hid (deadK A ps (k + 1) = false) := HX.out hkb
          go_wp2
          go_roundw
          case rel => exact ⟨k + 1, by omega, by go_num, HA2.out, HB3.out⟩
          case measure => simp [intOf]; omega
    · have he : k = ns := by omega
      subst he
      have HE : Hid (deadK A ps k = false) := HA.out
      clear HA
      go_wp2
      go_ret
      exact ⟨by rw [HE.out]; rfl, HB0.out.trans (HB.out.mono HB0.out.size)⟩
end Go.Proofs.Ytnmchcanijkggaa
