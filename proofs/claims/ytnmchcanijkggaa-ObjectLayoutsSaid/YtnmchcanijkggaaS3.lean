/- Same, of objects with one head. -/
import Derived.Test.YtnmchcanijkggaaS2
namespace Go.Proofs.Ytnmchcanijkggaa
open Go.RowKit Go.Lib
set_option linter.unusedVariables false

theorem fields38_facts : (Try.prog.fieldsOf 38).toList.map (fun f => (f.name != "_", f.type, f.offset)) = [(true, 3, 0), (true, 2, 1)] := by kernel_rfl

def vl (t n : Int) : Nat → Int
  | 0 => t
  | _ => n

theorem eq38 (t n t' n' : Int) (w : World) : (Op.equalIn 10000 38 (.agg #[.int .i64 t, .int .i64 n]) (.agg #[.int .i64 t', .int .i64 n'])).run Try.prog w = .ok (decide ((t, n) = (t', n'))) w := by
  rw [show (10000 : Nat) = 9999 + 1 from rfl, run_equalIn_agg w 9999 38 _ _ fields38 stood38]
  have hf : ∀ f ∈ (Try.prog.fieldsOf 38).toList, f.name ≠ "_" ∧ ((f.type = 3 ∧ f.offset = 0) ∨ (f.type = 2 ∧ f.offset = 1)) := by
    intro f hm
    have h := fields38_facts
    have hmm : (f.name != "_", f.type, f.offset) ∈ [(true, 3, 0), (true, 2, 1)] := by rw [← h]; exact List.mem_map.2 ⟨f, hm, rfl⟩
    simp only [List.mem_cons, Prod.mk.injEq, List.not_mem_nil, or_false, bne_iff_ne, ne_eq] at hmm
    rcases hmm with ⟨a, b, c⟩ | ⟨a, b, c⟩
    · exact ⟨a, Or.inl ⟨b, c⟩⟩
    · exact ⟨a, Or.inr ⟨b, c⟩⟩
  have hp : ∀ (t n : Int), ∀ f ∈ (Try.prog.fieldsOf 38).toList, ∀ w : World, (part f.type #[.int .i64 t, .int .i64 n] f.offset).run Try.prog w = .ok (.int .i64 (vl t n f.offset)) w := by
    intro t n f hm w
    rcases (hf f hm).2 with ⟨a, b⟩ | ⟨a, b⟩ <;> rw [a, b] <;> kernel_rfl
  have ho : (Try.prog.fieldsOf 38).toList.map (·.offset) = [0, 1] := by kernel_rfl
  rw [eqFields_ints (X := vl t n) (Y := vl t' n') _ (fun f hm => (hf f hm).1) (hp t n) (hp t' n')
    (fun f hm x y w => by
      rcases (hf f hm).2 with ⟨a, _⟩ | ⟨a, _⟩ <;> rw [a]
      · exact run_equalIn_int w 9998 3 .i64 .i64 x y Try.underlying3
      · exact run_equalIn_int w 9998 2 .i64 .i64 x y Try.underlying2) w, ho]
  congr 1
  rw [Bool.eq_iff_iff]; simp [vl]

theorem take_eq_snoc {α : Type} {xs ys : List α} {d : α} {k : Nat} (h1 : k < xs.length) (h2 : k < ys.length) (ht : xs.take k = ys.take k) (he : xs.getD k d = ys.getD k d) : xs.take (k + 1) = ys.take (k + 1) := by
  rw [List.getD, List.getElem?_eq_getElem h1, List.getD, List.getElem?_eq_getElem h2] at he
  rw [List.take_succ_eq_append_getElem h1, List.take_succ_eq_append_getElem h2, ht]
  simp only [Option.getD_some] at he
  rw [he]

set_option maxHeartbeats 4000000 in
theorem RSame_ok (g : Hd) (x1 y1 x2 y2 : Option Addr) (n c1 m d1 c2 d2 : Nat) (z1 z2 : List Int) (p1 p2 : List (Int × Int)) (w : World) (hn : n ≤ 100000) (hm : m ≤ 100000) (l1 : z1.length = n) (l2 : z2.length = n) (l3 : p1.length = m) (l4 : p2.length = m)
    (a1 : SliceIs w (.slice x1 n c1) z1) (a2 : SliceIs w (.slice x2 n c2) z2) (b1 : PairsIs w (.slice y1 m d1) p1) (b2 : PairsIs w (.slice y2 m d2) p2) :
    Calls Try.prog 31 #[AO g (.slice x1 n c1) (.slice y1 m d1), AO g (.slice x2 n c2) (.slice y2 m d2)] w fun e w' => e = .returned (.bool (decide (z1 = z2) && decide (p1 = p2))) ∧ Below w.heap.size w w' := by
  have hg := guard23
  have he : ∀ w, (Op.equalIn 10000 23 (AH g) (AH g)).run Try.prog w = .ok true w := fun w => by rw [eq23]; simp
  have HL : Hid (z1.length = n ∧ z2.length = n ∧ p1.length = m ∧ p2.length = m) := ⟨l1, l2, l3, l4⟩
  have HQ : Hid (∀ W, Below w.heap.size w W → SliceIs W (.slice x1 n c1) z1 ∧ SliceIs W (.slice x2 n c2) z2 ∧ PairsIs W (.slice y1 m d1) p1 ∧ PairsIs W (.slice y2 m d2) p2) := fun W hb => ⟨a1.later hb, a2.later hb, b1.later hb, b2.later hb⟩
  clear l1 l2 l3 l4 a1 a2 b1 b2
  go_enter Try.func31, Try.ntmps31
  go_wp2_with fail
  have HW0 : Hid (∀ o1 o2, Below w.heap.size w ((w.alloc o1).alloc o2)) := fun o1 o2 => ((Below.refl _ _).alloc (Nat.le_refl _) _).alloc (by simp) _
  have HC0 : Hid (((w.alloc (.cells #[.int .i64 g.k, .int .i64 g.c, .int .i64 g.a, .int .i64 g.w, .int .i64 g.s, .int .i64 g.f, .int .i64 g.x, .int .i64 g.l, .slice x1 n c1, .slice y1 m d1] 43)).alloc (.cells #[.int .i64 g.k, .int .i64 g.c, .int .i64 g.a, .int .i64 g.w, .int .i64 g.s, .int .i64 g.f, .int .i64 g.x, .int .i64 g.l, .slice x2 n c2, .slice y2 m d2] 43)).cell? ⟨w.heap.size, 8, none⟩ = some (.slice x1 n c1) ∧ ((w.alloc (.cells #[.int .i64 g.k, .int .i64 g.c, .int .i64 g.a, .int .i64 g.w, .int .i64 g.s, .int .i64 g.f, .int .i64 g.x, .int .i64 g.l, .slice x1 n c1, .slice y1 m d1] 43)).alloc (.cells #[.int .i64 g.k, .int .i64 g.c, .int .i64 g.a, .int .i64 g.w, .int .i64 g.s, .int .i64 g.f, .int .i64 g.x, .int .i64 g.l, .slice x2 n c2, .slice y2 m d2] 43)).cell? ⟨w.heap.size, 9, none⟩ = some (.slice y1 m d1) ∧
      ((w.alloc (.cells #[.int .i64 g.k, .int .i64 g.c, .int .i64 g.a, .int .i64 g.w, .int .i64 g.s, .int .i64 g.f, .int .i64 g.x, .int .i64 g.l, .slice x1 n c1, .slice y1 m d1] 43)).alloc (.cells #[.int .i64 g.k, .int .i64 g.c, .int .i64 g.a, .int .i64 g.w, .int .i64 g.s, .int .i64 g.f, .int .i64 g.x, .int .i64 g.l, .slice x2 n c2, .slice y2 m d2] 43)).cell? ⟨w.heap.size + 1, 8, none⟩ = some (.slice x2 n c2) ∧ ((w.alloc (.cells #[.int .i64 g.k, .int .i64 g.c, .int .i64 g.a, .int .i64 g.w, .int .i64 g.s, .int .i64 g.f, .int .i64 g.x, .int .i64 g.l, .slice x1 n c1, .slice y1 m d1] 43)).alloc (.cells #[.int .i64 g.k, .int .i64 g.c, .int .i64 g.a, .int .i64 g.w, .int .i64 g.s, .int .i64 g.f, .int .i64 g.x, .int .i64 g.l, .slice x2 n c2, .slice y2 m d2] 43)).cell? ⟨w.heap.size + 1, 9, none⟩ = some (.slice y2 m d2)) := by
    refine ⟨?_, ?_, ?_, ?_⟩
    · rw [World.cell?_alloc_past _ _ _ (by simp), World.cell?_alloc_at _ _ _ _ rfl]; rfl
    · rw [World.cell?_alloc_past _ _ _ (by simp), World.cell?_alloc_at _ _ _ _ rfl]; rfl
    · rw [World.cell?_alloc_at _ _ _ _ (by simp)]; rfl
    · rw [World.cell?_alloc_at _ _ _ _ (by simp)]; rfl
  have HB0 := HW0.out (.cells #[.int .i64 g.k, .int .i64 g.c, .int .i64 g.a, .int .i64 g.w, .int .i64 g.s, .int .i64 g.f, .int .i64 g.x, .int .i64 g.l, .slice x1 n c1, .slice y1 m d1] 43) (.cells #[.int .i64 g.k, .int .i64 g.c, .int .i64 g.a, .int .i64 g.w, .int .i64 g.s, .int .i64 g.f, .int .i64 g.x, .int .i64 g.l, .slice x2 n c2, .slice y2 m d2] 43)
  generalize hW : ((w.alloc (.cells #[.int .i64 g.k, .int .i64 g.c, .int .i64 g.a, .int .i64 g.w, .int .i64 g.s, .int .i64 g.f, .int .i64 g.x, .int .i64 g.l, .slice x1 n c1, .slice y1 m d1] 43)).alloc (.cells #[.int .i64 g.k, .int .i64 g.c, .int .i64 g.a, .int .i64 g.w, .int .i64 g.s, .int .i64 g.f, .int .i64 g.x, .int .i64 g.l, .slice x2 n c2, .slice y2 m d2] 43)) = W0 at HC0 HB0 ⊢
  have HB : Hid (Below w.heap.size w W0) := HB0
  clear hW HB0 HW0
  go_loopw [5] (fun i wr => ∃ k : Nat, k ≤ n ∧ i = .int .i64 k ∧ Hid (z1.take k = z2.take k) ∧ Hid (∃ N, wr = W0.drewN N)) (fun i _ => n - (intOf i).toNat)
  case atStart => exact ⟨0, Nat.zero_le _, rfl, rfl, 0, rfl⟩
  case round =>
    obtain ⟨k, hk, rfl, HT, HN⟩ := hrel
    obtain ⟨N, rfl⟩ := HN.out
    have r1 : W0.cell? ⟨w.heap.size, 8, none⟩ = some (.slice x1 n c1) := HC0.out.1
    have r2 : W0.cell? ⟨w.heap.size, 9, none⟩ = some (.slice y1 m d1) := HC0.out.2.1
    have r3 : W0.cell? ⟨w.heap.size + 1, 8, none⟩ = some (.slice x2 n c2) := HC0.out.2.2.1
    have r4 : W0.cell? ⟨w.heap.size + 1, 9, none⟩ = some (.slice y2 m d2) := HC0.out.2.2.2
    by_cases hlt : k < n
    · have hq := HQ.out _ (below_drewN HB.out N)
      obtain ⟨e1, e2, _, _⟩ := HL.out
      obtain ⟨b1, o1, hx1, g1⟩ := hq.1.at' (by omega)
      obtain ⟨b2, o2, hx2, g2⟩ := hq.2.1.at' (by omega)
      subst hx1
      subst hx2
      obtain ⟨x, hx⟩ : ∃ x, x = z1.getD k 0 := ⟨_, rfl⟩
      obtain ⟨y, hy⟩ : ∃ y, y = z2.getD k 0 := ⟨_, rfl⟩
      have s1 : W0.cell? ⟨b1, o1 + k, none⟩ = some (.int .i64 x) := by rw [hx]; exact g1 k (by omega)
      have s2 : W0.cell? ⟨b2, o2 + k, none⟩ = some (.int .i64 y) := by rw [hy]; exact g2 k (by omega)
      have k1 : (0 : Int) ≤ (k : Int) := by omega
      have k2 : (k : Int) < (n : Int) := by omega
      clear hq g1 g2
      by_cases hxy : x = y
      · have HS : Hid (z1.take (k + 1) = z2.take (k + 1)) := take_eq_snoc (d := 0) (by omega) (by omega) HT.out (by rw [← hx, ← hy]; exact hxy)
        clear hx hy
        subst hxy
        have hne : (x != x) = false := by simp
        go_wp2
        go_quiet (fail)
        go_wp2
        go_roundw
        case rel => exact ⟨k + 1, by omega, by go_num, HS.out, N + nq, rfl⟩
        case measure => simp [intOf]; omega
      · have HE : Hid (decide (z1 = z2) = false) := by
          show _ = _
          rw [decide_eq_false]
          intro e
          exact hxy (by rw [hx, hy, e])
        have hne : (x != y) = true := by simp [hxy]
        clear hx hy
        go_wp2
        go_quiet (fail)
        go_wp2
        go_ret
        exact ⟨by rw [HE.out]; rfl, below_drewN (below_drewN HB.out N) _⟩
    · have he' : k = n := by omega
      subst he'
      have HZ : Hid (z1 = z2) := by
        have h := HT.out
        rw [List.take_of_length_le (by rw [HL.out.1]; exact Nat.le_refl _), List.take_of_length_le (by rw [HL.out.2.1]; exact Nat.le_refl _)] at h
        exact h
      clear HT
      go_wp2_with fail
      go_loopw [6] (fun i wr => ∃ j : Nat, j ≤ m ∧ i = .int .i64 j ∧ Hid (p1.take j = p2.take j) ∧ Hid (∃ N, wr = W0.drewN N)) (fun i _ => m - (intOf i).toNat)
      case atStart => exact ⟨0, Nat.zero_le _, rfl, rfl, N, rfl⟩
      case round =>
        clear HN
        obtain ⟨j, hj, rfl, HT, HN⟩ := hrel
        obtain ⟨N', rfl⟩ := HN.out
        by_cases hlt' : j < m
        · have hq := HQ.out _ (below_drewN HB.out N')
          obtain ⟨_, _, e1, e2⟩ := HL.out
          obtain ⟨b1, o1, hx1, g1, g1'⟩ := hq.2.2.1.at' (k := j) (by omega)
          obtain ⟨b2, o2, hx2, g2, g2'⟩ := hq.2.2.2.at' (k := j) (by omega)
          subst hx1
          subst hx2
          obtain ⟨x, hx⟩ : ∃ x, x = p1.getD j (0, 0) := ⟨_, rfl⟩
          obtain ⟨y, hy⟩ : ∃ y, y = p2.getD j (0, 0) := ⟨_, rfl⟩
          obtain ⟨xt, xn⟩ := x
          obtain ⟨yt, yn⟩ := y
          have s1 : W0.cell? ⟨b1, o1 + j * 2, none⟩ = some (.int .i64 xt) := by have := g1; rw [← hx] at this; exact this
          have s1' : W0.cell? ⟨b1, o1 + j * 2 + 1, none⟩ = some (.int .i64 xn) := by have := g1'; rw [← hx] at this; exact this
          have s2 : W0.cell? ⟨b2, o2 + j * 2, none⟩ = some (.int .i64 yt) := by have := g2; rw [← hy] at this; exact this
          have s2' : W0.cell? ⟨b2, o2 + j * 2 + 1, none⟩ = some (.int .i64 yn) := by have := g2'; rw [← hy] at this; exact this
          have k1 : (0 : Int) ≤ (j : Int) := by omega
          have k2 : (j : Int) < (m : Int) := by omega
          have hg38 := guard38
          clear hq g1 g2 g1' g2'
          by_cases hxy : (xt, xn) = (yt, yn)
          · have HS : Hid (p1.take (j + 1) = p2.take (j + 1)) := take_eq_snoc (d := (0, 0)) (by omega) (by omega) HT.out (by rw [← hx, ← hy]; exact hxy)
            have he38 : ∀ w, (Op.equalIn 10000 38 (.agg #[.int .i64 xt, .int .i64 xn]) (.agg #[.int .i64 yt, .int .i64 yn])).run Try.prog w = .ok true w := fun w => by rw [eq38, decide_eq_true hxy]
            clear hx hy hxy
            go_wp2
            go_quiet (fail)
            go_wp2
            go_roundw
            case rel => exact ⟨j + 1, by omega, by go_num, HS.out, N' + nq, rfl⟩
            case measure => simp [intOf]; omega
          · have HE : Hid (decide (p1 = p2) = false) := by
              show _ = _
              rw [decide_eq_false]
              intro e
              exact hxy (by rw [hx, hy, e])
            have he38 : ∀ w, (Op.equalIn 10000 38 (.agg #[.int .i64 xt, .int .i64 xn]) (.agg #[.int .i64 yt, .int .i64 yn])).run Try.prog w = .ok false w := fun w => by rw [eq38, decide_eq_false hxy]
            clear hx hy hxy
            go_wp2
            go_quiet (fail)
            go_wp2
            go_ret
            exact ⟨by rw [HE.out, Bool.and_false]; rfl, below_drewN (below_drewN HB.out N') _⟩
        · have he' : j = m := by omega
          subst he'
          have HP : Hid (p1 = p2) := by
            have h := HT.out
            rw [List.take_of_length_le (by rw [HL.out.2.2.1]; exact Nat.le_refl _), List.take_of_length_le (by rw [HL.out.2.2.2]; exact Nat.le_refl _)] at h
            exact h
          clear HT
          go_wp2
          go_ret
          exact ⟨by rw [HZ.out, HP.out]; simp, below_drewN HB.out N'⟩

theorem RSame_any (g h : Hd) (a1 s1 a2 s2 : Value) (z1 z2 : List Int) (p1 p2 : List (Int × Int)) (w : World) (ha1 : SliceIs w a1 z1) (hs1 : PairsIs w s1 p1) (ha2 : SliceIs w a2 z2) (hs2 : PairsIs w s2 p2) (h1 : z1.length ≤ 100000) (h2 : p1.length ≤ 100000) :
    Calls Try.prog 31 #[AO g a1 s1, AO h a2 s2] w fun e w' => e = .returned (.bool (decide (g = h ∧ z1 = z2 ∧ p1 = p2))) ∧ Below w.heap.size w w' := by
  by_cases hgh : g = h
  · subst hgh
    obtain ⟨x1, c1, rfl⟩ := ha1.form
    obtain ⟨x2, c2, rfl⟩ := ha2.form
    obtain ⟨y1, d1, rfl⟩ := hs1.form
    obtain ⟨y2, d2, rfl⟩ := hs2.form
    by_cases hl : z1.length = z2.length ∧ p1.length = p2.length
    · have e : decide (g = g ∧ z1 = z2 ∧ p1 = p2) = (decide (z1 = z2) && decide (p1 = p2)) := by simp
      rw [e]
      rw [← hl.1] at ha2 ⊢
      rw [← hl.2] at hs2 ⊢
      exact RSame_ok g x1 y1 x2 y2 z1.length c1 p1.length d1 c2 d2 z1 z2 p1 p2 w h1 h2 rfl hl.1.symm rfl hl.2.symm ha1 ha2 hs1 hs2
    · have e : decide (g = g ∧ z1 = z2 ∧ p1 = p2) = false := by
        rw [decide_eq_false]; rintro ⟨_, rfl, rfl⟩; exact hl ⟨rfl, rfl⟩
      rw [e]
      exact RSame_len g x1 y1 x2 y2 _ c1 _ d1 _ c2 _ d2 w hl
  · have e : decide (g = h ∧ z1 = z2 ∧ p1 = p2) = false := by simp [hgh]
    rw [e]
    exact RSame_head g h a1 s1 a2 s2 w hgh
end Go.Proofs.Ytnmchcanijkggaa
