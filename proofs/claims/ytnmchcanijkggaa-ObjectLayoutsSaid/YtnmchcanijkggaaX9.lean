/- The document's fits, of tables: case by case. -/
import Derived.Test.YtnmchcanijkggaaX8
namespace Go.Proofs.Ytnmchcanijkggaa
open Go.RowKit Go.Lib
set_option linter.unusedVariables false
set_option linter.unusedSimpArgs false

theorem quiet_same {P : Program} {f : FuncId} {args : Array Value} {w : World} {n : Nat} {v : Value}
    (h : Calls P f args (w.drewN n) fun e w' => e = .returned v ∧ w.drewN n = w') : Calls P f args (w.drewN n) fun e w'' => e = .returned v ∧ ∃ m, w'' = w.drewN m :=
  h.mono fun _ _ ⟨he, hm⟩ => ⟨he, n, hm.symm⟩

/-- A region of a code. -/
def regOf (n : Nat) : Code → Option (Array Oper)
  | .region id ops _ => if id = n then some ops else none
  | .seq a b => (regOf n a).orElse fun _ => regOf n b
  | .cond _ a b => (regOf n a).orElse fun _ => regOf n b
  | .block _ b => regOf n b
  | .loop b => regOf n b
  | .scope b => regOf n b
  | _ => none


theorem lex8 : Region.lexB .any (((Try.f50.body).bind (regOf 8)).getD #[]) = true := by kernel_rfl

set_option maxRecDepth 20000 in
set_option maxHeartbeats 4000000 in
theorem Rtab_two (h : Hd) (ao so : Option Addr) (na ca ns cs : Nat) (w : World) (hk : h.k = 5) (na2 : ((na : Int) == 2) = false) :
    Calls Try.prog 50 #[AO h (.slice ao na ca) (.slice so ns cs)] w fun e w' => e = .returned (.bool false) ∧ Below w.heap.size w w' := by
  obtain ⟨k, c, aa, ww, s, f, x, l⟩ := h
  simp only at hk
  subst hk
  go_enter Try.func50, Try.ntmps50
  go_wp2_with fail
  have HB0 : Hid (Below w.heap.size w (w.alloc (.cells #[.int .i64 5, .int .i64 c, .int .i64 aa, .int .i64 ww, .int .i64 s, .int .i64 f, .int .i64 x, .int .i64 l, (.slice ao na ca), (.slice so ns cs)] 43))) := (Below.refl _ _).alloc (Nat.le_refl _) _
  have q8 : (w.alloc (.cells #[.int .i64 5, .int .i64 c, .int .i64 aa, .int .i64 ww, .int .i64 s, .int .i64 f, .int .i64 x, .int .i64 l, (.slice ao na ca), (.slice so ns cs)] 43)).cell? ⟨w.heap.size, 8, none⟩ = some ((.slice ao na ca)) := by rw [World.cell?_alloc_at _ _ _ _ rfl]; rfl
  have q9 : (w.alloc (.cells #[.int .i64 5, .int .i64 c, .int .i64 aa, .int .i64 ww, .int .i64 s, .int .i64 f, .int .i64 x, .int .i64 l, (.slice ao na ca), (.slice so ns cs)] 43)).cell? ⟨w.heap.size, 9, none⟩ = some ((.slice so ns cs)) := by rw [World.cell?_alloc_at _ _ _ _ rfl]; rfl
  generalize w.alloc (.cells #[.int .i64 5, .int .i64 c, .int .i64 aa, .int .i64 ww, .int .i64 s, .int .i64 f, .int .i64 x, .int .i64 l, (.slice ao na ca), (.slice so ns cs)] 43) = W at HB0 q8 q9 ⊢
  try simp only [List.append_eq, List.cons_append, List.nil_append]
  refine wp_region_quiet_lit (by kernel_rfl) (Eq.trans (congrArg (Region.lexB .any) (?e : _ = ((Try.f50.body).bind (regOf 8)).getD #[])) lex8) ?_
  case e => kernel_rfl
  repeat (go_big_quiet_step (first | (go_at_call 64; exact quiet_same (HP.out _))))
  refine wpQuiet_nil ?_
  intro _ hw'
  obtain ⟨nq, hw''⟩ := hw'
  subst hw''
  have HB3 : Hid (Below w.heap.size w (W.drewN nq)) := below_drewN HB0.out nq
  go_wp2
  go_ret
  exact ⟨rfl, HB3.out⟩

set_option maxRecDepth 20000 in
set_option maxHeartbeats 4000000 in
theorem Rtab_a0 (h : Hd) (b off ca : Nat) (so : Option Addr) (ns cs : Nat) (a p : Int) (w : World) (hk : h.k = 5) (c0 : w.cell? ⟨b, off, none⟩ = some (.int .i64 a)) (c1 : w.cell? ⟨b, off + 1, none⟩ = some (.int .i64 p)) (ga0 : a < 0) (fa0 : decide (0 ≤ a) = false) :
    Calls Try.prog 50 #[AO h (.slice (some ⟨b, off, none⟩) 2 ca) (.slice so ns cs)] w fun e w' => e = .returned (.bool false) ∧ Below w.heap.size w w' := by
  obtain ⟨k, c, aa, ww, s, f, x, l⟩ := h
  simp only at hk
  subst hk
  go_enter Try.func50, Try.ntmps50
  go_wp2_with fail
  have HB0 : Hid (Below w.heap.size w (w.alloc (.cells #[.int .i64 5, .int .i64 c, .int .i64 aa, .int .i64 ww, .int .i64 s, .int .i64 f, .int .i64 x, .int .i64 l, (.slice (some ⟨b, off, none⟩) 2 ca), (.slice so ns cs)] 43))) := (Below.refl _ _).alloc (Nat.le_refl _) _
  have q8 : (w.alloc (.cells #[.int .i64 5, .int .i64 c, .int .i64 aa, .int .i64 ww, .int .i64 s, .int .i64 f, .int .i64 x, .int .i64 l, (.slice (some ⟨b, off, none⟩) 2 ca), (.slice so ns cs)] 43)).cell? ⟨w.heap.size, 8, none⟩ = some ((.slice (some ⟨b, off, none⟩) 2 ca)) := by rw [World.cell?_alloc_at _ _ _ _ rfl]; rfl
  have q9 : (w.alloc (.cells #[.int .i64 5, .int .i64 c, .int .i64 aa, .int .i64 ww, .int .i64 s, .int .i64 f, .int .i64 x, .int .i64 l, (.slice (some ⟨b, off, none⟩) 2 ca), (.slice so ns cs)] 43)).cell? ⟨w.heap.size, 9, none⟩ = some ((.slice so ns cs)) := by rw [World.cell?_alloc_at _ _ _ _ rfl]; rfl
  generalize w.alloc (.cells #[.int .i64 5, .int .i64 c, .int .i64 aa, .int .i64 ww, .int .i64 s, .int .i64 f, .int .i64 x, .int .i64 l, (.slice (some ⟨b, off, none⟩) 2 ca), (.slice so ns cs)] 43) = W at HB0 q8 q9 ⊢
  have c0 : W.cell? ⟨b, off, none⟩ = some (.int .i64 a) := cell_later HB0.out c0
  have c1 : W.cell? ⟨b, off + 1, none⟩ = some (.int .i64 p) := cell_later HB0.out c1
  try simp only [List.append_eq, List.cons_append, List.nil_append]
  refine wp_region_quiet_lit (by kernel_rfl) (Eq.trans (congrArg (Region.lexB .any) (?e : _ = ((Try.f50.body).bind (regOf 8)).getD #[])) lex8) ?_
  case e => kernel_rfl
  repeat (go_big_quiet_step (first | (go_at_call 64; exact quiet_same (HP.out _))))
  refine wpQuiet_nil ?_
  intro _ hw'
  obtain ⟨nq, hw''⟩ := hw'
  subst hw''
  have HB3 : Hid (Below w.heap.size w (W.drewN nq)) := below_drewN HB0.out nq
  go_wp2
  go_ret
  exact ⟨rfl, HB3.out⟩

set_option maxRecDepth 20000 in
set_option maxHeartbeats 4000000 in
theorem Rtab_a1 (h : Hd) (b off ca : Nat) (so : Option Addr) (ns cs : Nat) (a p : Int) (w : World) (hk : h.k = 5) (c0 : w.cell? ⟨b, off, none⟩ = some (.int .i64 a)) (c1 : w.cell? ⟨b, off + 1, none⟩ = some (.int .i64 p)) (fa0 : 0 ≤ a) (ga1 : 4096 < a) (fa1 : decide (a ≤ 4096) = false) :
    Calls Try.prog 50 #[AO h (.slice (some ⟨b, off, none⟩) 2 ca) (.slice so ns cs)] w fun e w' => e = .returned (.bool false) ∧ Below w.heap.size w w' := by
  obtain ⟨k, c, aa, ww, s, f, x, l⟩ := h
  simp only at hk
  subst hk
  go_enter Try.func50, Try.ntmps50
  go_wp2_with fail
  have HB0 : Hid (Below w.heap.size w (w.alloc (.cells #[.int .i64 5, .int .i64 c, .int .i64 aa, .int .i64 ww, .int .i64 s, .int .i64 f, .int .i64 x, .int .i64 l, (.slice (some ⟨b, off, none⟩) 2 ca), (.slice so ns cs)] 43))) := (Below.refl _ _).alloc (Nat.le_refl _) _
  have q8 : (w.alloc (.cells #[.int .i64 5, .int .i64 c, .int .i64 aa, .int .i64 ww, .int .i64 s, .int .i64 f, .int .i64 x, .int .i64 l, (.slice (some ⟨b, off, none⟩) 2 ca), (.slice so ns cs)] 43)).cell? ⟨w.heap.size, 8, none⟩ = some ((.slice (some ⟨b, off, none⟩) 2 ca)) := by rw [World.cell?_alloc_at _ _ _ _ rfl]; rfl
  have q9 : (w.alloc (.cells #[.int .i64 5, .int .i64 c, .int .i64 aa, .int .i64 ww, .int .i64 s, .int .i64 f, .int .i64 x, .int .i64 l, (.slice (some ⟨b, off, none⟩) 2 ca), (.slice so ns cs)] 43)).cell? ⟨w.heap.size, 9, none⟩ = some ((.slice so ns cs)) := by rw [World.cell?_alloc_at _ _ _ _ rfl]; rfl
  generalize w.alloc (.cells #[.int .i64 5, .int .i64 c, .int .i64 aa, .int .i64 ww, .int .i64 s, .int .i64 f, .int .i64 x, .int .i64 l, (.slice (some ⟨b, off, none⟩) 2 ca), (.slice so ns cs)] 43) = W at HB0 q8 q9 ⊢
  have c0 : W.cell? ⟨b, off, none⟩ = some (.int .i64 a) := cell_later HB0.out c0
  have c1 : W.cell? ⟨b, off + 1, none⟩ = some (.int .i64 p) := cell_later HB0.out c1
  try simp only [List.append_eq, List.cons_append, List.nil_append]
  refine wp_region_quiet_lit (by kernel_rfl) (Eq.trans (congrArg (Region.lexB .any) (?e : _ = ((Try.f50.body).bind (regOf 8)).getD #[])) lex8) ?_
  case e => kernel_rfl
  repeat (go_big_quiet_step (first | (go_at_call 64; exact quiet_same (HP.out _))))
  refine wpQuiet_nil ?_
  intro _ hw'
  obtain ⟨nq, hw''⟩ := hw'
  subst hw''
  have HB3 : Hid (Below w.heap.size w (W.drewN nq)) := below_drewN HB0.out nq
  go_wp2
  go_ret
  exact ⟨rfl, HB3.out⟩

set_option maxRecDepth 20000 in
set_option maxHeartbeats 4000000 in
theorem Rtab_p0 (h : Hd) (b off ca : Nat) (so : Option Addr) (ns cs : Nat) (a p : Int) (w : World) (hk : h.k = 5) (c0 : w.cell? ⟨b, off, none⟩ = some (.int .i64 a)) (c1 : w.cell? ⟨b, off + 1, none⟩ = some (.int .i64 p)) (fa0 : 0 ≤ a) (fa1 : a ≤ 4096) (gp0 : p < 0) (fp0 : decide (0 ≤ p) = false) :
    Calls Try.prog 50 #[AO h (.slice (some ⟨b, off, none⟩) 2 ca) (.slice so ns cs)] w fun e w' => e = .returned (.bool false) ∧ Below w.heap.size w w' := by
  obtain ⟨k, c, aa, ww, s, f, x, l⟩ := h
  simp only at hk
  subst hk
  go_enter Try.func50, Try.ntmps50
  go_wp2_with fail
  have HB0 : Hid (Below w.heap.size w (w.alloc (.cells #[.int .i64 5, .int .i64 c, .int .i64 aa, .int .i64 ww, .int .i64 s, .int .i64 f, .int .i64 x, .int .i64 l, (.slice (some ⟨b, off, none⟩) 2 ca), (.slice so ns cs)] 43))) := (Below.refl _ _).alloc (Nat.le_refl _) _
  have q8 : (w.alloc (.cells #[.int .i64 5, .int .i64 c, .int .i64 aa, .int .i64 ww, .int .i64 s, .int .i64 f, .int .i64 x, .int .i64 l, (.slice (some ⟨b, off, none⟩) 2 ca), (.slice so ns cs)] 43)).cell? ⟨w.heap.size, 8, none⟩ = some ((.slice (some ⟨b, off, none⟩) 2 ca)) := by rw [World.cell?_alloc_at _ _ _ _ rfl]; rfl
  have q9 : (w.alloc (.cells #[.int .i64 5, .int .i64 c, .int .i64 aa, .int .i64 ww, .int .i64 s, .int .i64 f, .int .i64 x, .int .i64 l, (.slice (some ⟨b, off, none⟩) 2 ca), (.slice so ns cs)] 43)).cell? ⟨w.heap.size, 9, none⟩ = some ((.slice so ns cs)) := by rw [World.cell?_alloc_at _ _ _ _ rfl]; rfl
  generalize w.alloc (.cells #[.int .i64 5, .int .i64 c, .int .i64 aa, .int .i64 ww, .int .i64 s, .int .i64 f, .int .i64 x, .int .i64 l, (.slice (some ⟨b, off, none⟩) 2 ca), (.slice so ns cs)] 43) = W at HB0 q8 q9 ⊢
  have c0 : W.cell? ⟨b, off, none⟩ = some (.int .i64 a) := cell_later HB0.out c0
  have c1 : W.cell? ⟨b, off + 1, none⟩ = some (.int .i64 p) := cell_later HB0.out c1
  try simp only [List.append_eq, List.cons_append, List.nil_append]
  refine wp_region_quiet_lit (by kernel_rfl) (Eq.trans (congrArg (Region.lexB .any) (?e : _ = ((Try.f50.body).bind (regOf 8)).getD #[])) lex8) ?_
  case e => kernel_rfl
  repeat (go_big_quiet_step (first | (go_at_call 64; exact quiet_same (HP.out _))))
  refine wpQuiet_nil ?_
  intro _ hw'
  obtain ⟨nq, hw''⟩ := hw'
  subst hw''
  have HB3 : Hid (Below w.heap.size w (W.drewN nq)) := below_drewN HB0.out nq
  go_wp2
  go_ret
  exact ⟨rfl, HB3.out⟩

set_option maxRecDepth 20000 in
set_option maxHeartbeats 4000000 in
theorem Rtab_p1 (h : Hd) (b off ca : Nat) (so : Option Addr) (ns cs : Nat) (a p : Int) (w : World) (hk : h.k = 5) (c0 : w.cell? ⟨b, off, none⟩ = some (.int .i64 a)) (c1 : w.cell? ⟨b, off + 1, none⟩ = some (.int .i64 p)) (fa0 : 0 ≤ a) (fa1 : a ≤ 4096) (fp0 : 0 ≤ p) (gp1 : 4096 < p) (fp1 : decide (p ≤ 4096) = false) :
    Calls Try.prog 50 #[AO h (.slice (some ⟨b, off, none⟩) 2 ca) (.slice so ns cs)] w fun e w' => e = .returned (.bool false) ∧ Below w.heap.size w w' := by
  obtain ⟨k, c, aa, ww, s, f, x, l⟩ := h
  simp only at hk
  subst hk
  go_enter Try.func50, Try.ntmps50
  go_wp2_with fail
  have HB0 : Hid (Below w.heap.size w (w.alloc (.cells #[.int .i64 5, .int .i64 c, .int .i64 aa, .int .i64 ww, .int .i64 s, .int .i64 f, .int .i64 x, .int .i64 l, (.slice (some ⟨b, off, none⟩) 2 ca), (.slice so ns cs)] 43))) := (Below.refl _ _).alloc (Nat.le_refl _) _
  have q8 : (w.alloc (.cells #[.int .i64 5, .int .i64 c, .int .i64 aa, .int .i64 ww, .int .i64 s, .int .i64 f, .int .i64 x, .int .i64 l, (.slice (some ⟨b, off, none⟩) 2 ca), (.slice so ns cs)] 43)).cell? ⟨w.heap.size, 8, none⟩ = some ((.slice (some ⟨b, off, none⟩) 2 ca)) := by rw [World.cell?_alloc_at _ _ _ _ rfl]; rfl
  have q9 : (w.alloc (.cells #[.int .i64 5, .int .i64 c, .int .i64 aa, .int .i64 ww, .int .i64 s, .int .i64 f, .int .i64 x, .int .i64 l, (.slice (some ⟨b, off, none⟩) 2 ca), (.slice so ns cs)] 43)).cell? ⟨w.heap.size, 9, none⟩ = some ((.slice so ns cs)) := by rw [World.cell?_alloc_at _ _ _ _ rfl]; rfl
  generalize w.alloc (.cells #[.int .i64 5, .int .i64 c, .int .i64 aa, .int .i64 ww, .int .i64 s, .int .i64 f, .int .i64 x, .int .i64 l, (.slice (some ⟨b, off, none⟩) 2 ca), (.slice so ns cs)] 43) = W at HB0 q8 q9 ⊢
  have c0 : W.cell? ⟨b, off, none⟩ = some (.int .i64 a) := cell_later HB0.out c0
  have c1 : W.cell? ⟨b, off + 1, none⟩ = some (.int .i64 p) := cell_later HB0.out c1
  try simp only [List.append_eq, List.cons_append, List.nil_append]
  refine wp_region_quiet_lit (by kernel_rfl) (Eq.trans (congrArg (Region.lexB .any) (?e : _ = ((Try.f50.body).bind (regOf 8)).getD #[])) lex8) ?_
  case e => kernel_rfl
  repeat (go_big_quiet_step (first | (go_at_call 64; exact quiet_same (HP.out _))))
  refine wpQuiet_nil ?_
  intro _ hw'
  obtain ⟨nq, hw''⟩ := hw'
  subst hw''
  have HB3 : Hid (Below w.heap.size w (W.drewN nq)) := below_drewN HB0.out nq
  go_wp2
  go_ret
  exact ⟨rfl, HB3.out⟩

set_option maxRecDepth 20000 in
set_option maxHeartbeats 4000000 in
theorem Rtab_pow (h : Hd) (b off ca : Nat) (so : Option Addr) (ns cs : Nat) (a p : Int) (w : World) (hk : h.k = 5) (c0 : w.cell? ⟨b, off, none⟩ = some (.int .i64 a)) (c1 : w.cell? ⟨b, off + 1, none⟩ = some (.int .i64 p)) (fa0 : 0 ≤ a) (fa1 : a ≤ 4096) (fp0 : 0 ≤ p) (fp1 : p ≤ 4096) (HP : Hid (∀ W, Calls Try.prog 64 #[.int .i64 p] W fun e w' => e = .returned (.bool false) ∧ W = w')) :
    Calls Try.prog 50 #[AO h (.slice (some ⟨b, off, none⟩) 2 ca) (.slice so ns cs)] w fun e w' => e = .returned (.bool false) ∧ Below w.heap.size w w' := by
  obtain ⟨k, c, aa, ww, s, f, x, l⟩ := h
  simp only at hk
  subst hk
  go_enter Try.func50, Try.ntmps50
  go_wp2_with fail
  have HB0 : Hid (Below w.heap.size w (w.alloc (.cells #[.int .i64 5, .int .i64 c, .int .i64 aa, .int .i64 ww, .int .i64 s, .int .i64 f, .int .i64 x, .int .i64 l, (.slice (some ⟨b, off, none⟩) 2 ca), (.slice so ns cs)] 43))) := (Below.refl _ _).alloc (Nat.le_refl _) _
  have q8 : (w.alloc (.cells #[.int .i64 5, .int .i64 c, .int .i64 aa, .int .i64 ww, .int .i64 s, .int .i64 f, .int .i64 x, .int .i64 l, (.slice (some ⟨b, off, none⟩) 2 ca), (.slice so ns cs)] 43)).cell? ⟨w.heap.size, 8, none⟩ = some ((.slice (some ⟨b, off, none⟩) 2 ca)) := by rw [World.cell?_alloc_at _ _ _ _ rfl]; rfl
  have q9 : (w.alloc (.cells #[.int .i64 5, .int .i64 c, .int .i64 aa, .int .i64 ww, .int .i64 s, .int .i64 f, .int .i64 x, .int .i64 l, (.slice (some ⟨b, off, none⟩) 2 ca), (.slice so ns cs)] 43)).cell? ⟨w.heap.size, 9, none⟩ = some ((.slice so ns cs)) := by rw [World.cell?_alloc_at _ _ _ _ rfl]; rfl
  generalize w.alloc (.cells #[.int .i64 5, .int .i64 c, .int .i64 aa, .int .i64 ww, .int .i64 s, .int .i64 f, .int .i64 x, .int .i64 l, (.slice (some ⟨b, off, none⟩) 2 ca), (.slice so ns cs)] 43) = W at HB0 q8 q9 ⊢
  have c0 : W.cell? ⟨b, off, none⟩ = some (.int .i64 a) := cell_later HB0.out c0
  have c1 : W.cell? ⟨b, off + 1, none⟩ = some (.int .i64 p) := cell_later HB0.out c1
  try simp only [List.append_eq, List.cons_append, List.nil_append]
  refine wp_region_quiet_lit (by kernel_rfl) (Eq.trans (congrArg (Region.lexB .any) (?e : _ = ((Try.f50.body).bind (regOf 8)).getD #[])) lex8) ?_
  case e => kernel_rfl
  repeat (go_big_quiet_step (first | (go_at_call 64; exact quiet_same (HP.out _))))
  refine wpQuiet_nil ?_
  intro _ hw'
  obtain ⟨nq, hw''⟩ := hw'
  subst hw''
  have HB3 : Hid (Below w.heap.size w (W.drewN nq)) := below_drewN HB0.out nq
  go_wp2
  go_ret
  exact ⟨rfl, HB3.out⟩

set_option maxRecDepth 20000 in
set_option maxHeartbeats 4000000 in
theorem Rtab_num (h : Hd) (b off ca : Nat) (so : Option Addr) (ns cs : Nat) (a p : Int) (w : World) (hk : h.k = 5) (c0 : w.cell? ⟨b, off, none⟩ = some (.int .i64 a)) (c1 : w.cell? ⟨b, off + 1, none⟩ = some (.int .i64 p)) (fa0 : 0 ≤ a) (fa1 : a ≤ 4096) (fp0 : 0 ≤ p) (fp1 : p ≤ 4096) (HP : Hid (∀ W, Calls Try.prog 64 #[.int .i64 p] W fun e w' => e = .returned (.bool true) ∧ W = w')) (u1 : wrap64 (1 + a) = 1 + a) (u2 : wrap64 (2 * p) = 2 * p) (u3 : wrap64 (1 + a + 2 * p) = 1 + a + 2 * p) (fn : ((ns : Int) == 1 + a + 2 * p) = false) :
    Calls Try.prog 50 #[AO h (.slice (some ⟨b, off, none⟩) 2 ca) (.slice so ns cs)] w fun e w' => e = .returned (.bool false) ∧ Below w.heap.size w w' := by
  obtain ⟨k, c, aa, ww, s, f, x, l⟩ := h
  simp only at hk
  subst hk
  go_enter Try.func50, Try.ntmps50
  go_wp2_with fail
  have HB0 : Hid (Below w.heap.size w (w.alloc (.cells #[.int .i64 5, .int .i64 c, .int .i64 aa, .int .i64 ww, .int .i64 s, .int .i64 f, .int .i64 x, .int .i64 l, (.slice (some ⟨b, off, none⟩) 2 ca), (.slice so ns cs)] 43))) := (Below.refl _ _).alloc (Nat.le_refl _) _
  have q8 : (w.alloc (.cells #[.int .i64 5, .int .i64 c, .int .i64 aa, .int .i64 ww, .int .i64 s, .int .i64 f, .int .i64 x, .int .i64 l, (.slice (some ⟨b, off, none⟩) 2 ca), (.slice so ns cs)] 43)).cell? ⟨w.heap.size, 8, none⟩ = some ((.slice (some ⟨b, off, none⟩) 2 ca)) := by rw [World.cell?_alloc_at _ _ _ _ rfl]; rfl
  have q9 : (w.alloc (.cells #[.int .i64 5, .int .i64 c, .int .i64 aa, .int .i64 ww, .int .i64 s, .int .i64 f, .int .i64 x, .int .i64 l, (.slice (some ⟨b, off, none⟩) 2 ca), (.slice so ns cs)] 43)).cell? ⟨w.heap.size, 9, none⟩ = some ((.slice so ns cs)) := by rw [World.cell?_alloc_at _ _ _ _ rfl]; rfl
  generalize w.alloc (.cells #[.int .i64 5, .int .i64 c, .int .i64 aa, .int .i64 ww, .int .i64 s, .int .i64 f, .int .i64 x, .int .i64 l, (.slice (some ⟨b, off, none⟩) 2 ca), (.slice so ns cs)] 43) = W at HB0 q8 q9 ⊢
  have c0 : W.cell? ⟨b, off, none⟩ = some (.int .i64 a) := cell_later HB0.out c0
  have c1 : W.cell? ⟨b, off + 1, none⟩ = some (.int .i64 p) := cell_later HB0.out c1
  try simp only [List.append_eq, List.cons_append, List.nil_append]
  refine wp_region_quiet_lit (by kernel_rfl) (Eq.trans (congrArg (Region.lexB .any) (?e : _ = ((Try.f50.body).bind (regOf 8)).getD #[])) lex8) ?_
  case e => kernel_rfl
  repeat (go_big_quiet_step (first | (go_at_call 64; exact quiet_same (HP.out _))))
  refine wpQuiet_nil ?_
  intro _ hw'
  obtain ⟨nq, hw''⟩ := hw'
  subst hw''
  have HB3 : Hid (Below w.heap.size w (W.drewN nq)) := below_drewN HB0.out nq
  go_wp2
  go_ret
  exact ⟨rfl, HB3.out⟩

set_option maxRecDepth 20000 in
set_option maxHeartbeats 4000000 in
theorem Rtab_t0 (h : Hd) (b off ca b2 off2 : Nat) (ns cs : Nat) (a p t : Int) (w : World) (hk : h.k = 5) (c0 : w.cell? ⟨b, off, none⟩ = some (.int .i64 a)) (c1 : w.cell? ⟨b, off + 1, none⟩ = some (.int .i64 p)) (c2 : w.cell? ⟨b2, off2, none⟩ = some (.int .i64 t)) (n1 : (0 : Int) < (ns : Int)) (fa0 : 0 ≤ a) (fa1 : a ≤ 4096) (fp0 : 0 ≤ p) (fp1 : p ≤ 4096) (HP : Hid (∀ W, Calls Try.prog 64 #[.int .i64 p] W fun e w' => e = .returned (.bool true) ∧ W = w')) (u1 : wrap64 (1 + a) = 1 + a) (u2 : wrap64 (2 * p) = 2 * p) (u3 : wrap64 (1 + a + 2 * p) = 1 + a + 2 * p) (fn : ((ns : Int) == 1 + a + 2 * p) = true) (ft : (t == 0) = true) :
    Calls Try.prog 50 #[AO h (.slice (some ⟨b, off, none⟩) 2 ca) (.slice (some ⟨b2, off2, none⟩) ns cs)] w fun e w' => e = .returned (.bool true) ∧ Below w.heap.size w w' := by
  obtain ⟨k, c, aa, ww, s, f, x, l⟩ := h
  simp only at hk
  subst hk
  go_enter Try.func50, Try.ntmps50
  go_wp2_with fail
  have HB0 : Hid (Below w.heap.size w (w.alloc (.cells #[.int .i64 5, .int .i64 c, .int .i64 aa, .int .i64 ww, .int .i64 s, .int .i64 f, .int .i64 x, .int .i64 l, (.slice (some ⟨b, off, none⟩) 2 ca), (.slice (some ⟨b2, off2, none⟩) ns cs)] 43))) := (Below.refl _ _).alloc (Nat.le_refl _) _
  have q8 : (w.alloc (.cells #[.int .i64 5, .int .i64 c, .int .i64 aa, .int .i64 ww, .int .i64 s, .int .i64 f, .int .i64 x, .int .i64 l, (.slice (some ⟨b, off, none⟩) 2 ca), (.slice (some ⟨b2, off2, none⟩) ns cs)] 43)).cell? ⟨w.heap.size, 8, none⟩ = some ((.slice (some ⟨b, off, none⟩) 2 ca)) := by rw [World.cell?_alloc_at _ _ _ _ rfl]; rfl
  have q9 : (w.alloc (.cells #[.int .i64 5, .int .i64 c, .int .i64 aa, .int .i64 ww, .int .i64 s, .int .i64 f, .int .i64 x, .int .i64 l, (.slice (some ⟨b, off, none⟩) 2 ca), (.slice (some ⟨b2, off2, none⟩) ns cs)] 43)).cell? ⟨w.heap.size, 9, none⟩ = some ((.slice (some ⟨b2, off2, none⟩) ns cs)) := by rw [World.cell?_alloc_at _ _ _ _ rfl]; rfl
  generalize w.alloc (.cells #[.int .i64 5, .int .i64 c, .int .i64 aa, .int .i64 ww, .int .i64 s, .int .i64 f, .int .i64 x, .int .i64 l, (.slice (some ⟨b, off, none⟩) 2 ca), (.slice (some ⟨b2, off2, none⟩) ns cs)] 43) = W at HB0 q8 q9 ⊢
  have c0 : W.cell? ⟨b, off, none⟩ = some (.int .i64 a) := cell_later HB0.out c0
  have c1 : W.cell? ⟨b, off + 1, none⟩ = some (.int .i64 p) := cell_later HB0.out c1
  have c2 : W.cell? ⟨b2, off2, none⟩ = some (.int .i64 t) := cell_later HB0.out c2
  try simp only [List.append_eq, List.cons_append, List.nil_append]
  refine wp_region_quiet_lit (by kernel_rfl) (Eq.trans (congrArg (Region.lexB .any) (?e : _ = ((Try.f50.body).bind (regOf 8)).getD #[])) lex8) ?_
  case e => kernel_rfl
  repeat (go_big_quiet_step (first | (go_at_call 64; exact quiet_same (HP.out _))))
  refine wpQuiet_nil ?_
  intro _ hw'
  obtain ⟨nq, hw''⟩ := hw'
  subst hw''
  have HB3 : Hid (Below w.heap.size w (W.drewN nq)) := below_drewN HB0.out nq
  go_wp2
  go_ret
  exact ⟨rfl, HB3.out⟩

set_option maxRecDepth 20000 in
set_option maxHeartbeats 4000000 in
theorem Rtab_t5 (h : Hd) (b off ca b2 off2 : Nat) (ns cs : Nat) (a p t : Int) (w : World) (hk : h.k = 5) (c0 : w.cell? ⟨b, off, none⟩ = some (.int .i64 a)) (c1 : w.cell? ⟨b, off + 1, none⟩ = some (.int .i64 p)) (c2 : w.cell? ⟨b2, off2, none⟩ = some (.int .i64 t)) (n1 : (0 : Int) < (ns : Int)) (fa0 : 0 ≤ a) (fa1 : a ≤ 4096) (fp0 : 0 ≤ p) (fp1 : p ≤ 4096) (HP : Hid (∀ W, Calls Try.prog 64 #[.int .i64 p] W fun e w' => e = .returned (.bool true) ∧ W = w')) (u1 : wrap64 (1 + a) = 1 + a) (u2 : wrap64 (2 * p) = 2 * p) (u3 : wrap64 (1 + a + 2 * p) = 1 + a + 2 * p) (fn : ((ns : Int) == 1 + a + 2 * p) = true) (ft : (t == 0) = false) :
    Calls Try.prog 50 #[AO h (.slice (some ⟨b, off, none⟩) 2 ca) (.slice (some ⟨b2, off2, none⟩) ns cs)] w fun e w' => e = .returned (.bool (t == 5)) ∧ Below w.heap.size w w' := by
  obtain ⟨k, c, aa, ww, s, f, x, l⟩ := h
  simp only at hk
  subst hk
  go_enter Try.func50, Try.ntmps50
  go_wp2_with fail
  have HB0 : Hid (Below w.heap.size w (w.alloc (.cells #[.int .i64 5, .int .i64 c, .int .i64 aa, .int .i64 ww, .int .i64 s, .int .i64 f, .int .i64 x, .int .i64 l, (.slice (some ⟨b, off, none⟩) 2 ca), (.slice (some ⟨b2, off2, none⟩) ns cs)] 43))) := (Below.refl _ _).alloc (Nat.le_refl _) _
  have q8 : (w.alloc (.cells #[.int .i64 5, .int .i64 c, .int .i64 aa, .int .i64 ww, .int .i64 s, .int .i64 f, .int .i64 x, .int .i64 l, (.slice (some ⟨b, off, none⟩) 2 ca), (.slice (some ⟨b2, off2, none⟩) ns cs)] 43)).cell? ⟨w.heap.size, 8, none⟩ = some ((.slice (some ⟨b, off, none⟩) 2 ca)) := by rw [World.cell?_alloc_at _ _ _ _ rfl]; rfl
  have q9 : (w.alloc (.cells #[.int .i64 5, .int .i64 c, .int .i64 aa, .int .i64 ww, .int .i64 s, .int .i64 f, .int .i64 x, .int .i64 l, (.slice (some ⟨b, off, none⟩) 2 ca), (.slice (some ⟨b2, off2, none⟩) ns cs)] 43)).cell? ⟨w.heap.size, 9, none⟩ = some ((.slice (some ⟨b2, off2, none⟩) ns cs)) := by rw [World.cell?_alloc_at _ _ _ _ rfl]; rfl
  generalize w.alloc (.cells #[.int .i64 5, .int .i64 c, .int .i64 aa, .int .i64 ww, .int .i64 s, .int .i64 f, .int .i64 x, .int .i64 l, (.slice (some ⟨b, off, none⟩) 2 ca), (.slice (some ⟨b2, off2, none⟩) ns cs)] 43) = W at HB0 q8 q9 ⊢
  have c0 : W.cell? ⟨b, off, none⟩ = some (.int .i64 a) := cell_later HB0.out c0
  have c1 : W.cell? ⟨b, off + 1, none⟩ = some (.int .i64 p) := cell_later HB0.out c1
  have c2 : W.cell? ⟨b2, off2, none⟩ = some (.int .i64 t) := cell_later HB0.out c2
  try simp only [List.append_eq, List.cons_append, List.nil_append]
  refine wp_region_quiet_lit (by kernel_rfl) (Eq.trans (congrArg (Region.lexB .any) (?e : _ = ((Try.f50.body).bind (regOf 8)).getD #[])) lex8) ?_
  case e => kernel_rfl
  repeat (go_big_quiet_step (first | (go_at_call 64; exact quiet_same (HP.out _))))
  refine wpQuiet_nil ?_
  intro _ hw'
  obtain ⟨nq, hw''⟩ := hw'
  subst hw''
  have HB3 : Hid (Below w.heap.size w (W.drewN nq)) := below_drewN HB0.out nq
  go_wp2
  go_ret
  exact ⟨rfl, HB3.out⟩
end Go.Proofs.Ytnmchcanijkggaa
