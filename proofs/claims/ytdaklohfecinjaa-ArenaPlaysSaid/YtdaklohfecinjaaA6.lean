/- putBehind: a block comes to lie right behind another one. -/
import Derived.Test.YtdaklohfecinjaaA5
namespace Go.Proofs.Ytdaklohfecinjaa
open Go.RowKit
set_option linter.unusedSimpArgs false
set_option linter.unusedVariables false

set_option maxHeartbeats 1000000 in
theorem putB_last {A C M F f size least b x ba bs xa xs n : Nat} {cs : List Int} {bah bbh xp : Option Nat} (w : World) (hA : w.heap[A]? = some (ar C M F f size least)) (hC : w.heap[C]? = some (cl cs)) (hcs : cs.length = size)
    (hb : w.heap[b]? = some (nd ba bs bah bbh)) (hx : w.heap[x]? = some (nd xa xs xp none)) (hne : b ≠ x)
    (hn : 1 ≤ n) (h1 : ba + bs ≤ size) (h2 : xa + xs + n ≤ size) (h3 : size ≤ 65536) (h4 : ba < size) :
    Calls Try.prog 60 #[.pointer (some ⟨A, 0, none⟩), .pointer (some ⟨x, 0, none⟩), .pointer (some ⟨b, 0, none⟩), .int .i64 n] w fun e w' => (∃ v, e = .returned v) ∧ w'.heap[C]? = some (cl (layC cs ba (min n bs) (xa + xs) n)) ∧
      w'.heap[b]? = some (nd (xa + xs) n (some x) none) ∧ w'.heap[x]? = some (nd xa xs xp (some b)) ∧ Kept (fun k => k = C ∨ k = b ∨ k = x) w w' ∧ w'.heap.size = w.heap.size := by
  have HA : Hid (w.heap[A]? = some (ar C M F f size least)) := hA
  have HC : Hid (w.heap[C]? = some (cl cs)) := hC
  have HB : Hid (w.heap[b]? = some (nd ba bs bah bbh)) := hb
  have HX : Hid (w.heap[x]? = some (nd xa xs xp none)) := hx
  have hCb : C ≠ b := cl_nd hC hb
  have hCx : C ≠ x := cl_nd hC hx
  have hAb : A ≠ b := ar_nd hA hb
  have hAx : A ≠ x := ar_nd hA hx
  clear hA hC hb hx
  go_enter Try.func60, Try.ntmps60
  go_wp2_with (go_at_call 64; refine (link_last _ HB.out HX.out hne).mono ?_; rintro e w1 ⟨⟨v1, rfl⟩, hb1, hx1, hk1, hs1⟩)
  have HA1 : Hid (w1.heap[A]? = some (ar C M F f size least)) := hk1.heap HA.out (by omega)
  have HC1 : Hid (w1.heap[C]? = some (cl cs)) := hk1.heap HC.out (by omega)
  have HB1 : Hid (w1.heap[b]? = some (nd ba bs (some x) none)) := hb1
  have HX1 : Hid (w1.heap[x]? = some (nd xa xs xp (some b))) := hx1
  have HK1 : Hid (Kept (fun k => k = b ∨ k = x) w w1) := hk1
  have HS1 : Hid (w1.heap.size = w.heap.size) := hs1
  clear hb1 hx1 hk1 hs1
  go_wp2_with (go_at_call 57; refine (end_any _ HX1.out (by omega)).mono ?_; rintro e w2 ⟨rfl, n2, rfl⟩)
  go_wp2_with (go_at_call 62; refine (lay_any (w1.drewN n2) HA1.out HC1.out hcs HB1.out hn h1 h2 h3 h4).mono ?_; rintro e w3 ⟨⟨v3, rfl⟩, hc3, hb3, hk3, hs3⟩)
  go_end0
  refine ⟨⟨_, rfl⟩, hc3, hb3, hk3.heap HX1.out (by omega), ?_, hs3.trans HS1.out⟩
  exact ((HK1.out.mono (fun k e => by omega)).drewN n2).trans (hk3.mono (fun i e => by omega))
set_option maxHeartbeats 1000000 in
theorem putB_mid {A C M F f size least b x ba bs xa xs n : Nat} {cs : List Int} {y ya ys : Nat} {bah bbh xp yp yn : Option Nat} (w : World) (hA : w.heap[A]? = some (ar C M F f size least)) (hC : w.heap[C]? = some (cl cs)) (hcs : cs.length = size)
    (hb : w.heap[b]? = some (nd ba bs bah bbh)) (hx : w.heap[x]? = some (nd xa xs xp (some y))) (hy : w.heap[y]? = some (nd ya ys yp yn)) (hne : b ≠ x) (hby : b ≠ y) (hxy : x ≠ y)
    (hn : 1 ≤ n) (h1 : ba + bs ≤ size) (h2 : xa + xs + n ≤ size) (h3 : size ≤ 65536) (h4 : ba < size) :
    Calls Try.prog 60 #[.pointer (some ⟨A, 0, none⟩), .pointer (some ⟨x, 0, none⟩), .pointer (some ⟨b, 0, none⟩), .int .i64 n] w fun e w' => (∃ v, e = .returned v) ∧ w'.heap[C]? = some (cl (layC cs ba (min n bs) (xa + xs) n)) ∧
      w'.heap[b]? = some (nd (xa + xs) n (some x) (some y)) ∧ w'.heap[x]? = some (nd xa xs xp (some b)) ∧ w'.heap[y]? = some (nd ya ys (some b) yn) ∧ Kept (fun k => k = C ∨ k = b ∨ k = x ∨ k = y) w w' ∧ w'.heap.size = w.heap.size := by
  have HA : Hid (w.heap[A]? = some (ar C M F f size least)) := hA
  have HC : Hid (w.heap[C]? = some (cl cs)) := hC
  have HB : Hid (w.heap[b]? = some (nd ba bs bah bbh)) := hb
  have HX : Hid (w.heap[x]? = some (nd xa xs xp (some y))) := hx
  have HY : Hid (w.heap[y]? = some (nd ya ys yp yn)) := hy
  have hCy : C ≠ y := cl_nd hC hy
  have hAy : A ≠ y := ar_nd hA hy
  have hCb : C ≠ b := cl_nd hC hb
  have hCx : C ≠ x := cl_nd hC hx
  have hAb : A ≠ b := ar_nd hA hb
  have hAx : A ≠ x := ar_nd hA hx
  clear hA hC hb hx hy
  go_enter Try.func60, Try.ntmps60
  go_wp2_with (go_at_call 64; refine (link_mid _ HB.out HX.out HY.out hne hby hxy).mono ?_; rintro e w1 ⟨⟨v1, rfl⟩, hb1, hx1, hy1, hk1, hs1⟩)
  have HA1 : Hid (w1.heap[A]? = some (ar C M F f size least)) := hk1.heap HA.out (by omega)
  have HC1 : Hid (w1.heap[C]? = some (cl cs)) := hk1.heap HC.out (by omega)
  have HB1 : Hid (w1.heap[b]? = some (nd ba bs (some x) (some y))) := hb1
  have HX1 : Hid (w1.heap[x]? = some (nd xa xs xp (some b))) := hx1
  have HY1 : Hid (w1.heap[y]? = some (nd ya ys (some b) yn)) := hy1
  have HK1 : Hid (Kept (fun k => k = b ∨ k = x ∨ k = y) w w1) := hk1
  have HS1 : Hid (w1.heap.size = w.heap.size) := hs1
  clear hb1 hx1 hy1 hk1 hs1
  go_wp2_with (go_at_call 57; refine (end_any _ HX1.out (by omega)).mono ?_; rintro e w2 ⟨rfl, n2, rfl⟩)
  go_wp2_with (go_at_call 62; refine (lay_any (w1.drewN n2) HA1.out HC1.out hcs HB1.out hn h1 h2 h3 h4).mono ?_; rintro e w3 ⟨⟨v3, rfl⟩, hc3, hb3, hk3, hs3⟩)
  go_end0
  refine ⟨⟨_, rfl⟩, hc3, hb3, hk3.heap HX1.out (by omega), hk3.heap HY1.out (by omega), ?_, hs3.trans HS1.out⟩
  exact ((HK1.out.mono (fun k e => by omega)).drewN n2).trans (hk3.mono (fun i e => by omega))
end Go.Proofs.Ytdaklohfecinjaa
