/- Two rows of handles held against each other; plain facts for ArenaFirst. -/
import Derived.Test.YtdaklohfecinjaaP2
namespace Go.Proofs.Ytdaklohfecinjaa
open Go.RowKit Go.Maps Go.Sort Go.Shelf
set_option linter.unusedSimpArgs false
set_option linter.unusedVariables false

/-- A slice whose cells are the handles of xs. -/
def HRow (w : World) (v : Value) (xs : List (Nat × Nd)) : Prop :=
  ∃ ao cap, v = .slice ao xs.length cap ∧ xs.length ≤ cap ∧ ∀ k (hk : k < xs.length), ∃ g, ao = some ⟨g, 0, none⟩ ∧ ∀ j (hj : j < xs.length), w.cell? ⟨g, j, none⟩ = some (.int .i64 (xs[j].1 : Int))
theorem HRow.heap {w w' : World} {v : Value} {xs : List (Nat × Nd)} (h : HRow w v xs) (hh : ∀ g, v.ownBlock = some g → w'.heap[g]? = w.heap[g]?) : HRow w' v xs := by
  obtain ⟨ao, cap, rfl, h1, h2⟩ := h
  refine ⟨ao, cap, rfl, h1, fun k hk => ?_⟩
  obtain ⟨g, rfl, h3⟩ := h2 k hk
  refine ⟨g, rfl, fun j hj => ?_⟩
  rw [← h3 j hj]
  simp [World.cell?, hh g rfl]

set_option maxHeartbeats 1000000 in
theorem Ints_same {w : World} {v1 v2 : Value} {xs : List (Nat × Nd)} (h1 : HRow w v1 xs) (h2 : HRow w v2 xs) (hl : xs.length ≤ 65536) :
    Calls Try.prog 33 #[v1, v2] w fun e w' => e = .returned (.bool true) ∧ Kept No w w' := by
  obtain ⟨a1, c1, rfl, k1, q1⟩ := h1
  obtain ⟨a2, c2, rfl, k2, q2⟩ := h2
  have H1 : Hid (∀ k (hk : k < xs.length), ∃ g, a1 = some ⟨g, 0, none⟩ ∧ ∀ j (hj : j < xs.length), w.cell? ⟨g, j, none⟩ = some (.int .i64 (xs[j].1 : Int))) := q1
  have H2 : Hid (∀ k (hk : k < xs.length), ∃ g, a2 = some ⟨g, 0, none⟩ ∧ ∀ j (hj : j < xs.length), w.cell? ⟨g, j, none⟩ = some (.int .i64 (xs[j].1 : Int))) := q2
  clear q1 q2
  go_enter Try.func33, Try.ntmps33
  go_wp2_with fail
  go_loopw [5] (fun i wr => ∃ k : Nat, k ≤ xs.length ∧ i = .int .i64 k ∧ Hid (wr.heap = w.heap ∧ Kept No w wr)) (fun i _ => xs.length - (intOf i).toNat)
  case atStart => exact ⟨0, Nat.zero_le _, rfl, rfl, Kept.refl _ _⟩
  case round =>
    obtain ⟨k, hk, rfl, hw⟩ := hrel
    by_cases hlt : k < xs.length
    · obtain ⟨g1, e1, r1⟩ := H1.out k hlt
      obtain ⟨g2, e2, r2⟩ := H2.out k hlt
      have d1 : wr.cell? ⟨g1, k, none⟩ = some (.int .i64 (xs[k].1 : Int)) := by rw [← r1 k hlt]; simp [World.cell?, hw.out.1]
      have d2 : wr.cell? ⟨g2, k, none⟩ = some (.int .i64 (xs[k].1 : Int)) := by rw [← r2 k hlt]; simp [World.cell?, hw.out.1]
      obtain ⟨x, Hx⟩ : ∃ x : Int, Hid ((xs[k].1 : Int) = x) := ⟨(xs[k].1 : Int), (show (xs[k].1 : Int) = (xs[k].1 : Int) from rfl)⟩
      rw [Hx.out] at d1 d2
      have t1 : (0 : Int) ≤ (k : Int) := by omega
      have t2 : (k : Int) < (xs.length : Int) := by omega
      have t3 : (k : Int).toNat = k := by omega
      have HW2 : Hid (∀ q, (wr.drewN q).heap = w.heap ∧ Kept No w (wr.drewN q)) := fun q => ⟨hw.out.1, hw.out.2.drewN q⟩
      subst e1 e2
      clear r1 r2
      go_wp2_with fail
      go_quiet (fail)
      go_wp2
      go_round
      case rel => exact ⟨k + 1, by omega, by go_num, HW2.out _⟩
      case measure => simp [intOf]; omega
    · have he : k = xs.length := by omega
      subst he
      go_wp2
      go_ret
      exact ⟨rfl, hw.out.2⟩

theorem count_one {α : Type} {p : α → Bool} : ∀ {l : List α} {x : α}, l.Nodup → x ∈ l → p x = true → (∀ y ∈ l, p y = true → y = x) → l.countP p = 1
  | a :: l, x, hn, hx, hp, hu => by
    rw [List.nodup_cons] at hn
    rw [List.countP_cons]
    rcases List.mem_cons.1 hx with e | e
    · subst e
      have h0 : l.countP p = 0 := List.countP_eq_zero.2 (fun y hy hpy => by
        have := hu y (List.mem_cons_of_mem _ hy) hpy
        subst this; exact hn.1 hy)
      rw [h0, if_pos hp]
    · have hpa : ¬ p a = true := fun h => by
        have := hu a (List.mem_cons_self ..) h
        subst this; exact hn.1 e
      rw [if_neg hpa, count_one hn.2 e hp (fun y hy h => hu y (List.mem_cons_of_mem _ hy) h)]

/-- Just one block ends where the new one begins, or it begins at 0. -/
theorem ends_one {w : World} {A C M F f size least n : Nat} {cs : List Int} {hb : List (Nat × Nd)} (h : Rp w A C M F f size least n cs hb) {k : Nat} (hk : k < (nodes F hb).length) {xs : List (Nat × Nd)} (hp : xs.Perm hb) :
    (nodes F hb)[k].a + (nodes F hb)[k].s = 0 ∨ xs.countP (fun x => x.2.a + x.2.s == (nodes F hb)[k].a + (nodes F hb)[k].s) = 1 := by
  cases k with
  | zero => left; simp [nodes]
  | succ k =>
    right
    have hk' : k < hb.length := by simpa [nodes] using hk
    have hat : (nodes F hb)[k + 1] = hb[k].2 := by simp [nodes]
    rw [hat, hp.countP_eq]
    have hn : hb.Nodup := (List.pairwise_map.1 h.hnd).imp (fun h1 e => h1 (by rw [e]))
    refine count_one hn (List.getElem_mem hk') (by simp) (fun y hy hpy => ?_)
    have e : y.2.a + y.2.s = hb[k].2.a + hb[k].2.s := by simpa using hpy
    have p1 := (h.pos y hy).1
    have p2 := (h.pos hb[k] (List.getElem_mem hk')).1
    by_cases hne : y.1 = hb[k].1
    · have e1 := look_mem h.hnd hy
      rw [hne, look_mem h.hnd (List.getElem_mem hk')] at e1
      injection e1 with e1
      have hnp : (hb.map fun x => x.2.p).Nodup := by
        have := h.nod
        simp only [nodes, List.map_cons, List.nodup_cons, List.map_map] at this
        exact this.2
      exact p_inj hnp hy (List.getElem_mem hk') e1.symm
    · have := h.apart hy (List.getElem_mem hk') hne
      omega
end Go.Proofs.Ytdaklohfecinjaa
