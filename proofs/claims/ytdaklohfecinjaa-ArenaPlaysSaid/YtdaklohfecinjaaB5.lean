/- putBehind and unlink, on the order as a list. -/
import Derived.Test.YtdaklohfecinjaaB4
namespace Go.Proofs.Ytdaklohfecinjaa
open Go.RowKit
set_option linter.unusedSimpArgs false
set_option linter.unusedVariables false

theorem split_nodup {X Y : List Nd} {x : Nd} (h : ((X ++ x :: Y).map Nd.p).Nodup) : (∀ y ∈ X, y.p ≠ x.p) ∧ (∀ y ∈ Y, y.p ≠ x.p) ∧ (∀ y ∈ X, ∀ z ∈ Y, y.p ≠ z.p) ∧ (Y.map Nd.p).Nodup := by
  rw [List.map_append, List.map_cons, List.nodup_append, List.nodup_cons] at h
  obtain ⟨_, ⟨h1, h2⟩, h3⟩ := h
  exact ⟨fun y hy e => h3 y.p (List.mem_map_of_mem hy) x.p (by simp) e, fun y hy e => h1 (by rw [← e]; exact List.mem_map_of_mem hy), fun y hy z hz e => h3 y.p (List.mem_map_of_mem hy) z.p (by simp; exact .inr ⟨z, hz, rfl⟩) e, h2⟩

/-- What putBehind may turn. -/
def PB (C b : Nat) (l : List Nd) : Nat → Prop := fun k => k = C ∨ k = b ∨ k ∈ l.map Nd.p

theorem mem_mid {X Y : List Nd} {x : Nd} : x.p ∈ (X ++ x :: Y).map Nd.p := List.mem_map_of_mem (List.mem_append.2 (.inr List.mem_cons_self))

theorem putB_list {A C M F f size least b ba bs n : Nat} {cs : List Int} {bah bbh : Option Nat} {X Y : List Nd} {x : Nd} (w : World) (hA : w.heap[A]? = some (ar C M F f size least)) (hC : w.heap[C]? = some (cl cs)) (hcs : cs.length = size)
    (hs : Seg w none (X ++ x :: Y) none) (hnd : ((X ++ x :: Y).map Nd.p).Nodup) (hb : w.heap[b]? = some (nd ba bs bah bbh)) (hbn : b ∉ (X ++ x :: Y).map Nd.p)
    (hn : 1 ≤ n) (h1 : ba + bs ≤ size) (h2 : x.a + x.s + n ≤ size) (h3 : size ≤ 65536) (h4 : ba < size) :
    Calls Try.prog 60 #[.pointer (some ⟨A, 0, none⟩), .pointer (some ⟨x.p, 0, none⟩), .pointer (some ⟨b, 0, none⟩), .int .i64 n] w fun e w' => (∃ v, e = .returned v) ∧ w'.heap[C]? = some (cl (layC cs ba (min n bs) (x.a + x.s) n)) ∧
      Seg w' none (X ++ x :: ⟨b, x.a + x.s, n⟩ :: Y) none ∧ Kept (PB C b (X ++ x :: Y)) w w' ∧ w'.heap.size = w.heap.size := by
  have hs0 := hs
  rw [Seg_append] at hs
  obtain ⟨hX, hx, hY⟩ := hs
  obtain ⟨d1, d2, d3, d4⟩ := split_nodup hnd
  have hbx : b ≠ x.p := fun e => hbn (by rw [e]; exact mem_mid)
  have hXC : ∀ y ∈ X, y.p ≠ C := fun y hy e => by
    obtain ⟨k, hk, rfl⟩ := List.getElem_of_mem hy
    obtain ⟨ah, hy'⟩ := hX.at hk
    exact cl_nd hC hy' e.symm
  have hXb : ∀ y ∈ X, y.p ≠ b := fun y hy e => hbn (by rw [← e]; exact List.mem_map_of_mem (List.mem_append.2 (.inl hy)))
  have hYb : ∀ y ∈ Y, y.p ≠ b := fun y hy e => hbn (by rw [← e]; exact List.mem_map_of_mem (List.mem_append.2 (.inr (List.mem_cons_of_mem _ hy))))
  have hYC : ∀ y ∈ Y, y.p ≠ C := fun y hy e => by
    obtain ⟨k, hk, rfl⟩ := List.getElem_of_mem hy
    obtain ⟨ah, hy'⟩ := hY.at hk
    exact cl_nd hC hy' e.symm
  cases Y with
  | nil =>
    refine (putB_last w hA hC hcs hb hx hbx hn h1 h2 h3 h4).mono ?_
    rintro e w' ⟨hv, hc, hb', hx', hk, hsz⟩
    refine ⟨hv, hc, ?_, hk.mono (fun k e => ?_), hsz⟩
    · rw [Seg_append]
      exact ⟨hX.kept hk (fun y hy e => by
        rcases e with e | e | e
        · exact hXC y hy e
        · exact hXb y hy e
        · exact d1 y hy e), hx', hb', trivial⟩
    · rcases e with e | e | e
      · exact .inl e
      · exact .inr (.inl e)
      · exact .inr (.inr (by rw [e]; exact mem_mid))
  | cons y Y =>
    obtain ⟨hy, hY'⟩ := hY
    have hxy : x.p ≠ y.p := fun e => d2 y (by simp) e.symm
    have d4' : ∀ z ∈ Y, z.p ≠ y.p := fun z hz e => (List.nodup_cons.1 d4).1 (by rw [← e]; exact List.mem_map_of_mem hz)
    refine (putB_mid w hA hC hcs hb hx hy hbx (fun e => hYb y (by simp) e.symm) hxy hn h1 h2 h3 h4).mono ?_
    rintro e w' ⟨hv, hc, hb', hx', hy', hk, hsz⟩
    refine ⟨hv, hc, ?_, hk.mono (fun k e => ?_), hsz⟩
    · rw [Seg_append]
      refine ⟨hX.kept hk (fun z hz e => ?_), hx', hb', hy', hY'.kept hk (fun z hz e => ?_)⟩
      · rcases e with e | e | e | e
        · exact hXC z hz e
        · exact hXb z hz e
        · exact d1 z hz e
        · exact d3 z hz y (by simp) e
      · rcases e with e | e | e | e
        · exact hYC z (by simp [hz]) e
        · exact hYb z (by simp [hz]) e
        · exact d2 z (by simp [hz]) e
        · exact d4' z hz e
    · rcases e with e | e | e | e
      · exact .inl e
      · exact .inr (.inl e)
      · exact .inr (.inr (by rw [e]; exact mem_mid))
      · exact .inr (.inr (by rw [e]; exact List.mem_map_of_mem (List.mem_append.2 (.inr (by simp)))))

/-- What unlink may turn. -/
def UL (A : Nat) (l : List Nd) : Nat → Prop := fun k => k = A ∨ k ∈ l.map Nd.p

theorem unlink_list {A C M F f size least fa fs : Nat} {fp fn : Option Nat} {X Y : List Nd} {x b : Nd} (w : World) (hA : w.heap[A]? = some (ar C M F f size least)) (hf : w.heap[f]? = some (nd fa fs fp fn)) (hbd : fa + fs ≤ 65536)
    (hs : Seg w none (X ++ x :: b :: Y) none) (hnd : ((X ++ x :: b :: Y).map Nd.p).Nodup) :
    Calls Try.prog 63 #[.pointer (some ⟨A, 0, none⟩), .pointer (some ⟨b.p, 0, none⟩)] w fun e w' => (∃ v, e = .returned v) ∧ w'.heap[A]? = some (ar C M F (nf b.a (fa + fs) x.p f) size least) ∧ w'.heap[b.p]? = some (nd b.a b.s (some x.p) (hd Y none)) ∧
      Seg w' none (X ++ x :: Y) none ∧ Kept (UL A (X ++ x :: Y)) w w' ∧ w'.heap.size = w.heap.size := by
  rw [Seg_append] at hs
  obtain ⟨hX, hx, hb, hY⟩ := hs
  obtain ⟨d1, d2, d3, d4⟩ := split_nodup hnd
  have hbx : b.p ≠ x.p := d2 b (by simp)
  have d4' : ∀ z ∈ Y, z.p ≠ b.p := fun z hz e => (List.nodup_cons.1 d4).1 (by rw [← e]; exact List.mem_map_of_mem hz)
  have hXA : ∀ y ∈ X, y.p ≠ A := fun y hy e => by
    obtain ⟨k, hk, rfl⟩ := List.getElem_of_mem hy
    obtain ⟨ah, hy'⟩ := hX.at hk
    exact ar_nd hA hy' e.symm
  have hYA : ∀ y ∈ Y, y.p ≠ A := fun y hy e => by
    obtain ⟨k, hk, rfl⟩ := List.getElem_of_mem hy
    obtain ⟨ah, hy'⟩ := hY.at hk
    exact ar_nd hA hy' e.symm
  cases Y with
  | nil =>
    refine (unlink_last w hA hf hb hx hbx hbd).mono ?_
    rintro e w' ⟨hv, ha, hb', hx', hk, hsz⟩
    refine ⟨hv, ha, hb', ?_, hk.mono (fun k e => ?_), hsz⟩
    · rw [Seg_append]
      exact ⟨hX.kept hk (fun y hy e => by
        rcases e with e | e
        · exact hXA y hy e
        · exact d1 y hy e), hx', trivial⟩
    · rcases e with e | e
      · exact .inl e
      · exact .inr (by rw [e]; exact mem_mid)
  | cons y Y =>
    obtain ⟨hy, hY'⟩ := hY
    have hxy : x.p ≠ y.p := fun e => d2 y (by simp) e.symm
    have d5 : ∀ z ∈ Y, z.p ≠ y.p := fun z hz e => (List.nodup_cons.1 (List.nodup_cons.1 d4).2).1 (by rw [← e]; exact List.mem_map_of_mem hz)
    refine (unlink_mid w hA hf hb hx hy hbx (fun e => d4' y (by simp) e.symm) hxy hbd).mono ?_
    rintro e w' ⟨hv, ha, hb', hx', hy', hk, hsz⟩
    refine ⟨hv, ha, hb', ?_, hk.mono (fun k e => ?_), hsz⟩
    · rw [Seg_append]
      refine ⟨hX.kept hk (fun z hz e => ?_), hx', hy', hY'.kept hk (fun z hz e => ?_)⟩
      · rcases e with e | e | e
        · exact hXA z hz e
        · exact d1 z hz e
        · exact d3 z hz y (by simp) e
      · rcases e with e | e | e
        · exact hYA z (by simp [hz]) e
        · exact d2 z (by simp [hz]) e
        · exact d5 z hz e
    · rcases e with e | e | e
      · exact .inl e
      · exact .inr (by rw [e]; exact mem_mid)
      · exact .inr (by rw [e]; exact List.mem_map_of_mem (List.mem_append.2 (.inr (by simp))))
end Go.Proofs.Ytdaklohfecinjaa
