/- Alloc. -/
import Derived.Test.YtdaklohfecinjaaB3
namespace Go.Proofs.Ytdaklohfecinjaa
open Go.RowKit
set_option linter.unusedSimpArgs false
set_option linter.unusedVariables false

set_option maxHeartbeats 400000 in
theorem Alloc_nil (n : Int) (w : World) : Calls Try.prog 27 #[.pointer none, .int .i64 n] w fun e w' => e = .returned (.tuple #[.int .i64 0, .int .i64 2]) ∧ w = w' := by
  go_enter Try.func27, Try.ntmps27
  go_wp2_with (go_at_call 52; refine (made_nil _).mono ?_; rintro e w' ⟨rfl, rfl⟩)
  go_ret2
  exact ⟨rfl, rfl⟩

set_option maxHeartbeats 400000 in
theorem Alloc_arg {A C M F f size least nn : Nat} {cs : List Int} {hb : List (Nat × Nd)} (n : Int) (w : World) (h : Rp w A C M F f size least nn cs hb) (hn : rl n = false) :
    Calls Try.prog 27 #[.pointer (some ⟨A, 0, none⟩), .int .i64 n] w fun e w' => e = .returned (.tuple #[.int .i64 0, .int .i64 1]) ∧ w = w' := by
  have HA : Hid (w.heap[A]? = some (ar C M F f size least)) := h.hA
  clear h
  go_enter Try.func27, Try.ntmps27
  go_wp2_with (first | (go_at_call 52; refine (made_any _ HA.out).mono ?_; rintro e w' ⟨rfl, rfl⟩) | (go_at_call 38; refine (right_any _ _).mono ?_; rintro e w' ⟨rfl, rfl⟩))
  go_ret2
  exact ⟨rfl, rfl⟩

/-- place, from the full one on. -/
theorem Rp.place {A C M F f size least nn n : Nat} {cs : List Int} {hb : List (Nat × Nd)} {w : World} (h : Rp w A C M F f size least nn cs hb) (hn : 1 ≤ n) :
    Calls Try.prog 58 #[.pointer (some ⟨A, 0, none⟩), .int .i64 n] w fun e w' => ∃ r, e = .returned (.pointer (pt r)) ∧
      ((∃ k, ∃ hk : k < (nodes F hb).length, r = some (nodes F hb)[k].p ∧ (n : Int) ≤ gap (nodes F hb) size k ∧ ∀ i, i < k → gap (nodes F hb) size i < n) ∨ (r = none ∧ ∀ i, i < (nodes F hb).length → gap (nodes F hb) size i < n)) ∧
      (∃ f', Rp w' A C M F f' size least nn cs hb) ∧ Kept (Only A) w w' := by
  obtain ⟨j, hj, hf, hz⟩ := h.full
  have hs := h.seg
  rw [← List.take_append_drop j (nodes F hb), Seg_append] at hs
  have hlen : ((nodes F hb).drop j).length = (nodes F hb).length - j := List.length_drop
  have hsub : ((nodes F hb).drop j).map Nd.p = ((nodes F hb).map Nd.p).drop j := List.map_drop
  refine (place_any ((nodes F hb).drop j) w h.hA hs.2 (by rw [hd_drop hj, hf]) (by rw [hsub]; exact h.nod.sublist (List.drop_sublist _ _)) (fun x hx => h.bd x (List.mem_of_mem_drop hx)) h.sz hn).mono ?_
  rintro e w' ⟨r, he, hr, ⟨i, hi, hi0, hiA⟩, hk⟩
  have hij : j + i < (nodes F hb).length := by clear hr hi0 hiA hk; rw [hlen] at hi; omega
  refine ⟨r, he, ?_, ⟨((nodes F hb).drop j)[i].p, ?_⟩, hk⟩
  · rcases hr with ⟨k, hk, h1, h2, h3⟩ | ⟨h1, h2⟩
    · refine .inl ⟨j + k, by omega, ?_, by rw [← gap_drop]; exact h2, fun i' hi' => ?_⟩
      · rw [h1, List.getElem_drop]
      · by_cases e : i' < j
        · rw [hz i' e]; omega
        · have := h3 (i' - j) (by omega)
          rwa [gap_drop, show j + (i' - j) = i' by omega] at this
    · refine .inr ⟨h1, fun i' hi' => ?_⟩
      by_cases e : i' < j
      · rw [hz i' e]; omega
      · have := h2 (i' - j) (by omega)
        rwa [gap_drop, show j + (i' - j) = i' by omega] at this
  · obtain ⟨hn1, hn2, hn3⟩ := h.ne
    have hm := h.map_ne
    refine ⟨hiA, hk.heap h.hC (fun e => hn1 e.symm), h.len, h.seg.kept hk (fun x hx e => hn2 x hx e.symm), h.nod, h.geo, h.pos, h.sz1, h.sz, h.map.kept hk hm.1, h.hnd, ⟨j + i, hij, by rw [List.getElem_drop], fun i' hi' => ?_⟩, h.lst⟩
    by_cases e : i' < j
    · exact hz i' e
    · have := hi0 (i' - j) (by omega)
      rwa [gap_drop, show j + (i' - j) = i' by omega] at this

set_option maxHeartbeats 400000 in
theorem Alloc_full {A C M F f size least nn n : Nat} {cs : List Int} {hb : List (Nat × Nd)} (w : World) (h : Rp w A C M F f size least nn cs hb) (hn : rl n = true) (hg : ∀ i, i < (nodes F hb).length → gap (nodes F hb) size i < n) :
    Calls Try.prog 27 #[.pointer (some ⟨A, 0, none⟩), .int .i64 n] w fun e w' => e = .returned (.tuple #[.int .i64 0, .int .i64 8]) ∧ (∃ f', Rp w' A C M F f' size least nn cs hb) ∧ Kept (Only A) w w' := by
  have HA : Hid (w.heap[A]? = some (ar C M F f size least)) := h.hA
  have hn' := rl_true hn
  have HR : Hid (Rp w A C M F f size least nn cs hb) := h
  have HG : Hid (∀ i, i < (nodes F hb).length → gap (nodes F hb) size i < n) := hg
  clear h hg
  go_enter Try.func27, Try.ntmps27
  go_wp2_with (first | (go_at_call 52; refine (made_any _ HA.out).mono ?_; rintro e w' ⟨rfl, rfl⟩) | (go_at_call 38; refine (right_any _ _).mono ?_; rintro e w' ⟨rfl, rfl⟩))
  refine (HR.out.place (n := n) (by omega)).mono ?_
  rintro e w1 ⟨r, rfl, hr, hf, hk⟩
  have hr' : r = none := by
    rcases hr with ⟨k, hk, h1, h2, h3⟩ | ⟨h1, h2⟩
    · have := HG.out k hk; omega
    · exact h1
  subst hr'
  have HF : Hid ((∃ f', Rp w1 A C M F f' size least nn cs hb) ∧ Kept (Only A) w w1) := ⟨hf, hk⟩
  rw [pt_none]
  clear hr hf hk
  go_wp2
  go_ret2
  exact ⟨rfl, HF.out⟩
end Go.Proofs.Ytdaklohfecinjaa
