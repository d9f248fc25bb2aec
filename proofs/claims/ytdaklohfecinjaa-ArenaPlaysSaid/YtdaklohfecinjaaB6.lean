/- Alloc, where there is room. -/
import Derived.Test.YtdaklohfecinjaaB5
namespace Go.Proofs.Ytdaklohfecinjaa
open Go.RowKit
set_option linter.unusedSimpArgs false
set_option linter.unusedVariables false

theorem layC_new (cs : List Int) (at' n : Nat) : layC cs 0 (min n 0) at' n = putL cs at' (List.replicate n 0) := by
  simp [layC, putL_nil]

/-- The first place is one. -/
theorem first_gap {l : List Nd} {size n k k' : Nat} (h1 : (n : Int) ≤ gap l size k) (h2 : ∀ i, i < k → gap l size i < n) (h1' : (n : Int) ≤ gap l size k') (h2' : ∀ i, i < k' → gap l size i < n) : k = k' := by
  rcases Nat.lt_trichotomy k k' with h | h | h
  · have := h2' k h; omega
  · exact h
  · have := h2 k' h; omega

/-- An arena with a block more. -/
theorem Rp.insert {w1 w5 : World} {A C M F f size least nn k m b h0 : Nat} {cs : List Int} {hb : List (Nat × Nd)} (h : Rp w1 A C M F f size least nn cs hb) (hk : k < (nodes F hb).length) (hm : 1 ≤ m) (hgk : (m : Int) ≤ gap (nodes F hb) size k)
    (hl : look hb h0 = none) (hle : least ≤ h0) (hlo : ∀ i : Nat, least ≤ i → i < h0 → look hb i ≠ none) (hbn : b ∉ (nodes F hb).map Nd.p) (hA5 : w5.heap[A]? = some (ar C M F f size h0))
    (hC5 : w5.heap[C]? = some (cl (putL cs ((nodes F hb)[k].a + (nodes F hb)[k].s) (List.replicate m 0)))) (hs5 : Seg w5 none ((nodes F hb).take k ++ (nodes F hb)[k] :: ⟨b, (nodes F hb)[k].a + (nodes F hb)[k].s, m⟩ :: (nodes F hb).drop (k + 1)) none)
    (hM5 : MapIs w5 M (nn + 1) (fun i => if i = (h0 : Int) then some b else look hb i)) :
    Rp w5 A C M F f size h0 (nn + 1) (putL cs ((nodes F hb)[k].a + (nodes F hb)[k].s) (List.replicate m 0)) (ins hb k (h0, ⟨b, (nodes F hb)[k].a + (nodes F hb)[k].s, m⟩)) := by
  have e := nodes_ins F hb hk (h0, ⟨b, (nodes F hb)[k].a + (nodes F hb)[k].s, m⟩)
  have hg := Geo.insert (b := b) (m := m) k hk h.geo hgk
  have hle1 := h.lst.1
  have hfit : (nodes F hb)[k].a + (nodes F hb)[k].s + m ≤ size := by
    have := hg.bd ⟨b, (nodes F hb)[k].a + (nodes F hb)[k].s, m⟩ (by simp)
    exact this
  refine ⟨hA5, hC5, ?_, by rw [e]; exact hs5, ?_, by rw [e]; exact hg, ?_, h.sz1, h.sz, hM5.congr (look_ins hl), ins_fst_nodup h.hnd hl, ?_, ⟨by omega, ?_⟩⟩
  · rw [putL_length (by simp; rw [h.len]; omega)]; exact h.len
  · rw [e]
    have hs := nodes_split F hb hk
    have hp : (((nodes F hb).take k ++ (nodes F hb)[k] :: ⟨b, (nodes F hb)[k].a + (nodes F hb)[k].s, m⟩ :: (nodes F hb).drop (k + 1)).map Nd.p).Perm (b :: (nodes F hb).map Nd.p) := by
      conv => rhs; rw [hs]
      simp only [List.map_append, List.map_cons]
      refine List.Perm.trans ?_ List.perm_middle
      refine List.Perm.append_left _ (List.Perm.swap _ _ _)
    rw [hp.nodup_iff, List.nodup_cons]
    exact ⟨hbn, h.nod⟩
  · intro y hy
    rcases ins_mem.1 hy with rfl | hy
    · exact ⟨hm, by dsimp only; omega⟩
    · exact h.pos y hy
  · obtain ⟨j, hj, hf, hz⟩ := h.full
    have hjk : j ≤ k := by
      rcases Nat.lt_or_ge k j with hlt | hge
      · have := hz k hlt; omega
      · exact hge
    have hlen : ((nodes F hb).take k).length = k := by rw [List.length_take]; omega
    have e2 : nodes F (ins hb k (h0, ⟨b, (nodes F hb)[k].a + (nodes F hb)[k].s, m⟩)) = (nodes F hb).take (k + 1) ++ ⟨b, (nodes F hb)[k].a + (nodes F hb)[k].s, m⟩ :: (nodes F hb).drop (k + 1) := by
      rw [e, List.take_succ_eq_append_getElem hk, List.append_assoc]; rfl
    refine ⟨j, by rw [e2]; simp; omega, ?_, fun i hi => ?_⟩
    · rw [hf]
      have : (nodes F (ins hb k (h0, ⟨b, (nodes F hb)[k].a + (nodes F hb)[k].s, m⟩)))[j]? = (nodes F hb)[j]? := by
        rw [e2, List.getElem?_append_left (by rw [List.length_take]; omega), List.getElem?_take, if_pos (by omega)]
      rw [List.getElem?_eq_getElem hj, List.getElem?_eq_getElem (by rw [e2]; simp; omega)] at this
      rw [Option.some.inj this]
    · rw [e, gap_ins (by rw [hlen]; omega), ← nodes_split F hb hk]; exact hz i hi
  · intro i h1 h2
    rw [← look_ins hl]
    by_cases e : (i : Int) = (h0 : Int)
    · omega
    · rw [if_neg e]
      by_cases e2 : i < least
      · exact h.lst.2 i h1 e2
      · exact hlo i (by omega) h2

set_option maxHeartbeats 1000000 in
theorem Alloc_room {A C M F f size least nn n k : Nat} {cs : List Int} {hb : List (Nat × Nd)} (w : World) (h : Rp w A C M F f size least nn cs hb) (hn : rl n = true) (hnn : nn ≤ 1000000) (hk : k < (nodes F hb).length)
    (hgk : (n : Int) ≤ gap (nodes F hb) size k) (hlow : ∀ i, i < k → gap (nodes F hb) size i < n) :
    Calls Try.prog 27 #[.pointer (some ⟨A, 0, none⟩), .int .i64 n] w fun e w' => ∃ h0 b f' : Nat, e = .returned (.tuple #[.int .i64 h0, .int .i64 0]) ∧ 1 ≤ h0 ∧ look hb h0 = none ∧ (∀ i : Nat, 1 ≤ i → i < h0 → look hb i ≠ none) ∧ w.heap.size ≤ b ∧
      Rp w' A C M F f' size h0 (nn + 1) (putL cs ((nodes F hb)[k].a + (nodes F hb)[k].s) (List.replicate n 0)) (ins hb k (h0, ⟨b, (nodes F hb)[k].a + (nodes F hb)[k].s, n⟩)) ∧ Kept (FP A C M F hb) w w' := by
  have HA : Hid (w.heap[A]? = some (ar C M F f size least)) := h.hA
  have hn' := rl_true hn
  have HR : Hid (Rp w A C M F f size least nn cs hb) := h
  have HL : Hid (∀ i, i < k → gap (nodes F hb) size i < n) := hlow
  clear h hlow
  go_enter Try.func27, Try.ntmps27
  go_wp2_with (first | (go_at_call 52; refine (made_any _ HA.out).mono ?_; rintro e w' ⟨rfl, rfl⟩) | (go_at_call 38; refine (right_any _ _).mono ?_; rintro e w' ⟨rfl, rfl⟩))
  refine (HR.out.place (n := n) (by omega)).mono ?_
  rintro e w1 ⟨r, rfl, hr, ⟨f', hf'⟩, hk1⟩
  obtain ⟨x, HX⟩ : ∃ x, Hid ((nodes F hb)[k] = x) := ⟨(nodes F hb)[k], show _ = _ from rfl⟩
  have hr' : r = some x.p := by
    rcases hr with ⟨k', hk', h1, h2, h3⟩ | ⟨h1, h2⟩
    · obtain rfl : k = k' := first_gap hgk HL.out h2 h3
      rw [h1, HX.out]
    · have := h2 k hk; omega
  subst hr'
  have HF : Hid (Rp w1 A C M F f' size least nn cs hb ∧ Kept (Only A) w w1) := ⟨hf', hk1⟩
  rw [pt_some]
  clear hr hf' hk1
  obtain ⟨N, hN1, hN2, hN3⟩ := free_handle hb least
  have hNb : N ≤ 1000000 := by have := HF.out.1.length_le; have := HF.out.1.sz; have := HF.out.1.least_le; omega
  have HN : Hid (look hb N = none) := hN3
  clear hN3
  go_wp2_with fail
  refine (freeHandle_any w1 HF.out.1.hA HF.out.1.map hN1 hNb HN.out).mono ?_
  rintro e w2 ⟨h0, rfl, hh1, hh2, hh3, hh4, hh5, hh6, hh7⟩
  have hmne := HF.out.1.map_ne
  have HM2 : Hid (MapIs (w2.alloc (.cells #[.int .i64 0, .int .i64 0, .pointer none, .pointer none] 61)) M nn (look hb)) := HF.out.1.map.kept (hh6.alloc _) hmne.1
  have HA2 : Hid (w2.heap[A]? = some (ar C M F f' size h0)) := hh5
  have HH : Hid (look hb h0 = none ∧ (∀ i : Nat, least ≤ i → i < h0 → look hb i ≠ none) ∧ Kept (Only A) w1 w2 ∧ w2.heap.size = w1.heap.size) := ⟨hh3, hh4, hh6, hh7⟩
  have hAlt2 := hp_lt hh5
  obtain ⟨a0, a1, a2, a3, a4⟩ := ar_cells hh5
  have hwf : wf h0 := wf_of (by omega) (by omega)
  have hleast : 1 ≤ least := HF.out.1.lst.1
  clear hh3 hh4 hh5 hh6 hh7 hmne
  obtain ⟨D, HD⟩ : ∃ D, Hid ((w2.alloc (.cells #[.int .i64 0, .int .i64 0, .pointer none, .pointer none] 61)).ownsMap Try.prog 3 pR M nn D ∧ ∀ h, D.atKey (.int .i64 h) .nil = pD (look hb h) ∧ Maps.has D (.int .i64 h) = (look hb h).isSome) := HM2.out
  have HWF : Hid (wf h0) := hwf
  clear hwf
  go_wp2_with (at_mapUpdate; refine wpList_mapUpdate_own _ rfl _ _ _ 62 rfl 3 59 keyed3 Try.underlying62 pR M nn D rfl HD.out.1 (by unfold maxLen; omega) _ _ (.int .i64 h0) rfl rfl (Maps.keyOf_int_mk Try.underlying3 HWF.out) (pD (some w2.heap.size)) [] (pR_mk (some w2.heap.size)) ?_; intro w4 hown4 hgrow4)
  have k24 : Kept (Only M) (w2.alloc (.cells #[.int .i64 0, .int .i64 0, .pointer none, .pointer none] 61)) w4 := (Kept.refl (Only M) _).grown hgrow4 (fun j e => by cases e; exact Or.inl rfl)
  have HM4 : Hid (MapIs w4 M (nn + 1) (fun i => if i = (h0 : Int) then some w2.heap.size else look hb i)) := MapIs.put (w := w4) HD.out.2 HD.out.1.isMap HWF.out w2.heap.size hown4
  have hRp := HF.out.1
  have hmne := hRp.map_ne
  obtain ⟨n1, n2, n3⟩ := hRp.ne
  have k12 : Kept (Only A) w1 (w2.alloc (.cells #[.int .i64 0, .int .i64 0, .pointer none, .pointer none] 61)) := HH.out.2.2.1.alloc _
  have hb3 : (w2.alloc (.cells #[.int .i64 0, .int .i64 0, .pointer none, .pointer none] 61)).heap[w2.heap.size]? = some (nd 0 0 none none) := World.alloc_heap_new w2 _
  have HB4 : Hid (w4.heap[w2.heap.size]? = some (nd 0 0 none none)) := k24.heap hb3 (fun e => by have := hRp.map.lt; have := HH.out.2.2.2; unfold Only at e; omega)
  have HA4 : Hid (w4.heap[A]? = some (ar C M F f' size h0)) := k24.heap ((Below.heap_alloc w2 _ A hAlt2).trans HA2.out) (fun e => hmne.1 e.symm)
  have HC4 : Hid (w4.heap[C]? = some (cl cs)) := k24.heap (k12.heap hRp.hC (fun e => n1 e.symm)) (fun e => hmne.2.1 e.symm)
  have HS4 : Hid (Seg w4 none ((nodes F hb).take k ++ x :: (nodes F hb).drop (k + 1)) none) := by
    have := (hRp.seg.kept k12 (fun y hy e => n2 y hy e.symm)).kept k24 (fun y hy e => hmne.2.2 y hy e.symm)
    rw [nodes_split F hb hk, HX.out] at this
    exact this
  have HND : Hid ((((nodes F hb).take k ++ x :: (nodes F hb).drop (k + 1)).map Nd.p).Nodup ∧ w2.heap.size ∉ ((nodes F hb).take k ++ x :: (nodes F hb).drop (k + 1)).map Nd.p) := by
    rw [← HX.out, ← nodes_split F hb hk]
    refine ⟨hRp.nod, fun hm => ?_⟩
    obtain ⟨y, hy, e⟩ := List.mem_map.1 hm
    have := hRp.seg.lt hy
    have := HH.out.2.2.2
    omega
  have hfit : x.a + x.s + n ≤ size := by
    have hg := Geo.insert (b := 0) (m := n) k hk hRp.geo hgk
    have := hg.bd ⟨0, (nodes F hb)[k].a + (nodes F hb)[k].s, n⟩ (by simp)
    rw [HX.out] at this
    exact this
  have hsz := hRp.sz
  have hsz1 := hRp.sz1
  have K4 : Hid (Kept (FP A C M F hb) w w4) := ((HF.out.2.mono (fun j e => Or.inl e)).trans (k12.mono (fun j e => Or.inl e))).trans (k24.mono (fun j e => Or.inr (Or.inr (Or.inl e))))
  have hlen := hRp.len
  have HLE : Hid (cs.length = size) := hlen
  have hws : w.heap.size ≤ w2.heap.size := by have h1 := HF.out.2.size; have h2 := HH.out.2.2.2; omega
  clear hown4 hgrow4 k24 hRp hmne n1 n2 n3 k12 hb3 hlen
  refine (putB_list w4 HA4.out HC4.out HLE.out HS4.out HND.out.1 HB4.out HND.out.2 (by omega) (by omega) hfit hsz (by omega)).mono ?_
  rintro e w5 ⟨⟨v, rfl⟩, hc5, hs5, hk5, hsz5⟩
  have HK5 : Hid (w5.heap[C]? = some (cl (layC cs 0 (min n 0) (x.a + x.s) n)) ∧ Seg w5 none ((nodes F hb).take k ++ x :: ⟨w2.heap.size, x.a + x.s, n⟩ :: (nodes F hb).drop (k + 1)) none ∧ Kept (PB C w2.heap.size ((nodes F hb).take k ++ x :: (nodes F hb).drop (k + 1))) w4 w5) := ⟨hc5, hs5, hk5⟩
  clear hc5 hs5 hk5 hsz5
  go_wp2
  go_ret2
  obtain ⟨hc5, hs5, hk5⟩ := HK5.out
  rw [layC_new] at hc5
  have hRp := HF.out.1
  have hmne := hRp.map_ne
  obtain ⟨n1, n2, n3⟩ := hRp.ne
  rw [← HX.out] at hc5 hs5 hk5
  rw [← nodes_split F hb hk] at hk5
  have hlo : ∀ i : Nat, 1 ≤ i → i < h0 → look hb i ≠ none := fun i h1 h2 => by
    by_cases e2 : i < least
    · exact hRp.lst.2 i h1 e2
    · exact HH.out.2.1 i (by omega) h2
  have hbn : w2.heap.size ∉ (nodes F hb).map Nd.p := by
    intro hm
    obtain ⟨y, hy, e⟩ := List.mem_map.1 hm
    have := hRp.seg.lt hy
    have := HH.out.2.2.2
    omega
  have hA5 : w5.heap[A]? = some (ar C M F f' size h0) := hk5.heap HA4.out (fun e => by
    rcases e with e | e | e
    · exact n1 e
    · omega
    · obtain ⟨y, hy, e⟩ := List.mem_map.1 e
      exact n2 y hy e.symm)
  have hM5 := HM4.out.kept hk5 (fun e => by
    rcases e with e | e | e
    · exact hmne.2.1 e
    · have := hRp.map.lt; have := HH.out.2.2.2; omega
    · obtain ⟨y, hy, e⟩ := List.mem_map.1 e
      exact hmne.2.2 y hy e.symm)
  refine ⟨h0, w2.heap.size, f', rfl, by omega, HH.out.1, hlo, hws, hRp.insert hk (by omega) hgk HH.out.1 hh1 HH.out.2.1 hbn hA5 hc5 hs5 hM5, ?_⟩
  refine K4.out.trans' hk5 (fun i e => ?_)
  rcases e with e | e | e
  · exact .inl (.inr (.inl e))
  · exact .inr (by omega)
  · exact .inl (.inr (.inr (.inr e)))
end Go.Proofs.Ytdaklohfecinjaa
