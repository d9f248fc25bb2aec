/- inOrder's function: its rounds. -/
import Derived.Test.YtdaklohfecinjaaA9
namespace Go.Proofs.Ytdaklohfecinjaa
open Go.RowKit Go.Shelf
set_option linter.unusedSimpArgs false
set_option linter.unusedVariables false
attribute [local go_sem] Oper.semAt_some

theorem end_in (n : Nat) {p a s : Nat} {ah bh : Option Nat} (w : World) (h : w.heap[p]? = some (nd a s ah bh)) (hb : a + s ≤ 4611686018427387904) :
    CallsIn Fence.wide n Try.prog 57 #[.pointer (some ⟨p, 0, none⟩)] w fun e w' => e = .returned (.int .i64 ((a + s : Nat) : Int)) ∧ ∃ n, w' = w.drewN n :=
  callsIn_wide.2 (end_any w h hb)

/-- All that a round needs of the k-th block. -/
theorem Iter.look {W : World} {A Bb Ba size k : Nat} {pr : Option Nat} {l : List Nd} {ps : List Nat} (h : Iter W A Bb Ba size pr l) (hps : l.map Nd.p = ps) (hk : k < ps.length) :
    ∃ p a s ah, ps[k]? = some p ∧ W.heap[p]? = some (nd a s ah ps[k + 1]?) ∧ a + s ≤ 65536 ∧ (∃ hl : k < l.length, l[k] = ⟨p, a, s⟩) ∧
      ((ps[k + 1]? = none ∧ gap l size k = (size : Int) - ((a : Int) + (s : Int))) ∨ ∃ q b t ah' bh', ps[k + 1]? = some q ∧ W.heap[q]? = some (nd b t ah' bh') ∧ b ≤ 65536 ∧ gap l size k = (b : Int) - ((a : Int) + (s : Int))) := by
  have hkL : k < l.length := by rw [← hps] at hk; simpa using hk
  have hpk : ps[k]? = some l[k].p := by rw [← hps]; simp [List.getElem?_eq_getElem hkL]
  have hdr : l.drop k = l[k] :: l.drop (k + 1) := List.drop_eq_getElem_cons hkL
  obtain ⟨ah, hx⟩ := h.seg.at hkL
  by_cases h1 : k + 1 < l.length
  · have hd1 : l.drop (k + 1) = l[k + 1] :: l.drop (k + 1 + 1) := List.drop_eq_getElem_cons h1
    have hp1 : ps[k + 1]? = some l[k + 1].p := by rw [← hps]; simp [List.getElem?_eq_getElem h1]
    obtain ⟨ah', hy⟩ := h.seg.at h1
    refine ⟨_, _, _, ah, hpk, ?_, h.bd _ (List.getElem_mem hkL), ⟨hkL, rfl⟩, .inr ⟨_, _, _, _, _, hp1, hy, ?_, ?_⟩⟩
    · rw [hx, hd1, hp1]; rfl
    · have := h.bd _ (List.getElem_mem h1); omega
    · unfold gap; rw [hdr, hd1]
  · have hd1 : l.drop (k + 1) = [] := List.drop_eq_nil_of_le (by omega)
    have hp1 : ps[k + 1]? = none := by rw [← hps]; simp; omega
    refine ⟨_, _, _, ah, hpk, ?_, h.bd _ (List.getElem_mem hkL), ⟨hkL, rfl⟩, .inl ⟨hp1, ?_⟩⟩
    · rw [hx, hd1, hp1]; rfl
    · unfold gap; rw [hdr, hd1]

theorem left_at {ps : List Nat} (hnd : ps.Nodup) {k : Nat} (hk : k ≤ ps.length) : left ps (.pointer (pt ps[k]?)) = ps.length - k := by
  by_cases h : k < ps.length
  · rw [List.getElem?_eq_getElem h]; show ps.length - ps.idxOf ps[k] = _
    rw [List.Nodup.idxOf_getElem hnd]
  · rw [List.getElem?_eq_none (by omega)]; show 0 = _; omega

set_option maxRecDepth 100000 in
set_option maxHeartbeats 1000000 in
theorem iter_rounds (n A Bb Ba size : Nat) (ps : List Nat) (hnd : ps.Nodup) (I : Nat → World → Prop) (hI : ∀ k W, I k W → ∃ pr l, Iter W A Bb Ba size pr l ∧ l.map Nd.p = ps) :
    Rounds Fence.wide n Try.prog 72 #[.pointer (some ⟨Bb, 0, none⟩), .pointer (some ⟨Ba, 0, none⟩)] ps.length (Ek A Bb Ba size ps) I := by
  intro l J Jx W hJI hJd hY h0 hJx
  obtain ⟨pr0, l0, hit0, hps0⟩ := hI _ _ (hJI _ _ h0)
  obtain ⟨P0, HP0⟩ : ∃ P0 : Option Addr, Hid (P0 = pt ps[0]?) := ⟨pt ps[0]?, show _ = _ from rfl⟩
  have bb0 : W.cell? ⟨Bb, 0, none⟩ = some (.pointer P0) := by rw [cell_of hit0.bb, HP0.out, ← hps0]; cases l0 <;> rfl
  clear hit0 hps0
  refine callsIn_of_wp Try.func72 rfl trivial ?_ rfl
  simp only [Try.ntmps72, List.size_toArray, List.length_cons, List.length_nil, Nat.reduceAdd, Nat.reduceSub, Array.replicate_succ, Array.replicate_zero, List.push_toArray, List.append_toArray, List.nil_append, List.cons_append]
  gi_wp2
  gi_loopw [4] (fun c wr => ∃ k, k ≤ ps.length ∧ c = .pointer (pt ps[k]?) ∧ J k wr) (fun c wr => left ps c)
  case atStart => exact ⟨0, Nat.zero_le _, by rw [HP0.out], h0⟩
  case round =>
    obtain ⟨k, hk, rfl, hJs⟩ := hrel
    by_cases hlt : k < ps.length
    · obtain ⟨pr, L, hit, hps⟩ := hI _ _ (hJI _ _ hJs)
      obtain ⟨p, a, s, ah, hpk, hx, hbx, ⟨hkL, hLk⟩, hcase⟩ := hit.look hps hlt
      have HY : Hid (∀ m, YieldAt Fence.wide (n - 1) Try.prog l #[.pointer (some ⟨p, 0, none⟩), .int .i64 (gap L size k)] (wr.drewN m) fun e W' => (e = .returned (.bool true) ∧ J (k + 1) W') ∨ (e = .returned (.bool false) ∧ Jx (k + 1) W')) :=
        fun m => hY k _ _ (hJd _ _ m hJs) ⟨pr, L, hit.loose (Loose.drewN 0 _ _), hps, hkL, by rw [hLk]⟩ hlt
      have hsz := hit.sz
      obtain ⟨C, M, F, f, least, hA⟩ := hit.ar
      have ba0 : wr.cell? ⟨Ba, 0, none⟩ = some (.pointer (some ⟨A, 0, none⟩)) := by rw [cell_of hit.ba]; rfl
      obtain ⟨a0, a1, a2, a3, a4⟩ := ar_cells hA
      have HI1 : Hid (left ps (.pointer (pt ps[k + 1]?)) < left ps (.pointer (some ⟨p, 0, none⟩))) := by
        show _ < _
        have e := left_at hnd (show k ≤ ps.length by omega)
        rw [hpk] at e
        rw [left_at hnd (by omega), show (some (⟨p, 0, none⟩ : Addr)) = pt (some p) from rfl, e]; omega
      have HN : Hid (∀ W', J (k + 1) W' → W'.cell? ⟨p, 3, none⟩ = some (.pointer (pt ps[k + 1]?))) := by
        intro W' hJ'
        obtain ⟨pr', L', hit', hps'⟩ := hI _ _ (hJI _ _ hJ')
        obtain ⟨p', a', s', ah', hpk', hx', _⟩ := hit'.look hps' hlt
        rw [hpk] at hpk'; cases hpk'
        exact (nd_cells hx').2.2.2
      rw [hpk, pt_some]
      have HX : Hid (wr.heap[p]? = some (nd a s ah ps[k + 1]?)) := hx
      obtain ⟨x0, x1, x2, x3⟩ := nd_cells hx
      clear hpk hA hY hit hJs hx hLk
      rcases hcase with ⟨hn, hgap⟩ | ⟨q, b, t, ah', bh', hn, hy, hb, hgap⟩
      · rw [hn, pt_none] at x3
        rw [hgap] at HY
        clear hgap hn
        gi_wp2_with fail
        refine ⟨trivial, fun h => (by cases h), ?_⟩
        gi_at_call 57
        refine (end_in _ _ HX.out (by omega)).mono ?_
        rintro e w' ⟨rfl, m, rfl⟩
        obtain ⟨fn, tmps, as', bo, hy, hR⟩ := HY.out m
        gi_wp2
        refine ⟨fun h => (by cases h), ?_⟩
        refine hR.mono ?_
        rintro e W3 (⟨rfl, hJ3⟩ | ⟨rfl, hJx3⟩)
        · have c3 := HN.out W3 hJ3
          clear hy hR x3
          gi_wp2
          go_roundw
          case rel => exact ⟨k + 1, by omega, rfl, hJ3⟩
          case measure => exact HI1.out
        · gi_wp2
          refine bodyPost_ret (results_none rfl _ _ _) rfl ?_
          exact ⟨⟨_, rfl⟩, .inr ⟨k + 1, by omega, hJx3⟩⟩
      · rw [hn, pt_some] at x3
        rw [hgap] at HY
        obtain ⟨y0, y1, y2, y3⟩ := nd_cells hy
        clear hgap hn hy
        gi_wp2_with fail
        refine ⟨trivial, fun h => (by cases h), ?_⟩
        gi_at_call 57
        refine (end_in _ _ HX.out (by omega)).mono ?_
        rintro e w' ⟨rfl, m, rfl⟩
        obtain ⟨fn, tmps, as', bo, hy, hR⟩ := HY.out m
        gi_wp2
        refine ⟨fun h => (by cases h), ?_⟩
        refine hR.mono ?_
        rintro e W3 (⟨rfl, hJ3⟩ | ⟨rfl, hJx3⟩)
        · have c3 := HN.out W3 hJ3
          clear hy hR x3
          gi_wp2
          go_roundw
          case rel => exact ⟨k + 1, by omega, rfl, hJ3⟩
          case measure => exact HI1.out
        · gi_wp2
          refine bodyPost_ret (results_none rfl _ _ _) rfl ?_
          exact ⟨⟨_, rfl⟩, .inr ⟨k + 1, by omega, hJx3⟩⟩
    · have he : k = ps.length := by omega
      subst he
      have hn : ps[ps.length]? = none := by simp
      rw [hn, pt_none]
      clear hn
      gi_wp2
      go_end0
      exact ⟨⟨_, rfl⟩, .inl hJs⟩
end Go.Proofs.Ytdaklohfecinjaa
