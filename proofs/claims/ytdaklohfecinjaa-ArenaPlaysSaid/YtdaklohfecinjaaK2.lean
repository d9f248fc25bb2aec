/- What lies in a block stays there, whatever is asked of others. -/
import Derived.Test.YtdaklohfecinjaaK1
namespace Go.Proofs.Ytdaklohfecinjaa
open Go.RowKit
set_option linter.unusedSimpArgs false
set_option linter.unusedVariables false

/-- An arena made since w0, one of whose blocks has these cells. -/
def Ph (w0 w : World) (A size n h0 : Nat) (d : List Int) : Prop := ∃ hb C M F f least cs, Rx w0 w A C M F f size least n cs hb ∧ Hold cs hb h0 d

theorem Rx.mono {w0 w : World} {A C M F f size least n n' : Nat} {cs : List Int} {hb : List (Nat × Nd)} (h : Rx w0 w A C M F f size least n cs hb) (hn : n ≤ n') : Rx w0 w A C M F f size least n' cs hb :=
  ⟨{ h.1 with map := h.1.map.mono hn }, h.2.1, h.2.2⟩
theorem Ph.mono {w0 w : World} {A size n n' h0 : Nat} {d : List Int} (h : Ph w0 w A size n h0 d) (hn : n ≤ n') : Ph w0 w A size n' h0 d := by
  obtain ⟨hb, C, M, F, f, least, cs, hR, hH⟩ := h
  exact ⟨hb, C, M, F, f, least, cs, hR.mono hn, hH⟩
theorem Ph.kept {w0 w : World} {A size n h0 : Nat} {d : List Int} (h : Ph w0 w A size n h0 d) : Kept No w0 w := by
  obtain ⟨hb, C, M, F, f, least, cs, hR, hH⟩ := h
  exact hR.2.2
theorem Ph.fresh {w0 w : World} {A size n h0 : Nat} {d : List Int} (h : Ph w0 w A size n h0 d) (o : Obj) : Ph w0 (w.alloc o) A size n h0 d := by
  obtain ⟨hb, C, M, F, f, least, cs, hR, hH⟩ := h
  exact ⟨hb, C, M, F, f, least, cs, hR.no ((Kept.refl No w).alloc o), hH⟩
theorem Hold.len {cs : List Int} {hb : List (Nat × Nd)} {h0 : Nat} {d : List Int} (h : Hold cs hb h0 d) : look hb h0 ≠ none := by
  obtain ⟨x, hx, e1, e2, e3⟩ := h
  intro e
  exact look_none.1 e x hx (by rw [e1])

theorem Ph.alloc {w0 w : World} {A size n h0 : Nat} {d : List Int} (h : Ph w0 w A size n h0 d) (hn : n ≤ 1000) (m : Int) :
    Calls Try.prog 27 #[.pointer (some ⟨A, 0, none⟩), .int .i64 m] w fun e w' => (∃ v, e = .returned v) ∧ Ph w0 w' A size (n + 1) h0 d := by
  obtain ⟨hb, C, M, F, f, least, cs, ⟨hR, hfp, hk0⟩, hH⟩ := h
  cases hr : rl m with
  | false =>
    refine (Alloc_arg m w hR hr).mono ?_
    rintro e w' ⟨he, rfl⟩
    exact ⟨⟨_, he⟩, hb, C, M, F, f, least, cs, Rx.mono ⟨hR, hfp, hk0⟩ (by omega), hH⟩
  | true =>
    obtain ⟨m, rfl⟩ := rl_nat hr
    rcases first_room (nodes F hb) size m (nodes F hb).length with ⟨k, h1, h2, h3⟩ | h1
    · refine (Alloc_room w hR hr (by omega) h1 h2 h3).mono ?_
      rintro e w' ⟨hh, b, f', he, _, hnone, _, hb0, hR', hk1⟩
      refine ⟨⟨_, he⟩, _, C, M, F, f', hh, _, ⟨hR', fun j e => ?_, hk0.since hk1 hfp⟩, hH.other (fun x hx e1 => ⟨ins_mem.2 (.inr hx), fun j hj => ?_⟩)⟩
      · rcases fp_ins h1 e with e | e
        · exact hfp j e
        · have := hk0.size; dsimp only at e; omega
      · have hnew : ((hh, ⟨b, (nodes F hb)[k].a + (nodes F hb)[k].s, m⟩) : Nat × Nd) ∈ ins hb k (hh, ⟨b, (nodes F hb)[k].a + (nodes F hb)[k].s, m⟩) := ins_mem.2 (.inl rfl)
        have hap := hR'.apart (ins_mem.2 (.inr hx)) hnew (fun e => look_none.1 hnone x hx (by rw [e]))
        have hbd := hR'.geo.bd _ (List.mem_cons_of_mem _ (List.mem_map_of_mem hnew))
        have hlen := hR.len
        dsimp only at hap hbd
        exact putL_out (by simp; omega) (by simp; omega)
    · refine (Alloc_full w hR hr h1).mono ?_
      rintro e w' ⟨he, ⟨f', hR'⟩, hk1⟩
      exact ⟨⟨_, he⟩, hb, C, M, F, f', least, cs, Rx.mono ⟨hR', hfp, hk0.since hk1 (fun j e => hfp j (.inl e))⟩ (by omega), hH⟩

theorem Ph.free {w0 w : World} {A size n h0 : Nat} {d : List Int} (h : Ph w0 w A size n h0 d) (i : Int) (hw : wf i) (hne : i ≠ h0) :
    Calls Try.prog 35 #[.pointer (some ⟨A, 0, none⟩), .int .i64 i] w fun e w' => (∃ v, e = .returned v) ∧ Ph w0 w' A size (n + 1) h0 d := by
  obtain ⟨hb, C, M, F, f, least, cs, ⟨hR, hfp, hk0⟩, hH⟩ := h
  cases hl : look hb i with
  | none =>
    refine (Free_none i hw w hR hl).mono ?_
    rintro e w' ⟨he, rfl⟩
    exact ⟨⟨_, he⟩, hb, C, M, F, f, least, cs, Rx.mono ⟨hR, hfp, hk0⟩ (by omega), hH⟩
  | some p =>
    obtain ⟨k, hk, rfl⟩ := look_at hl
    refine (Free_some w hR hk hw).mono ?_
    rintro e w' ⟨he, ⟨f', hR'⟩, hk1⟩
    refine ⟨⟨_, he⟩, _, C, M, F, f', _, cs, Rx.mono ⟨hR', fun j e => hfp j (fp_sub (fun x hx => ⟨x, rem_mem hx, rfl⟩) e), hk0.since hk1 hfp⟩ (Nat.le_succ n), hH.other (fun x hx e1 => ⟨mem_rem hk hx (fun e => hne (by rw [← e, e1])), fun _ _ => rfl⟩)⟩

theorem Ph.resize {w0 w : World} {A size n h0 : Nat} {d : List Int} (h : Ph w0 w A size n h0 d) (i m : Int) (hw : wf i) (hne : i ≠ h0) :
    Calls Try.prog 34 #[.pointer (some ⟨A, 0, none⟩), .int .i64 i, .int .i64 m] w fun e w' => (∃ v, e = .returned v) ∧ Ph w0 w' A size (n + 1) h0 d := by
  obtain ⟨hb, C, M, F, f, least, cs, ⟨hR, hfp, hk0⟩, hH⟩ := h
  cases hl : look hb i with
  | none =>
    refine (Resize_none i m hw w hR hl).mono ?_
    rintro e w' ⟨he, rfl⟩
    exact ⟨⟨_, he⟩, hb, C, M, F, f, least, cs, Rx.mono ⟨hR, hfp, hk0⟩ (by omega), hH⟩
  | some p =>
    obtain ⟨k, hk, rfl⟩ := look_at hl
    cases hr : rl m with
    | false =>
      refine (Resize_arg (List.getElem_mem hk) hw m hr w hR).mono ?_
      rintro e w' ⟨he, rfl⟩
      exact ⟨⟨_, he⟩, hb, C, M, F, f, least, cs, Rx.mono ⟨hR, hfp, hk0⟩ (by omega), hH⟩
    | true =>
      obtain ⟨m, rfl⟩ := rl_nat hr
      refine (Resize_some w hR hk hw hr).mono ?_
      rintro e w' ⟨⟨he, _, f', hR'⟩ | ⟨he, k', hk', _, _, f', hR'⟩, hk1⟩
      · exact ⟨⟨_, he⟩, hb, C, M, F, f', least, cs, Rx.mono ⟨hR', hfp, hk0.since hk1 hfp⟩ (by omega), hH⟩
      · have hnew : ((hb[k].1, ⟨hb[k].2.p, (nodes F (rem hb k))[k'].a + (nodes F (rem hb k))[k'].s, m⟩) : Nat × Nd) ∈ ins (rem hb k) k' (hb[k].1, ⟨hb[k].2.p, (nodes F (rem hb k))[k'].a + (nodes F (rem hb k))[k'].s, m⟩) := ins_mem.2 (.inl rfl)
        refine ⟨⟨_, he⟩, _, C, M, F, f', least, _, Rx.mono ⟨hR', fun j e => hfp j (fp_sub (fun x hx => ?_) e), hk0.since hk1 hfp⟩ (Nat.le_succ n), hH.other (fun x hx e1 => ?_)⟩
        · rcases ins_mem.1 hx with rfl | hx
          · exact ⟨hb[k], List.getElem_mem hk, rfl⟩
          · exact ⟨x, rem_mem hx, rfl⟩
        · have hx1 : x.1 ≠ hb[k].1 := fun e => hne (by rw [← e, e1])
          have hxr := mem_rem hk hx hx1
          refine ⟨ins_mem.2 (.inr hxr), fun j hj => ?_⟩
          have hap := hR'.apart (ins_mem.2 (.inr hxr)) hnew hx1
          have hbd := hR'.geo.bd _ (List.mem_cons_of_mem _ (List.mem_map_of_mem hnew))
          have hbk := hR.geo.bd hb[k].2 (List.mem_cons_of_mem _ (List.mem_map_of_mem (List.getElem_mem hk)))
          have hlen := hR.len
          dsimp only at hap hbd
          exact layC_out (by omega) (by omega) (by omega) (by omega)

theorem Ph.store {w0 w : World} {A size n h0 : Nat} {d : List Int} (h : Ph w0 w A size n h0 d) (i j v : Int) (hw : wf i) (hne : i ≠ h0) :
    Calls Try.prog 28 #[.pointer (some ⟨A, 0, none⟩), .int .i64 i, .int .i64 j, .int .i64 v] w fun e w' => (∃ v, e = .returned v) ∧ Ph w0 w' A size (n + 1) h0 d := by
  obtain ⟨hb, C, M, F, f, least, cs, ⟨hR, hfp, hk0⟩, hH⟩ := h
  cases hl : look hb i with
  | none =>
    refine (Store_none i j v hw w hR hl).mono ?_
    rintro e w' ⟨he, rfl⟩
    exact ⟨⟨_, he⟩, hb, C, M, F, f, least, cs, Rx.mono ⟨hR, hfp, hk0⟩ (by omega), hH⟩
  | some p =>
    obtain ⟨k, hk, rfl⟩ := look_at hl
    by_cases hj : 0 ≤ j ∧ j < (hb[k].2.s : Int)
    · obtain ⟨j, rfl⟩ : ∃ j' : Nat, j = j' := ⟨j.toNat, by omega⟩
      refine (Store_some (List.getElem_mem hk) hw j v (by omega) w hR).mono ?_
      rintro e w' ⟨he, hR', hk1⟩
      refine ⟨⟨_, he⟩, hb, C, M, F, f, least, _, Rx.mono ⟨hR', hfp, hk0.since hk1 (fun j e => hfp j (.inr (.inl e)))⟩ (Nat.le_succ n), hH.other (fun x hx e1 => ⟨hx, fun t ht => ?_⟩)⟩
      have hap := hR.apart hx (List.getElem_mem hk) (fun e => hne (by rw [← e, e1]))
      have hbk := hR.geo.bd hb[k].2 (List.mem_cons_of_mem _ (List.mem_map_of_mem (List.getElem_mem hk)))
      have hlen := hR.len
      exact putL_out (by simp; omega) (by simp; omega)
    · refine (Store_arg (List.getElem_mem hk) hw j v (by simp; omega) w hR).mono ?_
      rintro e w' ⟨he, rfl⟩
      exact ⟨⟨_, he⟩, hb, C, M, F, f, least, cs, Rx.mono ⟨hR, hfp, hk0⟩ (by omega), hH⟩

theorem Ph.compact {w0 w : World} {A size n h0 : Nat} {d : List Int} (h : Ph w0 w A size n h0 d) :
    Calls Try.prog 31 #[.pointer (some ⟨A, 0, none⟩)] w fun e w' => (∃ v, e = .returned v) ∧ Ph w0 w' A size (n + 1) h0 d := by
  obtain ⟨hb, C, M, F, f, least, cs, ⟨hR, hfp, hk0⟩, hH⟩ := h
  refine (Compact_rp w hR).mono ?_
  rintro e w' ⟨he, hR', hk1⟩
  obtain ⟨x, hx, e1, e2, _, e3⟩ := hH.compact hR.geo hR.len
  exact ⟨⟨_, he⟩, _, C, M, F, f, least, _, Rx.mono ⟨hR', fun j e => hfp j (fp_sub (fun x hx => by obtain ⟨y, hy, _, e, _⟩ := cmpH_mem hx; exact ⟨y, hy, e⟩) e), hk0.since hk1 hfp⟩ (Nat.le_succ n), x, hx, e1, e2, e3⟩

theorem cmpH_append : ∀ (o : Nat) (hb hc : List (Nat × Nd)), cmpH o (hb ++ hc) = cmpH o hb ++ cmpH (o + sumS (hb.map Prod.snd)) hc
  | o, [], hc => by simp [cmpH, sumS]
  | o, x :: r, hc => by
    rw [List.cons_append, cmpH, cmpH_append (o + x.2.s) r hc, List.map_cons, sumS_cons, Nat.add_assoc]; rfl

theorem Ph.extend {w0 w : World} {A size n h0 : Nat} {d : List Int} (h : Ph w0 w A size n h0 d) (i m : Int) (hw : wf i) (hne : i ≠ h0) :
    Calls Try.prog 36 #[.pointer (some ⟨A, 0, none⟩), .int .i64 i, .int .i64 m] w fun e w' => (∃ v, e = .returned v) ∧ Ph w0 w' A size (n + 1) h0 d := by
  obtain ⟨hb, C, M, F, f, least, cs, ⟨hR, hfp, hk0⟩, hH⟩ := h
  cases hl : look hb i with
  | none =>
    refine (Extend_none i m hw w hR hl).mono ?_
    rintro e w' ⟨he, rfl⟩
    exact ⟨⟨_, he⟩, hb, C, M, F, f, least, cs, Rx.mono ⟨hR, hfp, hk0⟩ (by omega), hH⟩
  | some p =>
    obtain ⟨k, hk, rfl⟩ := look_at hl
    cases hr : rl m with
    | false =>
      refine (Extend_arg (List.getElem_mem hk) hw m hr w hR).mono ?_
      rintro e w' ⟨he, rfl⟩
      exact ⟨⟨_, he⟩, hb, C, M, F, f, least, cs, Rx.mono ⟨hR, hfp, hk0⟩ (by omega), hH⟩
    | true =>
      obtain ⟨m, rfl⟩ := rl_nat hr
      have hm := rl_true hr
      by_cases hf : sumS (nodes F (rem hb k)) + m ≤ size
      · refine (Extend_some w hR hk hw hr hf).mono ?_
        rintro e w' ⟨he, ⟨f', hR'⟩, hk1⟩
        have hgr : Geo size 0 (nodes F (rem hb k)) := by
          have hg := hR.geo
          rw [nodes_split2 F hb hk] at hg
          rw [nodes_rem F hb hk]
          have key : ∀ (X : List Nd) (o : Nat) (x y : Nd) (Y : List Nd), Geo size o (X ++ x :: y :: Y) → Geo size o (X ++ x :: Y) := by
            intro X
            induction X with
            | nil =>
              rintro o x y Y ⟨g1, g2, g3⟩
              refine ⟨g1, ?_⟩
              cases Y with
              | nil => exact (by have : y.a + y.s ≤ size := g3; show x.a + x.s ≤ size; omega)
              | cons z Z => exact ⟨by have := g3.1; omega, g3.2⟩
            | cons z Z ih => rintro o x y Y ⟨g1, g2⟩; exact ⟨g1, ih _ x y Y g2⟩
          exact key _ _ _ _ _ hg
        have hHr : Hold cs (rem hb k) h0 d := hH.other (fun x hx e1 => ⟨mem_rem hk hx (fun e => hne (by rw [← e, e1])), fun _ _ => rfl⟩)
        obtain ⟨x, hx, e1, e2, e4, e3⟩ := hHr.compact hgr hR.len
        refine ⟨⟨_, he⟩, _, C, M, F, f', least, _, Rx.mono ⟨hR', fun j e => hfp j (fp_sub (fun x hx => ?_) e), hk0.since hk1 hfp⟩ (Nat.le_succ n), x, ?_, e1, e2, fun j hj => ?_⟩
        · obtain ⟨y, hy, _, e2, _⟩ := cmpH_mem hx
          rcases List.mem_append.1 hy with hy | hy
          · exact ⟨y, rem_mem hy, e2⟩
          · rw [List.mem_singleton] at hy
            subst hy
            exact ⟨hb[k], List.getElem_mem hk, e2⟩
        · rw [cmpH_append]; exact List.mem_append.2 (.inl hx)
        · have hbk := hR.geo.bd hb[k].2 (List.mem_cons_of_mem _ (List.mem_map_of_mem (List.getElem_mem hk)))
          have hcl := cc_length hgr hR.len (nodes F (rem hb k)).length
          have hlay : (layC (cc cs (nodes F (rem hb k)) (nodes F (rem hb k)).length) hb[k].2.a (min m hb[k].2.s) (sumS (nodes F (rem hb k))) m).length = size := by
            unfold layC
            rw [putL_length, putL_length]
            · exact hcl
            · simp; omega
            · rw [putL_length (by simp; omega)]; simp; omega
          rw [← e3 j hj]
          unfold extC
          rw [putL_out (by simp [data]; omega) (by omega), layC_out (by omega) (by omega) (by omega) (by omega)]
      · refine (Extend_full w hR hk hw hr (by omega)).mono ?_
        rintro e w' ⟨he, hR', hk1⟩
        exact ⟨⟨_, he⟩, hb, C, M, F, f, least, cs, Rx.mono ⟨hR', hfp, hk0.trans hk1⟩ (by omega), hH⟩

set_option maxHeartbeats 1000000 in
theorem play_holds {w0 : World} {A size n h0 : Nat} {d : List Int} (kd h m x : Int) (hw : wf h) (hne : kd = 1 ∨ h ≠ h0) (w : World) (hP : Ph w0 w A size n h0 d) (hn : n ≤ 1000) :
    Calls Try.prog 29 #[.pointer (some ⟨A, 0, none⟩), .agg #[.int .i64 kd, .int .i64 h, .int .i64 m, .int .i64 x]] w fun e w' => (∃ v, e = .returned v) ∧ Ph w0 w' A size (n + 1) h0 d := by
  have HP : Hid (Ph w0 (w.alloc (.cells #[.int .i64 kd, .int .i64 h, .int .i64 m, .int .i64 x] 34)) A size n h0 d) := hP.fresh _
  have HW : Hid (wf h) := hw
  clear hP hw
  rcases hne with rfl | hne
  · go_enter Try.func29, Try.ntmps29
    go_wp2_with (go_at_call 27; refine (HP.out.alloc hn _).mono ?_; rintro e w1 ⟨⟨v, rfl⟩, hp1⟩; have H1 : Hid (Ph w0 w1 A size (n + 1) h0 d) := hp1; clear hp1)
    go_end0
    exact ⟨⟨_, rfl⟩, H1.out⟩
  have HN : Hid (h ≠ h0) := hne
  clear hne
  go_enter Try.func29, Try.ntmps29
  go_wp2_with (first
    | (go_at_call 27; refine (HP.out.alloc hn _).mono ?_; rintro e w1 ⟨⟨v, rfl⟩, hp1⟩; have H1 : Hid (Ph w0 w1 A size (n + 1) h0 d) := hp1; clear hp1)
    | (go_at_call 35; refine (HP.out.free _ HW.out HN.out).mono ?_; rintro e w1 ⟨⟨v, rfl⟩, hp1⟩; have H1 : Hid (Ph w0 w1 A size (n + 1) h0 d) := hp1; clear hp1)
    | (go_at_call 34; refine (HP.out.resize _ _ HW.out HN.out).mono ?_; rintro e w1 ⟨⟨v, rfl⟩, hp1⟩; have H1 : Hid (Ph w0 w1 A size (n + 1) h0 d) := hp1; clear hp1)
    | (go_at_call 28; refine (HP.out.store _ _ _ HW.out HN.out).mono ?_; rintro e w1 ⟨⟨v, rfl⟩, hp1⟩; have H1 : Hid (Ph w0 w1 A size (n + 1) h0 d) := hp1; clear hp1)
    | (go_at_call 31; refine HP.out.compact.mono ?_; rintro e w1 ⟨⟨v, rfl⟩, hp1⟩; have H1 : Hid (Ph w0 w1 A size (n + 1) h0 d) := hp1; clear hp1)
    | (go_at_call 36; refine (HP.out.extend _ _ HW.out HN.out).mono ?_; rintro e w1 ⟨⟨v, rfl⟩, hp1⟩; have H1 : Hid (Ph w0 w1 A size (n + 1) h0 d) := hp1; clear hp1))
  all_goals
    go_end0
    first
    | exact ⟨⟨_, rfl⟩, H1.out⟩
    | exact ⟨⟨_, rfl⟩, HP.out.mono (by omega)⟩
end Go.Proofs.Ytdaklohfecinjaa
