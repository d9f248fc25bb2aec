/- StrtabTurns. -/
import Derived.Test.YtnfamebihpnjlaaZ5
import Derived.Deep.RegionHeld3
namespace Go.Proofs.Ytnfamebihpnjlaa
open Go.RowKit
set_option linter.unusedVariables false
set_option linter.unusedSimpArgs false

theorem CS.find {ss : List ByteArray} {C : Ct} (h : CS ss (fun k => k < ss.length) C) (g : GoodC C) {i : Nat} (hi : i < ss.length) {o : Option Int} (ho : ∀ x, o = some x ↔ (x, tx ss i) ∈ C) : o = some (hd ss i : Int) :=
  (ho _).2 ((h _ _).2 ⟨i, hi, rfl, rfl⟩)

set_option maxRecDepth 20000 in
set_option maxHeartbeats 1000000 in
theorem same_any {w : World} {B1 B2 A1 A2 b1 b2 : Nat} {F1 F2 : Nat → Prop} {C1 C2 : Ct} {v : Value} {ss : List ByteArray} (h1 : TabF w B1 A1 F1 b1 C1) (h2 : TabF w B2 A2 F2 b2 C2) (hS : Strs w v ss)
    (c1 : CS ss (fun k => k < ss.length) C1) (c2 : CS ss (fun k => k < ss.length) C2) (hl : ss.length ≤ 100000) :
    Calls Try.prog 30 #[.pointer (some ⟨A1, 0, none⟩), .pointer (some ⟨A2, 0, none⟩), v] w fun e w' => e = .returned (.bool true) ∧ Kept No w w' := by
  have hp : C1.length = C2.length := (c1.perm c2 h1.good h2.good).length_eq
  have HT : Hid (TabF w B1 A1 F1 b1 C1 ∧ TabF w B2 A2 F2 b2 C2) := ⟨h1, h2⟩
  have HC : Hid (CS ss (fun k => k < ss.length) C1 ∧ CS ss (fun k => k < ss.length) C2) := ⟨c1, c2⟩
  have HS : Hid (Strs w v ss) := hS
  obtain ⟨ao, cap, rfl, hsz, _⟩ := hS
  have HZ : Hid (∀ s ∈ ss, s.size ≤ 140737488351232) := hsz
  clear h1 h2 c1 c2 hsz
  go_enter Try.func30, Try.ntmps30
  go_wp2_with fail
  go_loopw [7, 8, 9, 10, 11] (fun vi _ _ _ _ wr => ∃ i : Nat, i ≤ ss.length ∧ vi = .int .i64 i ∧ Hid (Kept No w wr)) (fun vi _ _ _ _ _ => ss.length - (ivO vi).toNat)
  case atStart => exact ⟨0, Nat.zero_le _, rfl, Kept.refl _ _⟩
  case round =>
    obtain ⟨i, hi, rfl, HK⟩ := hrel
    by_cases hlt : i < ss.length
    · have k1 : (i : Int) < (ss.length : Int) := by omega
      obtain ⟨b, off, rfl, hcell⟩ := (HS.out.kept HK.out).at hlt
      have ci := hcell i hlt
      have hz : (tx ss i).size ≤ maxLen := by
        have := HZ.out (tx ss i) (by rw [tx_get hlt]; exact List.getElem_mem hlt)
        unfold maxLen; omega
      have HF1 : Hid (Calls Try.prog 17 #[.pointer (some ⟨A1, 0, none⟩), .string (tx ss i)] wr fun e w' => e = .returned (.tuple #[.int .i64 (hd ss i : Int), .bool true]) ∧ Kept No wr w') :=
        ((HT.out.1.no HK.out).find (tx ss i) hz).mono (fun e w' ⟨o, h3, h4, h5⟩ => ⟨by rw [h3, HC.out.1.find HT.out.1.good hlt h4]; rfl, h5⟩)
      have HF2 : Hid (∀ W, Kept No wr W → Calls Try.prog 17 #[.pointer (some ⟨A2, 0, none⟩), .string (tx ss i)] W fun e w' => e = .returned (.tuple #[.int .i64 (hd ss i : Int), .bool true]) ∧ Kept No W w') := fun W hW =>
        ((HT.out.2.no (HK.out.trans hW)).find (tx ss i) hz).mono (fun e w' ⟨o, h3, h4, h5⟩ => ⟨by rw [h3, HC.out.2.find HT.out.2.good hlt h4]; rfl, h5⟩)
      have HCi : Hid (∀ W, Kept No wr W → W.cell? ⟨b, off + i, none⟩ = some (.string (tx ss i))) := fun W hW => hW.cell ci
      generalize tx ss i = t at ci HF1 HF2 HCi
      generalize hd ss i = h at HF1 HF2
      have hbb : ((h : Int) != (h : Int)) = false := by simp
      clear hcell hz
      go_wp2_with fail
      refine Calls.mono HF1.out ?_
      rintro e w1 ⟨rfl, hk1⟩
      have c1 := HCi.out w1 hk1
      have HK1 : Hid (Kept No wr w1) := hk1
      clear hk1 HF1 ci
      go_wp2_with fail
      refine Calls.mono (HF2.out _ HK1.out) ?_
      rintro e w2 ⟨rfl, hk2⟩
      have HK2 : Hid (Kept No w w2) := HK.out.trans (HK1.out.trans hk2)
      clear hk2 HF2 c1 HCi
      go_wp2
      go_round
      case rel => exact ⟨i + 1, by omega, by first | rfl | go_num, HK2.out⟩
      case measure => simp [ivO] <;> omega
    · have k1 : ¬ (i : Int) < (ss.length : Int) := by omega
      have HL1 : Hid _ := (HT.out.1.no HK.out).len
      have HL2 : Hid _ := (HT.out.2.no HK.out).len
      rw [hp] at HL1
      have hee : (((C2.length : Nat) : Int) == ((C2.length : Nat) : Int)) = true := by simp
      go_wp2_with fail
      refine Calls.mono HL1.out ?_
      rintro e w' ⟨rfl, rfl⟩
      clear HL1
      go_wp2_with fail
      refine Calls.mono HL2.out ?_
      rintro e w' ⟨rfl, rfl⟩
      clear HL2
      go_wp2
      go_ret
      exact ⟨rfl, HK.out⟩

/-- A text with 'other ' ahead. -/
abbrev oth : ByteArray := ⟨#[111, 116, 104, 101, 114, 32]⟩

/-- Two tables: the first one stands still. -/
def P2 (W0 w2 : World) (B A U : Nat) (Fa Fb : Nat → Prop) (Ca Cb : Ct) (n1 n2 : Nat) (W : World) : Prop :=
  TabF W W0.heap.size A Fa n1 Ca ∧ TabF W B U Fb n2 Cb ∧ Kept No W0 W ∧ w2.heap.size ≤ W.heap.size
section
variable {W0 w2 W W' : World} {B A U n1 n2 : Nat} {Fa Fb : Nat → Prop} {Ca Cb : Ct}
theorem P2.no (h : P2 W0 w2 B A U Fa Fb Ca Cb n1 n2 W) (hk : Kept No W W') : P2 W0 w2 B A U Fa Fb Ca Cb n1 n2 W' := ⟨h.1.no hk, h.2.1.no hk, h.2.2.1.trans hk, Nat.le_trans h.2.2.2 hk.size⟩
theorem P2.put (h : P2 W0 w2 B A U Fa Fb Ca Cb n1 n2 W) (hd : ∀ k, Fa k → ¬ Fb k) (hN : ∀ k, w2.heap.size ≤ k → Fb k) (h0 : ∀ k, Fb k → W0.heap.size ≤ k) (hb : n2 ≤ 10000) (s : ByteArray) (hs : s.size ≤ maxLen) (x : Int) (hx1 : 1 ≤ x) (hx2 : x ≤ 9223372036854775807) :
    Calls Try.prog 27 #[.pointer (some ⟨U, 0, none⟩), .string s, .int .i64 x] W fun e w' => ∃ (c : Int) (C' : Ct), e = .returned (.int .i64 c) ∧ P2 W0 w2 B A U Fa Fb Ca C' n1 (n2 + 1) w' ∧ (hasC Cb s x ∧ c = 17 ∧ C' = Cb ∨ ¬ hasC Cb s x ∧ c = 0 ∧ C' = Cb ++ [(x, s)]) := by
  obtain ⟨p1, p2, p3, p4⟩ := h
  refine (p2.put (fun k hk => hN k (Nat.le_trans p4 hk)) hb s hs x hx1 hx2).mono ?_
  rintro e w' ⟨hk, hr⟩
  have q1 := p1.kept hk hd
  have q2 : Kept No W0 w' := p3.trans' hk (fun k hF => Or.inr (h0 k hF))
  have q3 := Nat.le_trans p4 hk.size
  rcases hr with ⟨g1, g2, g3⟩ | ⟨g1, g2, g3⟩
  · exact ⟨17, Cb, g2, ⟨q1, g3, q2, q3⟩, Or.inl ⟨g1, rfl, rfl⟩⟩
  · exact ⟨0, _, g2, ⟨q1, g3, q2, q3⟩, Or.inr ⟨g1, rfl, rfl⟩⟩
theorem P2.drop (h : P2 W0 w2 B A U Fa Fb Ca Cb n1 n2 W) (hd : ∀ k, Fa k → ¬ Fb k) (hN : ∀ k, w2.heap.size ≤ k → Fb k) (h0 : ∀ k, Fb k → W0.heap.size ≤ k) (hb : n2 ≤ 10000) (x : Int) (hx : ∃ y ∈ Cb, y.1 = x) :
    Calls Try.prog 29 #[.pointer (some ⟨U, 0, none⟩), .int .i64 x] W fun e w' => e = .returned (.int .i64 0) ∧ P2 W0 w2 B A U Fa Fb Ca (Cb.filter (fun e => e.1 != x)) n1 n2 w' := by
  obtain ⟨p1, p2, p3, p4⟩ := h
  refine (p2.drop (fun k hk => hN k (Nat.le_trans p4 hk)) hb x hx).mono ?_
  rintro e w' ⟨hk, hr, g3⟩
  exact ⟨hr, p1.kept hk hd, g3, p3.trans' hk (fun k hF => Or.inr (h0 k hF)), Nat.le_trans p4 hk.size⟩
end

theorem oth_ne (t : ByteArray) : oth ++ t ≠ t := by
  intro e
  have := congrArg (fun b : ByteArray => b.data.toList.length) e
  simp at this
  omega
theorem oth_size (t : ByteArray) : (oth ++ t).size = 6 + t.size := by
  rw [ByteArray.size_append]; rfl

/-- What a round makes of the second table's texts. -/
theorem turn_round {ss : List ByteArray} {i : Nat} {C C1 C2 : Ct} {c c2 : Int} (hl : ss.length ≤ 50) (hi : i < ss.length) (h : CS ss (fun k => i + 1 ≤ k ∧ k < ss.length) C) (o : ByteArray) (ho : o ≠ tx ss i)
    (h1 : hasC C o (1000 + (i : Int)) ∧ c = 17 ∧ C1 = C ∨ ¬ hasC C o (1000 + (i : Int)) ∧ c = 0 ∧ C1 = C ++ [(1000 + (i : Int), o)])
    (h2 : hasC C1 (tx ss i) (hd ss i : Int) ∧ c2 = 17 ∧ C2 = C1 ∨ ¬ hasC C1 (tx ss i) (hd ss i : Int) ∧ c2 = 0 ∧ C2 = C1 ++ [((hd ss i : Int), tx ss i)]) :
    (c = 17 ∧ CS ss (fun k => i ≤ k ∧ k < ss.length) C2) ∨ (c = 0 ∧ (∃ y ∈ C2, y.1 = 1000 + (i : Int)) ∧ CS ss (fun k => i ≤ k ∧ k < ss.length) (C2.filter (fun e => e.1 != 1000 + (i : Int)))) := by
  have hP : ∀ k, (i + 1 ≤ k ∧ k < ss.length) → k < ss.length := fun k hk => hk.2
  have hh := hd_le hi
  have hset : ∀ k, ((i + 1 ≤ k ∧ k < ss.length) ∨ k = i) ↔ (i ≤ k ∧ k < ss.length) := fun k => by omega
  have hself : C.filter (fun e => e.1 != 1000 + (i : Int)) = C := List.filter_eq_self.2 (fun y hy => by
    have := h.small hP hy
    simp only [bne_iff_ne, ne_eq]; omega)
  have hkeep : (((hd ss i : Int), tx ss i).1 != 1000 + (i : Int)) = true := by simp only [bne_iff_ne, ne_eq]; omega
  rcases h1 with ⟨_, rfl, rfl⟩ | ⟨_, rfl, rfl⟩
  · refine Or.inl ⟨rfl, ?_⟩
    rcases h2 with ⟨g, _, rfl⟩ | ⟨_, _, rfl⟩
    · exact (h.there ((h.has hP hi).1 g)).congr hset
    · exact (h.put i).congr hset
  · have hiff : hasC (C ++ [(1000 + (i : Int), o)]) (tx ss i) (hd ss i : Int) ↔ hasC C (tx ss i) (hd ss i : Int) := by
      constructor
      · rintro ⟨y, hy, h3⟩
        rcases List.mem_append.1 hy with hy | hy
        · exact ⟨y, hy, h3⟩
        · obtain rfl := List.mem_singleton.1 hy
          rcases h3 with h3 | h3
          · dsimp only at h3; omega
          · exact absurd h3 ho
      · rintro ⟨y, hy, h3⟩; exact ⟨y, List.mem_append_left _ hy, h3⟩
    refine Or.inr ⟨rfl, ?_⟩
    rcases h2 with ⟨g, _, rfl⟩ | ⟨g, _, rfl⟩
    · refine ⟨⟨(1000 + (i : Int), o), by simp, rfl⟩, ?_⟩
      have e : (C ++ [(1000 + (i : Int), o)]).filter (fun e => e.1 != 1000 + (i : Int)) = C := by rw [List.filter_append, hself]; simp
      rw [e]
      exact (h.there ((h.has hP hi).1 (hiff.1 g))).congr hset
    · refine ⟨⟨(1000 + (i : Int), o), by simp, rfl⟩, ?_⟩
      have e : (C ++ [(1000 + (i : Int), o)] ++ [((hd ss i : Int), tx ss i)]).filter (fun e => e.1 != 1000 + (i : Int)) = C ++ [((hd ss i : Int), tx ss i)] := by
        rw [List.filter_append, List.filter_append, hself, List.filter_cons, List.filter_cons, if_pos hkeep]; simp
      rw [e]
      exact (h.put i).congr hset

set_option maxRecDepth 100000 in
set_option maxHeartbeats 4000000 in
theorem StrtabTurns_any (v : Value) (ss : List ByteArray) (s : ByteArray) (w : World) (hS : Strs w v ss) (hs : s.size ≤ maxLen) : Calls Try.prog 6 #[v, .string s] w fun e w' => e = .returned (.bool true) ∧ Kept No w w' := by
  have HS : Hid (Strs w v ss) := hS
  obtain ⟨ao, cap, rfl, hsz, _⟩ := hS
  have HZ : Hid (∀ s ∈ ss, s.size ≤ 140737488351232) := hsz
  clear hsz
  have Hs : Hid (s.size ≤ maxLen) := hs
  clear hs
  obtain ⟨W0, HW0⟩ : ∃ W0, Hid (W0 = w.alloc (.cells #[.slice ao ss.length cap] 48)) := ⟨_, rfl⟩
  have HK0 : Hid (Kept No w W0) := by show Kept _ _ _; rw [HW0.out]; exact (Kept.refl _ _).alloc _
  have HB0 : Hid (W0.cell? ⟨w.heap.size, 0, none⟩ = some (.slice ao ss.length cap)) := by show _ = _; rw [HW0.out]; simp
  go_enter Try.func6, Try.ntmps6
  go_wp2_with fail
  rw [← HW0.out]
  refine (Tab.new W0).mono ?_
  rintro e wa ⟨A, rfl, ha⟩
  have HTa : Hid (Tab W0 wa A 0 []) := ha
  clear ha
  go_wp2_with fail
  refine (Tab.new wa).mono ?_
  rintro e wb ⟨U, rfl, hb⟩
  have HTb : Hid (Tab wa wb U 0 []) := hb
  clear hb
  go_wp2_with fail
  refine (alive_any _).mono ?_
  rintro e w3 ⟨rfl, hk3⟩
  have HK3 : Hid (Kept No wb w3 ∧ Kept No W0 w3) := ⟨hk3, HTa.out.since.trans (HTb.out.since.trans hk3)⟩
  clear hk3
  obtain ⟨Fa, hFa⟩ : ∃ Fa : Nat → Prop, Hid (∀ k, Fa k ↔ (W0.heap.size ≤ k ∧ k < wa.heap.size) ∨ wb.heap.size ≤ k) := ⟨fun k => (W0.heap.size ≤ k ∧ k < wa.heap.size) ∨ wb.heap.size ≤ k, fun k => Iff.rfl⟩
  obtain ⟨Fb, hFb⟩ : ∃ Fb : Nat → Prop, Hid (∀ k, Fb k ↔ (wa.heap.size ≤ k ∧ k < wb.heap.size)) := ⟨fun k => (wa.heap.size ≤ k ∧ k < wb.heap.size), fun k => Iff.rfl⟩
  have HA3 : Hid (TabF w3 W0.heap.size A Fa 0 []) := (HTa.out.toF.no (HTb.out.since.trans HK3.out.1)).mono (fun k hk => (hFa.out k).2 (Or.inl hk))
  have HU3 : Hid (TabF w3 wa.heap.size U Fb 0 []) := (HTb.out.toF.no HK3.out.1).mono (fun k hk => (hFb.out k).2 hk)
  have hz1 : Hid (W0.heap.size ≤ wa.heap.size ∧ wa.heap.size ≤ wb.heap.size ∧ wb.heap.size ≤ w3.heap.size) := ⟨HTa.out.since.size, HTb.out.since.size, HK3.out.1.size⟩
  have cb : w3.cell? ⟨w.heap.size, 0, none⟩ = some (.slice ao ss.length cap) := HK3.out.2.cell HB0.out
  have HS3 : Hid (Strs w3 (.slice ao ss.length cap) ss) := HS.out.kept (HK0.out.trans HK3.out.2)
  go_wp2_with fail
  go_loop [7, 8] (fun n i => ∃ (z : Int) (j : Nat), j ≤ ss.length ∧ j ≤ 51 ∧ n = .int .i64 z ∧ i = .int .i64 j) (fun _ i => 51 - (ivO i).toNat)
  case atStart => exact ⟨0, 0, by omega, by omega, rfl, rfl⟩
  case round =>
    obtain ⟨z, j, hj, hj1, rfl, rfl⟩ := hrel
    by_cases h1 : j < ss.length
    · have k1 : (j : Int) < (ss.length : Int) := by omega
      by_cases h2 : j ≤ 50
      · have k2 : (j : Int) ≤ 50 := by omega
        obtain ⟨b, off, rfl, hcell⟩ := HS3.out.at h1
        have cj := hcell j h1
        go_wp2
        go_round
        case rel => exact ⟨_, j + 1, by omega, by omega, rfl, by first | rfl | go_num⟩
        case measure => simp [ivO] <;> omega
      · have k2 : ¬ (j : Int) ≤ 50 := by omega
        have k3 : (50 : Int) < (ss.length : Int) := by omega
        go_wp2
        go_ret
        exact ⟨rfl, HK0.out.trans HK3.out.2⟩
    · have k1 : ¬ (j : Int) < (ss.length : Int) := by omega
      by_cases h3 : 50 < ss.length
      · have k3 : (50 : Int) < (ss.length : Int) := by omega
        go_wp2
        go_ret
        exact ⟨rfl, HK0.out.trans HK3.out.2⟩
      · have k3 : ¬ (50 : Int) < (ss.length : Int) := by omega
        by_cases h5 : 5000 < z
        · go_wp2
          go_ret
          exact ⟨rfl, HK0.out.trans HK3.out.2⟩
        · by_cases h6 : 5000 < s.size
          · have h6z : (5000 : Int) < (s.size : Int) := by omega
            go_wp2
            go_ret
            exact ⟨rfl, HK0.out.trans HK3.out.2⟩
          · have h6z : ¬ (5000 : Int) < (s.size : Int) := by omega
            obtain rfl : j = ss.length := by omega
            clear hj hj1 h1 k1
            go_wp2_with fail
            go_loopw [10] (fun vi wr => ∃ (i : Nat) (C : Ct), i ≤ ss.length ∧ vi = .int .i64 i ∧ Hid (TabF wr W0.heap.size A Fa i C ∧ CS ss (fun k => k < i) C ∧ TabF wr wa.heap.size U Fb 0 [] ∧ Kept No W0 wr ∧ wb.heap.size ≤ wr.heap.size)) (fun vi _ => ss.length - (ivO vi).toNat)
            case atStart => exact ⟨0, [], Nat.zero_le _, rfl, HA3.out, (fun x t => by simp), HU3.out, HK3.out.2, hz1.out.2.2⟩
            case round =>
              clear HA3 HU3 cb HS3
              obtain ⟨i, C, hi, rfl, HP⟩ := hrel
              have cb : wr.cell? ⟨w.heap.size, 0, none⟩ = some (.slice ao ss.length cap) := HP.out.2.2.2.1.cell HB0.out
              have HSr : Hid (Strs wr (.slice ao ss.length cap) ss) := HS.out.kept (HK0.out.trans HP.out.2.2.2.1)
              by_cases hlt : i < ss.length
              · have k1 : (i : Int) < (ss.length : Int) := by omega
                obtain ⟨b, off, rfl, hcell⟩ := HSr.out.at hlt
                have ci := hcell i hlt
                have hz : (tx ss i).size ≤ maxLen := by
                  have := HZ.out (tx ss i) (by rw [tx_get hlt]; exact List.getElem_mem hlt)
                  unfold maxLen; omega
                have hh := hd_le hlt
                have HHd : Hid (∀ m, Calls Try.prog 26 #[.int .i64 i, .pointer (some ⟨w.heap.size, 0, none⟩)] (wr.drewN m) fun e w' => e = .returned (.int .i64 (hd ss i : Nat)) ∧ ∃ m', w' = wr.drewN m') := fun m =>
                  (handle_any (w := wr.drewN m) cb (HSr.out.kept ((Kept.refl _ _).drewN m)) hlt (by omega)).mono (fun e w' ⟨h7, m', h8⟩ => ⟨h7, m + m', by rw [h8, World.drewN_drewN]⟩)
                have HPt : Hid (∀ m, Calls Try.prog 27 #[.pointer (some ⟨A, 0, none⟩), .string (tx ss i), .int .i64 (hd ss i : Nat)] (wr.drewN m) fun e w' => (∃ r, e = .returned r) ∧ ∃ C', TabF w' W0.heap.size A Fa (i + 1) C' ∧ CS ss (fun k => k < i + 1) C' ∧ TabF w' wa.heap.size U Fb 0 [] ∧ Kept No W0 w' ∧ wb.heap.size ≤ w'.heap.size) := fun m => by
                  obtain ⟨p1, p2, p3, p4, p5⟩ := HP.out
                  have hkm : Kept No wr (wr.drewN m) := (Kept.refl _ _).drewN m
                  refine ((p1.no hkm).put (fun k hk => (hFa.out k).2 (Or.inr (Nat.le_trans p5 hk))) (by omega) (tx ss i) hz (hd ss i : Nat) (by omega) (by omega)).mono ?_
                  rintro e w' ⟨hk, hr⟩
                  have q1 : TabF w' wa.heap.size U Fb 0 [] := (p3.no hkm).kept hk (fun k hF hF' => by
                    have := (hFb.out k).1 hF
                    rcases (hFa.out k).1 hF' with h | h <;> omega)
                  have q2 : Kept No W0 w' := (p4.drewN m).trans' hk (fun k hF => Or.inr (by
                    have := hz1.out
                    rcases (hFa.out k).1 hF with h | h <;> omega))
                  have q3 : wb.heap.size ≤ w'.heap.size := Nat.le_trans p5 hk.size
                  have hPk : ∀ k, k < i → k < ss.length := fun k hk => by omega
                  rcases hr with ⟨g1, g2, g3⟩ | ⟨g1, g2, g3⟩
                  · exact ⟨⟨_, g2⟩, C, g3, (p2.there ((p2.has hPk hlt).1 g1)).congr (fun k => by omega), q1, q2, q3⟩
                  · exact ⟨⟨_, g2⟩, _, g3, (p2.put i).congr (fun k => by omega), q1, q2, q3⟩
                generalize tx ss i = t at ci HPt hz
                generalize hd ss i = h at HHd HPt hh
                clear hcell hz
                go_wp2_with fail
                refine region_quiet_tail 8 (by kernel_rfl) (by kernel_rfl) ?_
                simp only [List.take_succ_cons, List.take_zero, List.drop_succ_cons, List.drop_zero]
                repeat (go_big_quiet_step (first | (go_at_call 26; exact HHd.out _)))
                refine wpQuiet_nil ?_
                rintro _ ⟨nq, rfl⟩
                go_wp2_with fail
                refine Calls.mono (HPt.out nq) ?_
                rintro e w4 ⟨⟨r, rfl⟩, C', hC'⟩
                have HP4 : Hid (TabF w4 W0.heap.size A Fa (i + 1) C' ∧ CS ss (fun k => k < i + 1) C' ∧ TabF w4 wa.heap.size U Fb 0 [] ∧ Kept No W0 w4 ∧ wb.heap.size ≤ w4.heap.size) := hC'
                clear hC' HPt HHd ci cb HP HSr
                go_wp2
                go_round
                case rel => exact ⟨i + 1, C', by omega, by first | rfl | go_num, HP4.out⟩
                case measure => simp [ivO] <;> omega
              · have k1 : ¬ (i : Int) < (ss.length : Int) := by omega
                obtain rfl : i = ss.length := by omega
                obtain ⟨w2, rfl⟩ : ∃ w2, w2 = wr := ⟨_, rfl⟩
                obtain ⟨p1, p2, p3, p4, p5⟩ := HP.out
                obtain ⟨Fa2, hFa2⟩ : ∃ Fa2 : Nat → Prop, Hid (∀ k, Fa2 k ↔ Fa k ∧ k < w2.heap.size) := ⟨fun k => Fa k ∧ k < w2.heap.size, fun k => Iff.rfl⟩
                obtain ⟨Fb2, hFb2⟩ : ∃ Fb2 : Nat → Prop, Hid (∀ k, Fb2 k ↔ Fb k ∨ w2.heap.size ≤ k) := ⟨fun k => Fb k ∨ w2.heap.size ≤ k, fun k => Iff.rfl⟩
                have HCa : Hid (CS ss (fun k => k < ss.length) C) := p2
                have HP0 : Hid (P2 W0 w2 wa.heap.size A U Fa2 Fb2 C [] ss.length 0 w2) := ⟨p1.now.mono (fun k hk => (hFa2.out k).2 hk), p3.mono (fun k hk => (hFb2.out k).2 (Or.inl hk)), p4, Nat.le_refl _⟩
                have D1 : Hid (∀ k, Fa2 k → ¬ Fb2 k) := fun k h7 h8 => by
                  obtain ⟨h7a, h7b⟩ := (hFa2.out k).1 h7
                  have h7c := (hFa.out k).1 h7a
                  rcases (hFb2.out k).1 h8 with h9 | h9
                  · have := (hFb.out k).1 h9; omega
                  · omega
                have D2 : Hid (∀ k, w2.heap.size ≤ k → Fb2 k) := fun k hk => (hFb2.out k).2 (Or.inr hk)
                have D3 : Hid (∀ k, Fb2 k → W0.heap.size ≤ k) := fun k h8 => by
                  have := hz1.out
                  rcases (hFb2.out k).1 h8 with h9 | h9
                  · have := (hFb.out k).1 h9; omega
                  · omega
                clear p1 p2 p3 p4 p5 HP
                go_wp2_with fail
                go_loopw [11, 12] (fun vi _ wx => ∃ (q : Nat) (Cb : Ct), q ≤ ss.length ∧ vi = .int .i64 ((q : Int) - 1) ∧ Hid (P2 W0 w2 wa.heap.size A U Fa2 Fb2 C Cb ss.length (2 * (ss.length - q)) wx ∧ CS ss (fun k => q ≤ k ∧ k < ss.length) Cb)) (fun vi _ _ => (ivO vi + 1).toNat)
                case atStart => exact ⟨ss.length, [], Nat.le_refl _, by first | rfl | go_num, by rw [Nat.sub_self]; exact HP0.out, fun x t => ⟨fun h => (by cases h), fun h => (by obtain ⟨k, hk, _⟩ := h; exact absurd hk.2 (by omega))⟩⟩
                case round =>
                  clear cb HSr HP0
                  obtain ⟨q, Cb, hq, rfl, HQ⟩ := hrel
                  have cb : wr.cell? ⟨w.heap.size, 0, none⟩ = some (.slice ao ss.length cap) := HQ.out.1.2.2.1.cell HB0.out
                  have HSr : Hid (Strs wr (.slice ao ss.length cap) ss) := HS.out.kept (HK0.out.trans HQ.out.1.2.2.1)
                  by_cases hq1 : 1 ≤ q
                  · obtain ⟨i, rfl⟩ : ∃ i, q = i + 1 := ⟨q - 1, by omega⟩
                    have e1 : ((i + 1 : Nat) : Int) - 1 = (i : Int) := by omega
                    rw [e1]
                    clear e1
                    have hlt : i < ss.length := by omega
                    have k1 : (i : Int) < (ss.length : Int) := by omega
                    obtain ⟨b, off, rfl, hcell⟩ := HSr.out.at hlt
                    have ci := hcell i hlt
                    have hz : (tx ss i).size ≤ 140737488351232 := HZ.out (tx ss i) (by rw [tx_get hlt]; exact List.getElem_mem hlt)
                    have hh := hd_le hlt
                    have HTR : Hid (∀ (o : ByteArray) (c c2 : Int) (C1 C2 : Ct), o ≠ tx ss i → _ → _ → _) := fun o c c2 C1 C2 ho => turn_round (c := c) (c2 := c2) (C1 := C1) (C2 := C2) (by omega) hlt HQ.out.2 o ho
                    have HHd : Hid (∀ W, Kept No W0 W → Kept No wr W ∨ True → ∀ m, Calls Try.prog 26 #[.int .i64 i, .pointer (some ⟨w.heap.size, 0, none⟩)] (W.drewN m) fun e w' => e = .returned (.int .i64 (hd ss i : Nat)) ∧ ∃ m', w' = W.drewN m') := fun W hW _ m =>
                      (handle_any (w := W.drewN m) (hW.cell HB0.out) (HS.out.kept (HK0.out.trans (hW.drewN m))) hlt (by omega)).mono (fun e w' ⟨h7, m', h8⟩ => ⟨h7, m + m', by rw [h8, World.drewN_drewN]⟩)
                    have HCi : Hid (∀ W, Kept No W0 W → W.cell? ⟨b, off + i, none⟩ = some (.string (tx ss i)) ∧ W.cell? ⟨w.heap.size, 0, none⟩ = some (.slice (some ⟨b, off, none⟩) ss.length cap)) := fun W hW => by
                      refine ⟨?_, hW.cell HB0.out⟩
                      obtain ⟨b', off', e2, hc2⟩ := (HS.out.kept (HK0.out.trans hW)).at hlt
                      cases e2
                      exact hc2 i hlt
                    have hne := oth_ne (tx ss i)
                    have hsz6 := oth_size (tx ss i)
                    generalize tx ss i = t at ci hz HTR HCi hne hsz6
                    generalize hd ss i = h at hh HTR HHd
                    clear hcell
                    have e2 : 2 * (ss.length - (i + 1)) + 1 + 1 = 2 * (ss.length - i) := by omega
                    have HE2 : Hid (2 * (ss.length - (i + 1)) + 1 + 1 = 2 * (ss.length - i)) := e2
                    clear e2
                    have HPo : Hid _ := HQ.out.1.put D1.out D2.out D3.out (by omega) (oth ++ t) (by rw [hsz6]; unfold maxLen; omega) (1000 + (i : Int)) (by omega) (by omega)
                    clear hsz6
                    go_wp2_with fail
                    refine Calls.mono HPo.out ?_
                    rintro e w4 ⟨c, C1, rfl, hP4, hr4⟩
                    have HP4 : Hid (P2 W0 w2 wa.heap.size A U Fa2 Fb2 C C1 ss.length (2 * (ss.length - (i + 1)) + 1) w4) := hP4
                    have HR4 : Hid _ := hr4
                    obtain ⟨d1, d2⟩ := HCi.out w4 hP4.2.2.1
                    have HH4 : Hid _ := HHd.out w4 hP4.2.2.1 (Or.inr trivial)
                    have HPt : Hid (∀ m, _) := fun m => (hP4.no ((Kept.refl _ _).drewN m)).put D1.out D2.out D3.out (by omega) t (by unfold maxLen; omega) (h : Int) (by omega) (by omega)
                    clear hP4 hr4 HPo ci cb
                    go_wp2_with fail
                    refine region_quiet_tail 8 (by kernel_rfl) (by kernel_rfl) ?_
                    simp only [List.take_succ_cons, List.take_zero, List.drop_succ_cons, List.drop_zero]
                    repeat (go_big_quiet_step (first | (go_at_call 26; exact HH4.out _)))
                    refine wpQuiet_nil ?_
                    rintro _ ⟨nq, rfl⟩
                    go_wp2_with fail
                    refine Calls.mono (HPt.out nq) ?_
                    rintro e w5 ⟨c2, C2, rfl, hP5, hr5⟩
                    rw [HE2.out] at hP5
                    have HP5 : Hid (P2 W0 w2 wa.heap.size A U Fa2 Fb2 C C2 ss.length (2 * (ss.length - i)) w5) := hP5
                    have hT := HTR.out (oth ++ t) c c2 C1 C2 hne HR4.out hr5
                    clear hP5 hr5 HPt HH4 d1 d2 HR4 HP4 HTR HCi HHd hne
                    rcases hT with ⟨rfl, hcs⟩ | ⟨rfl, hex, hcs⟩
                    · have HE : Hid (CS ss (fun k => i ≤ k ∧ k < ss.length) C2) := hcs
                      clear hcs
                      go_wp2_with (go_at_call 28; refine (no_any _ _).mono ?_; rintro e w' ⟨rfl, rfl⟩)
                      go_round
                      case rel => exact ⟨i, C2, by omega, by first | rfl | go_num, HP5.out, HE.out⟩
                      case measure => simp [ivO] <;> omega
                    · have HE : Hid (CS ss (fun k => i ≤ k ∧ k < ss.length) (C2.filter (fun e => e.1 != 1000 + (i : Int)))) := hcs
                      have HDr : Hid _ := HP5.out.drop D1.out D2.out D3.out (by omega) (1000 + (i : Int)) hex
                      clear hcs hex
                      go_wp2_with (go_at_call 28; refine (no_any _ _).mono ?_; rintro e w' ⟨rfl, rfl⟩)
                      refine Calls.mono HDr.out ?_
                      rintro e w6 ⟨rfl, hP6⟩
                      have HP6 : Hid (P2 W0 w2 wa.heap.size A U Fa2 Fb2 C (C2.filter (fun e => e.1 != 1000 + (i : Int))) ss.length (2 * (ss.length - i)) w6) := hP6
                      clear hP6 HDr
                      go_wp2_with (go_at_call 28; refine (no_any _ _).mono ?_; rintro e w' ⟨rfl, rfl⟩)
                      go_round
                      case rel => exact ⟨i, _, by omega, by first | rfl | go_num, HP6.out, HE.out⟩
                      case measure => simp [ivO] <;> omega
                  · obtain rfl : q = 0 := by omega
                    have HCb : Hid (CS ss (fun k => k < ss.length) Cb) := HQ.out.2.congr (fun k => by omega)
                    have HF1 : Hid _ := HQ.out.1.1.find s Hs.out
                    go_wp2_with fail
                    refine Calls.mono HF1.out ?_
                    rintro e w4 ⟨o1, rfl, ho1, hk4⟩
                    have HP4 : Hid (P2 W0 w2 wa.heap.size A U Fa2 Fb2 C Cb ss.length (2 * (ss.length - 0)) w4) := HQ.out.1.no hk4
                    have HF2 : Hid _ := HP4.out.2.1.find s Hs.out
                    have HO1 : Hid (∀ x, o1 = some x ↔ (x, s) ∈ C) := ho1
                    clear ho1 hk4 HF1 cb HSr
                    unfold fndV
                    go_wp2_with fail
                    refine Calls.mono HF2.out ?_
                    rintro e w5 ⟨o2, rfl, ho2, hk5⟩
                    have HP5 : Hid (P2 W0 w2 wa.heap.size A U Fa2 Fb2 C Cb ss.length (2 * (ss.length - 0)) w5) := HP4.out.no hk5
                    obtain rfl : o1 = o2 := by
                      have key : ∀ x, o1 = some x ↔ o2 = some x := fun x => by rw [HO1.out x, ho2 x, HCa.out x s, HCb.out x s]
                      cases o1 with
                      | none =>
                        cases o2 with
                        | none => rfl
                        | some y => exact (key y).2 rfl
                      | some x => exact ((key x).1 rfl).symm
                    clear ho2 hk5 HF2 HO1 HP4
                    have c5 : w5.cell? ⟨w.heap.size, 0, none⟩ = some (.slice ao ss.length cap) := HP5.out.2.2.1.cell HB0.out
                    have HSm : Hid _ := same_any HP5.out.1 HP5.out.2.1 (HS.out.kept (HK0.out.trans HP5.out.2.2.1)) HCa.out HCb.out (by omega)
                    unfold fndV
                    have hx1 : ((o1.getD 0 : Int) == (o1.getD 0 : Int)) = true := by simp
                    have hx2 : (o1.isSome == o1.isSome) = true := by simp
                    generalize o1.getD 0 = x at hx1 ⊢
                    generalize o1.isSome = p at hx2 ⊢
                    go_wp2_with fail
                    refine Calls.mono HSm.out ?_
                    rintro e w6 ⟨rfl, hk6⟩
                    have HK6 : Hid (Kept No w w6) := HK0.out.trans (HP5.out.2.2.1.trans hk6)
                    clear hk6 HSm
                    go_wp2
                    go_ret
                    exact ⟨rfl, HK6.out⟩
end Go.Proofs.Ytnfamebihpnjlaa
