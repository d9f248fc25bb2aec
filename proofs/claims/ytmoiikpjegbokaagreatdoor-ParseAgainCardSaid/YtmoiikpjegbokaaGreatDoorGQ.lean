/- Joined: J1 J2 J3 UK. -/
import Derived.Test.YtmoiikpjegbokaaGreatDoorGA
import Derived.Shelf.Strings.Builder2
import Derived.Deep.RegionHeld3
import Derived.Test.YtmoiikpjegbokaaGreatDoorT0
import Derived.Test.YtmoiikpjegbokaaGreatDoorGP
set_option linter.unusedSimpArgs false
set_option linter.unusedVariables false
set_option maxRecDepth 20000
set_option maxHeartbeats 4000000
/- The builder of texts: copyCheck, WriteByte, WriteString. -/
namespace Go.Proofs.YtmoiikpjegbokaaGreatDoor
open Go.RowKit
set_option maxRecDepth 100000 in
theorem cc_fresh (b : Nat) (w : World) (h0 : w.cell? ⟨b, 0, none⟩ = some (.pointer none)) (hsh : w.shape? b = some (75, 2)) (hfz : w.frozen? ⟨b, 0, none⟩ = false) :
    Calls Tryz.prog 95 #[.pointer (some ⟨b, 0, none⟩)] w fun e w' => e = .returned (.tuple #[]) ∧ w' = w.setCell ⟨b, 0, none⟩ (.pointer (some ⟨b, 0, none⟩)) := by
  obtain ⟨j, hj, hjs⟩ := Option.map_eq_some_iff.1 Tryz.Builder_Extra_169.sizeBuilder;go_enter Tryz.func95, Tryz.ntmps95
  go_wp2
  rw [Lib.run_to_unsafe w ⟨b, 0, none⟩ Tryz.underlying72 Tryz.underlying140 hj (by rw [hjs]; decide) hsh (Nat.zero_lt_succ 1)];simp only [Result.andThen];rw [Oper.upon_value];go_wp2
  rw [run_callFunc_extern Tryz.func134 (by kernel_rfl) (by kernel_rfl) (by kernel_rfl) (e := Extern.AbiNoEscape.same) (by kernel_rfl)];rw [Lib.run_noEscape];simp only [Result.andThen];rw [Oper.upon_value];go_wp2
  rw [Lib.run_from_unsafe w ⟨b, 0, none⟩ Tryz.underlying140 Tryz.underlying72 hj hsh Tryz.Builder_Extra_169.liesBuilder];simp only [Result.andThen];rw [Oper.upon_value];go_wp2
  go_end0
  exact ⟨rfl, rfl⟩
set_option maxRecDepth 100000 in
theorem cc_used (b : Nat) (w : World) (h0 : w.cell? ⟨b, 0, none⟩ = some (.pointer (some ⟨b, 0, none⟩))) :
    Calls Tryz.prog 95 #[.pointer (some ⟨b, 0, none⟩)] w fun e w' => e = .returned (.tuple #[]) ∧ w' = w := by
  obtain ⟨j, hj, _⟩ := Option.map_eq_some_iff.1 Tryz.Builder_Extra_169.sizeBuilder;go_enter Tryz.func95, Tryz.ntmps95
  go_wp2
  rw [Lib.run_neq_ptr_same w _ Tryz.underlying72 hj];go_wp2
  go_end0
  exact ⟨rfl, rfl⟩
theorem cc_any (B b : Nat) (bs : List Value) (w : World) (h : Lib.IsBuilderF 75 5 B b bs w) :
    Calls Tryz.prog 95 #[.pointer (some ⟨b, 0, none⟩)] w fun e w' => e = .returned (.tuple #[]) ∧ (Lib.BuilderAtF 75 5 B b (.pointer (some ⟨b, 0, none⟩)) bs w' ∧ Below B w w' ∧ Lib.OthersKept 5 (some b) w w') := by
  rcases h with h | h
  · refine (cc_fresh b w h.cell0 h.shape h.frozen0).mono ?_;rintro e w' ⟨rfl, rfl⟩;exact ⟨rfl, h.used _, (Below.refl B w).setCell (p := ⟨b, 0, none⟩) h.1 _, (Lib.OthersKept.refl _ _ w).setCell ⟨b, 0, none⟩ rfl _⟩
  · refine (cc_used b w h.cell0).mono ?_;rintro e w' ⟨rfl, rfl⟩;exact ⟨rfl, h, Below.refl B _, Lib.OthersKept.refl _ _ _⟩
set_option maxRecDepth 100000 in
theorem WriteString_any (B b : Nat) (bs : List Value) (s : ByteArray) (w : World) (h : Lib.IsBuilderF 75 5 B b bs w) (hlen : bs.length + s.size ≤ 140737488355328) (hBw : B ≤ w.heap.size) :
    Calls Tryz.prog 43 #[.pointer (some ⟨b, 0, none⟩), .string s] w fun e w' => e = .returned (.tuple #[.int .i64 s.size, .nilIface]) ∧ (Lib.IsBuilderF 75 5 B b (bs ++ Lib.strCells s) w' ∧ Below B w w' ∧ Lib.OthersKept 5 (some b) w w') := by
  obtain ⟨i0, hi, hz0, hz1, hz2⟩ := info_parts Tryz.Builder_Extra_169.infoByte;go_enter Tryz.func43, Tryz.ntmps43
  go_wp2_with fail
  refine Calls.mono (cc_any B b bs _ h) ?_;rintro e w1 ⟨rfl, h1, hb1, hk1⟩;obtain ⟨hB, v, hbk, hown, hne⟩ := h1;have c0 : w1.cell? ⟨b, 0, none⟩ = some (.pointer (some ⟨b, 0, none⟩)) := by rw [Lib.cell_of_heap hbk]; rfl
  have c1 : w1.cell? ⟨b, 1, none⟩ = some v := by rw [Lib.cell_of_heap hbk]; rfl
  go_wp2_with (at_builtin; refine Lib.wpList_append_own_stringF _ rfl _ _ 73 9 rfl B 5 i0 Tryz.underlying73 Tryz.underlying9 hi hz0 hz1 hz2 _ _ _ rfl hown s rfl ?c3 ?c4 ?c5 ?_)
  case c3 => unfold maxLen; omega
  case c4 => omega
  case c5 => have := hb1.size; omega
  intro v' w2 hown' hgrow _
  have hlt : b < w1.heap.size := by
    rcases Nat.lt_or_ge b w1.heap.size with h' | h'
    · exact h'
    · simp [Array.getElem?_eq_none h'] at hbk
  have hb2 : w2.heap[b]? = some (.cells #[.pointer (some ⟨b, 0, none⟩), v] 75 (0, 0)) := by
    rw [hgrow.block b hlt (fun e => hne e.symm)];exact hbk
  have d0 : w2.cell? ⟨b, 0, none⟩ = some (.pointer (some ⟨b, 0, none⟩)) := by rw [Lib.cell_of_heap hb2]; rfl
  have d1 : w2.cell? ⟨b, 1, none⟩ = some v := by rw [Lib.cell_of_heap hb2]; rfl
  have f1 : w2.frozen? ⟨b, 1, none⟩ = false := Lib.frozen_of_heap hb2 1
  obtain ⟨ao, n', cap, rfl⟩ : ∃ ao n' cap, v' = .slice ao n' cap := by
    rcases hown'.2 with ⟨hv, _⟩ | ⟨g, cap, cur, fz, hv, _⟩
    · exact ⟨_, _, _, hv⟩
    · exact ⟨_, _, _, hv⟩
  go_wp2
  go_ret2
  refine ⟨rfl, .inr ?_, ?_, (hk1.grown hgrow (Lib.ownsRowF_kind hown)).setCell ⟨b, 1, none⟩ rfl _⟩
  · exact Lib.BuilderAtF.put (T := 75) (e := 5) hB hb2 (bs' := bs ++ Lib.strCells s) (by simpa [Lib.strCells_length] using hown') (by decide)
  · exact (hb1.grown hgrow (by have := hb1.size; omega) (fun k hk => (hown.lt k hk).1)).setCell (p := ⟨b, 1, none⟩) hB _
end Go.Proofs.YtmoiikpjegbokaaGreatDoor
/- The builder of texts: Grow. -/
namespace Go.Proofs
open Go.Shelf
def Tryz.lays241_ren : Go.Shelf.Ren := ⟨fun | 241 => 96 | 277 => 135 | n => n, fun | 70 => 72 | 9 => 9 | 0 => 0 | 72 => 75 | 37 => 73 | 127 => 110 | 3 => 3 | 5 => 5 | n => n, fun | n => n⟩
theorem Tryz.lays241 : Go.Proofs.Lays.n241 Tryz.prog Tryz.lays241_ren := {
  mixed := by kernel_rfl
  f241 := Tryz.func96.trans (congrArg some (by kernel_rfl))
  f277 := Tryz.func135.trans (congrArg some (by kernel_rfl))
  t0 := Tryz.underlying0
  a0 := Tryz.isAgg0
  z0 := Tryz.sizeOf0
  v0 := Tryz.zeroValue0
  t3 := Tryz.underlying3
  a3 := Tryz.isAgg3
  z3 := Tryz.sizeOf3
  v3 := Tryz.zeroValue3
  t37 := Tryz.underlying73
  a37 := Tryz.isAgg73
  z37 := Tryz.sizeOf73
  v37 := Tryz.zeroValue73
  t70 := Tryz.underlying72
  a70 := Tryz.isAgg72
  z70 := Tryz.sizeOf72
  v70 := Tryz.zeroValue72
  t72 := Tryz.underlying75
  a72 := Tryz.isAgg75
  z72 := Tryz.sizeOf75
  v72 := Tryz.zeroValue75 }
theorem Tryz.Builder_Extra_241 : Builder.Extra Tryz.prog Tryz.lays241_ren := {
  sizeBuilder := by kernel_rfl
  liesBuilder := by kernel_rfl
  t5 := Tryz.underlying5
  a5 := Tryz.isAgg5
  z5 := Tryz.sizeOf5
  v5 := Tryz.zeroValue5
  infoByte := by kernel_rfl
  cellsByte := by kernel_rfl
  sizeByte := by kernel_rfl
  neB5 := by decide }
end Go.Proofs
namespace Go.Proofs.YtmoiikpjegbokaaGreatDoor
open Go.RowKit
theorem grow_fresh (B b n : Nat) (w : World) (hB : B ≤ b) (hbk : w.heap[b]? = some (.cells #[.pointer (some ⟨b, 0, none⟩), .slice none 0 0] 75 (0, 0))) (hBw : B ≤ w.heap.size) (hn : n ≤ 281474976710656) :
    Calls Tryz.prog 96 #[.pointer (some ⟨b, 0, none⟩), .int .i64 n] w fun e w' => e = .returned (.tuple #[]) ∧ (Lib.BuilderAt 75 5 B b (.pointer (some ⟨b, 0, none⟩)) [] w' ∧ Below B w w') :=
  Any.Builder_grow_fresh Tryz.lays241 Tryz.Builder_Extra_241 B b n w hB hbk hBw hn
theorem shape_of {w : World} {b : Nat} {c : Array Value} {T : TypeId} {f : Nat × Nat} (h : w.heap[b]? = some (.cells c T f)) : w.shape? b = some (T, c.size) := by
  unfold World.shape?; rw [h]
theorem Grow_fresh (B b n : Nat) (w : World) (hB : B ≤ b) (hbk : w.heap[b]? = some (.cells #[.pointer none, .slice none 0 0] 75 (0, 0))) (hBw : B ≤ w.heap.size) (h0 : 0 < n) (hn : n ≤ 281474976710656) :
    Calls Tryz.prog 42 #[.pointer (some ⟨b, 0, none⟩), .int .i64 n] w fun e w' => e = .returned (.tuple #[]) ∧ (Lib.IsBuilderF 75 5 B b [] w' ∧ Below B w w') := by
  have hbl := hp_lt hbk;have HC : Hid _ := cc_fresh b w (by rw [cell_of hbk]; rfl) (shape_of hbk) (frozen_of hbk 0);have hb1 : (w.setCell ⟨b, 0, none⟩ (.pointer (some ⟨b, 0, none⟩))).heap[b]? = some (.cells #[.pointer (some ⟨b, 0, none⟩), .slice none 0 0] 75 (0, 0)) := set_same hbk 0 _;obtain ⟨W1, HW1⟩ := nm (w.setCell ⟨b, 0, none⟩ (.pointer (some ⟨b, 0, none⟩)))
  have HBl : Hid (Below B w W1) := by
    show Below _ _ _;rw [← HW1.out];exact ⟨rfl, rfl, rfl, by simp [World.setCell], fun k hk => set_low w _ _ (by omega)⟩
  rw [HW1.out] at HC hb1;have c1 := cell_of hb1 1;simp only [List.getElem?_toArray, List.getElem?_cons_zero, List.getElem?_cons_succ] at c1;have HG : Hid (∀ W, W.heap = W1.heap → Calls Tryz.prog 96 #[.pointer (some ⟨b, 0, none⟩), .int .i64 n] W fun e w' => e = .returned (.tuple #[]) ∧ (Lib.BuilderAt 75 5 B b (.pointer (some ⟨b, 0, none⟩)) [] w' ∧ Below B W w')) := fun W hW => grow_fresh B b n W hB (by rw [hW]; exact hb1) (by rw [hW]; have := HBl.out.size; omega) hn
  have q1 : ¬ (n : Int) < 0 := by omega
  have q2 : (0 : Int) < (n : Int) := by omega
  have w0 : IntKind.i64.wrap 0 = 0 := by rw [IntKind.wrap_i64]; decide
  have q5 : decide (IntKind.i64.wrap 0 < (n : Int)) = true := by rw [w0]; exact decide_eq_true q2
  clear hbk hb1 HW1;go_enter Tryz.func42, Tryz.ntmps42
  go_wp2_with fail
  refine Calls.mono HC.out ?_;rintro e w1 ⟨rfl, rfl⟩;clear HC;go_wp2_with fail
  go_region_held3 (fun w' => w'.cell? ⟨b, 1, none⟩ = some (.slice none 0 0)) (go_keep) (first | (fail))
  go_wp2_with fail
  refine Calls.mono (HG.out _ rfl) ?_;rintro e w2 ⟨rfl, hb2, hk2⟩;have hk2 : Below B w1 w2 := ⟨hk2.os, hk2.tape, hk2.output, hk2.size, hk2.block⟩;have HF : Hid (Lib.IsBuilderF 75 5 B b [] w2 ∧ Below B w w2) := ⟨.inr (Lib.BuilderAtF.of hb2), HBl.out.trans hk2⟩;clear hb2 hk2 HG HBl;go_wp2_with fail
  go_end0
  exact ⟨rfl, HF.out⟩
def joinL : List ByteArray → List UInt8
  | [] => []
  | x :: r => x.data.toList ++ (r.map (fun y => 32 :: y.data.toList)).flatten
def joinB (ts : List ByteArray) : ByteArray := ⟨(joinL ts).toArray⟩
def sumZ (ts : List ByteArray) : Nat := (ts.map ByteArray.size).sum
theorem sumZ_snoc (ts : List ByteArray) (x : ByteArray) : sumZ (ts ++ [x]) = sumZ ts + x.size := by simp [sumZ]
theorem sumZ_le (a b : List ByteArray) : sumZ a ≤ sumZ (a ++ b) := by simp [sumZ]
theorem join_snoc {ts : List ByteArray} (h : ts ≠ []) (x : ByteArray) : joinL (ts ++ [x]) = joinL ts ++ (32 :: x.data.toList) := by
  cases ts with
  | nil => exact absurd rfl h
  | cons y r => simp [joinL]
theorem join_len : ∀ ts : List ByteArray, (joinL ts).length ≤ sumZ ts + ts.length := by
  intro ts;cases ts with
  | nil => simp [joinL]
  | cons y r =>
    have : ((r.map (fun y => 32 :: y.data.toList)).flatten).length = sumZ r + r.length := by
      induction r with
      | nil => simp [sumZ]
      | cons z r ih => simp only [List.map_cons, List.flatten_cons, List.length_append, List.length_cons, ih, sumZ, List.sum_cons, ByteArray.size, Array.length_toList]; omega
    simp only [joinL, List.length_append, this, sumZ, List.map_cons, List.sum_cons, List.length_cons, ByteArray.size, Array.length_toList];omega
def TRw (w : World) (g : Nat) (ts : List ByteArray) : Prop := ∀ j (h : j < ts.length), w.cell? ⟨g, j, none⟩ = some (.string ts[j])
theorem Below.cell {B : Nat} {w w' : World} (h : Below B w w') {g j : Nat} {v : Value} (hg : g < B) (hc : w.cell? ⟨g, j, none⟩ = some v) : w'.cell? ⟨g, j, none⟩ = some v := by
  have := h.block g hg;unfold World.cell? at hc ⊢;rw [this]; exact hc
theorem Join_many {w : World} {g cap : Nat} {ts : List ByteArray} (h : TRw w g ts) (hg : g < w.heap.size) (h2 : 2 ≤ ts.length) (hn : ts.length ≤ 1000000) (hc : ts.length ≤ cap) (hz : sumZ ts ≤ 100000000000) :
    Calls Tryz.prog 25 #[.slice (some ⟨g, 0, none⟩) ts.length cap, .string ⟨#[32]⟩] w fun r w' => r = .returned (.string (joinB ts)) ∧ Kept No w w' := by
  have H0 : Hid (TRw w g ts) := h;have HZ : Hid (sumZ ts ≤ 100000000000) := hz;obtain ⟨n, HN⟩ := nm (ts.length);rw [HN.out] at h2 hn hc ⊢
  have q0 : ((n : Int) == 0) = false := by have : ¬ (n : Int) = 0 := by omega
                                           simpa using this
  have q1 : ((n : Int) == 1) = false := by have : ¬ (n : Int) = 1 := by omega
                                           simpa using this
  have p0 : ¬ n = 0 := by omega
  have p1 : ¬ n = 1 := by omega
  have u1 : IntKind.i64.wrap ((n : Int) - 1) = (n : Int) - 1 := by rw [IntKind.wrap_i64]; omega
  have q3 : ¬ (n : Int) - 1 = 0 := by omega
  have u2 : (1 : Int) < 9223372036854775807 / ((n : Int) - 1) := by
    have : (2 : Int) ≤ 9223372036854775807 / ((n : Int) - 1) := Int.le_ediv_of_mul_le (by omega) (by omega);omega
  clear h hz;go_enter Tryz.func25, Tryz.ntmps25
  go_wp2_with fail
  go_loopw [5, 41] (fun s i wr => ∃ j : Nat, j ≤ n ∧ i = .int .i64 j ∧ (∃ m : Nat, s = .int .i64 m ∧ 1 ≤ m ∧ m ≤ 200000000000 ∧ Hid (m = n - 1 + sumZ (ts.take j))) ∧ Hid (wr = w)) (fun _ i _ => n - (intOf i).toNat)
  case atStart => exact ⟨0, by omega, rfl, ⟨n - 1, by congr 1; omega, by omega, by omega, by show _ = _; simp [sumZ]⟩, show _ = _ from rfl⟩
  case round =>
    obtain ⟨j, hj, rfl, ⟨m, rfl, hm1, hm, HM⟩, HW⟩ := hrel;have e := HW.out;subst e;by_cases hlt : j < n
    · have k1 : (j : Int) < (n : Int) := by omega
      have j1 : j < ts.length := by have := HN.out; omega
      have x0 := H0.out j j1
      have hs : sumZ (ts.take (j + 1)) = sumZ (ts.take j) + ts[j].size := by
        rw [List.take_add_one, List.getElem?_eq_getElem j1];exact sumZ_snoc _ _
      have hs2 : sumZ (ts.take (j + 1)) ≤ sumZ ts := by
        have := sumZ_le (ts.take (j + 1)) (ts.drop (j + 1))
        rwa [List.take_append_drop] at this
      have hz := HZ.out;obtain ⟨t, HT⟩ := nm (ts[j]);rw [HT.out] at x0 hs;have HM2 : Hid (m + t.size = n - 1 + sumZ (ts.take (j + 1))) := by have := HM.out; show _ = _; omega
      have hts : t.size ≤ 100000000000 := by omega
      have hms : m + t.size ≤ 200000000000 := by have := HM2.out; omega
      have u3 : IntKind.i64.wrap (9223372036854775807 - (m : Int)) = 9223372036854775807 - (m : Int) := by rw [IntKind.wrap_i64]; omega
      have q4 : ¬ (9223372036854775807 - (m : Int)) < (t.size : Int) := by omega
      have u4 : IntKind.i64.wrap ((m : Int) + (t.size : Int)) = (m : Int) + (t.size : Int) := by rw [IntKind.wrap_i64]; omega
      clear hs hs2 hz;go_wp2_with fail
      go_roundw
      case rel => exact ⟨j + 1, by omega, by go_num, ⟨m + t.size, by go_num, by omega, by omega, HM2.out⟩, trivial⟩
      case measure => simp [intOf]; omega
    · have k1 : ¬ (j : Int) < (n : Int) := by omega
      have z0 := H0.out 0 (by have := HN.out; omega);obtain ⟨W1, HW1⟩ := nm (wr.alloc (.cells #[.pointer none, .slice none 0 0] 75));have hb1 : W1.heap[wr.heap.size]? = some (.cells #[.pointer none, .slice none 0 0] 75 (0, 0)) := by rw [← HW1.out]; exact World.alloc_heap_new wr _
      have HB1 : Hid (Below wr.heap.size wr W1) := by show Below _ _ _; rw [← HW1.out]; exact (Below.refl _ _).alloc (Nat.le_refl _) _
      have HG : Hid _ := Grow_fresh wr.heap.size wr.heap.size m W1 (Nat.le_refl _) hb1 HB1.out.size (by omega) (by omega);clear hb1 HM;go_wp2_with (first | rw [HW1.out])
      refine Calls.mono HG.out ?_;rintro e W2 ⟨rfl, hb2, hk2⟩;obtain ⟨s0, HS0⟩ := nm (ts[0]'(by have := HN.out; omega));have HBa : Hid (Below wr.heap.size wr W2) := HB1.out.trans hk2;have y0 := Below.cell HBa.out hg z0;rw [HS0.out] at y0;have hz := HZ.out
      have hsz : s0.size ≤ 100000000000 := by
        have h1 : sumZ (ts.take 1) = s0.size := by
          rw [← HS0.out];cases ts with
          | nil => have := HN.out; simp at this; omega
          | cons y r => simp [sumZ]
        have := sumZ_le (ts.take 1) (ts.drop 1);rw [List.take_append_drop, h1] at this;omega
      have HWs : Hid _ := WriteString_any wr.heap.size wr.heap.size [] s0 W2 hb2 (by simp only [List.length_nil]; omega) HBa.out.size;have p2 : (1 : Int) ≤ (n : Int) := by omega
      have p3 : (1 : Int) ≤ (cap : Int) := by omega
      have p4 : 1 ≤ n := by omega
      have p5 : 1 ≤ cap := by omega
      have p6 : n ≤ cap := hc;have p7 : ¬ cap = 1 := by omega
      have p8 : (cap == 1) = false := by simpa using p7
      clear hb2 hk2 hz hsz z0 HG HB1 HW1;go_wp2_with fail
      refine Calls.mono HWs.out ?_;rintro e W3 ⟨rfl, hb3, hk3, _⟩
      have HJ1 : Hid (Lib.IsBuilderF 75 5 wr.heap.size wr.heap.size (Lib.byteCells (joinL (ts.take 1))) W3 ∧ Below wr.heap.size wr W3) := by
        refine ⟨?_, HBa.out.trans hk3⟩
        have e1 : joinL (ts.take 1) = s0.data.toList := by
          rw [← HS0.out];cases ts with
          | nil => have := HN.out; simp at this; omega
          | cons y r => simp [joinL]
        rw [e1, ← Lib.strCells_eq];simpa using hb3
      clear hb3 hk3 HWs HBa y0 HS0;obtain ⟨w0, HW0⟩ := nmr (wr);go_wp2_with fail
      have e0 := HW0.out;subst e0;clear HW0
      go_loopw [65] (fun i wx => ∃ j : Nat, j ≤ n - 1 ∧ i = .int .i64 j ∧ Hid (Lib.IsBuilderF 75 5 w0.heap.size w0.heap.size (Lib.byteCells (joinL (ts.take (1 + j)))) wx ∧ Below w0.heap.size w0 wx)) (fun i _ => n - (intOf i).toNat)
      case atStart => exact ⟨0, by omega, rfl, HJ1.out⟩
      case round =>
        clear HJ1;obtain ⟨j2, hj2, rfl, HK⟩ := hrel;by_cases hlt : j2 < n - 1
        · have k2 : (j2 : Int) < ((n - 1 : Nat) : Int) := by omega
          have j1 : 1 + j2 < ts.length := by have := HN.out; omega
          have x0 := Below.cell HK.out.2 hg (H0.out (1 + j2) j1);obtain ⟨s, HS⟩ := nm (ts[1 + j2]);rw [HS.out] at x0
          have hbd : (joinL (ts.take (1 + j2))).length + 1 + s.size ≤ 200000000000 := by
            have h1 := join_len (ts.take (1 + j2))
            have h3 : sumZ (ts.take (1 + j2 + 1)) = sumZ (ts.take (1 + j2)) + s.size := by
              rw [List.take_add_one, List.getElem?_eq_getElem j1, HS.out];exact sumZ_snoc _ _
            have h4 := sumZ_le (ts.take (1 + j2 + 1)) (ts.drop (1 + j2 + 1));rw [List.take_append_drop] at h4;have h5 := HZ.out;have h6 : (ts.take (1 + j2)).length ≤ 1000000 := by rw [List.length_take]; omega
            omega
          have e1 : joinL (ts.take (1 + (j2 + 1))) = joinL (ts.take (1 + j2)) ++ ([32] ++ s.data.toList) := by
            rw [show 1 + (j2 + 1) = (1 + j2) + 1 by omega, List.take_add_one, List.getElem?_eq_getElem j1, HS.out];refine join_snoc ?_ s;intro e;have := congrArg List.length e;rw [List.length_take, List.length_nil] at this;omega
          have HE : Hid _ := e1;have HWs : Hid _ := WriteString_any w0.heap.size w0.heap.size _ ⟨#[32]⟩ wr HK.out.1 (by rw [Lib.byteCells_length]; show _ + 1 ≤ _; omega) HK.out.2.size;have HBd : Hid _ := hbd;clear e1 hbd;go_wp2_with fail
          refine Calls.mono HWs.out ?_;rintro e W4 ⟨rfl, hb4, hk4, _⟩;have HB4 : Hid (Below w0.heap.size w0 W4) := HK.out.2.trans hk4;have HWt : Hid _ := WriteString_any w0.heap.size w0.heap.size _ s W4 hb4 (by rw [List.length_append, Lib.byteCells_length, Lib.strCells_length]; have := HBd.out; show _ + 1 + _ ≤ _; omega) HB4.out.size;clear hb4 hk4 HWs x0 HK;go_wp2_with fail
          refine Calls.mono HWt.out ?_;rintro e W5 ⟨rfl, hb5, hk5, _⟩
          have HF : Hid (Lib.IsBuilderF 75 5 w0.heap.size w0.heap.size (Lib.byteCells (joinL (ts.take (1 + (j2 + 1))))) W5 ∧ Below w0.heap.size w0 W5) := by
            refine ⟨?_, HB4.out.trans hk5⟩;rw [HE.out, Lib.byteCells_append, Lib.byteCells_append, ← List.append_assoc, ← Lib.strCells_eq s];exact hb5
          clear hb5 hk5 HWt HB4 HE HBd;go_wp2_with fail
          go_roundw
          case rel => exact ⟨j2 + 1, by omega, by go_num, HF.out⟩
          case measure => simp [intOf]; omega
        · have k2 : ¬ (j2 : Int) < ((n - 1 : Nat) : Int) := by omega
          have ej : ts.take (1 + j2) = ts := List.take_of_length_le (by have := HN.out; omega);have HSt : Hid _ := Tryz.Builder_String_any_k w0.heap.size w0.heap.size (joinL ts) wr (by have := HK.out.1; rwa [ej] at this) HK.out.2.size;go_wp2_with fail
          refine Calls.mono HSt.out ?_;rintro e W6 ⟨rfl, _, hk6, _⟩;have HF : Hid (Below w0.heap.size w0 W6) := HK.out.2.trans hk6;clear hk6 HSt;go_wp2_with fail
          go_ret
          exact ⟨rfl, Kept.of_below HF.out⟩
variable {nt : Int → Int → ByteArray} {qt : ByteArray → ByteArray} {P : Int → Int → Prop}
theorem hp_22 {m m2 : List Tr} (h1 : m ≠ []) (h2 : m2 ≠ []) (hml : m.length ≤ 50000) (hml2 : m2.length ≤ 50000) (hk : ∀ x ∈ m, x.k = 6 ∨ x.k = 10) (t : ByteArray) (vt vn xa : Int) : HasP (.mk 22 t vt vn m.length (m ++ m2) xa) := by
 intro S w cs hX;obtain ⟨sv, rfl, hl⟩ := NodeIs.cs.1 hX;obtain ⟨W0, HW0⟩ := nm (w.alloc (nb (ncs 22 t vt vn m.length sv xa)));have hk0 : Kept No w W0 := by rw [← HW0.out]; exact (Kept.refl No w).alloc _
 have s0 : W0.heap.size = w.heap.size + 1 := by rw [← HW0.out]; simp
 obtain ⟨W1, HW1⟩ := nm (W0.alloc (.cells #[.int .i64 6, .int .i64 10] 3));have hk1 : Kept No W0 W1 := by rw [← HW1.out]; exact (Kept.refl No W0).alloc _
 have hK : KRow W1 W0.heap.size [6, 10] := by unfold KRow; rw [← HW1.out]; exact World.alloc_heap_new W0 _
 have hpos : 0 < m2.length := List.length_pos_iff.2 h2;have hpos1 : 0 < m.length := List.length_pos_iff.2 h1;rcases hl with ⟨e, _⟩ | ⟨b, o, cp, rfl, hb, hbl, hr⟩
 ·simp [h1] at e
 have hrt : RowAt S W1 b o m 0 := by
  have := row_take (RowAt.kept (hk0.trans hk1).no b o hb _ 0 hr) m.length
  rwa [List.take_left] at this
 have HA : Hid (Calls Tryz.prog 83 #[.slice (some ⟨b, o, none⟩) m.length cp, .slice (some ⟨W0.heap.size, 0, none⟩) 2 2] W1 fun r w' => r = .returned (.bool true) ∧ Kept No W1 w') := all_true (ks := [6, 10]) hb hrt hK (by decide) (by omega) (fun x hx => by rcases hk x hx with e | e <;> rw [e] <;> simp);have HK : Hid (Kept No w W1) := hk0.trans hk1;have hcp := hbl.2;rw [List.length_append] at hcp HW0 ⊢;rw [s0] at HA;obtain ⟨k, HKk⟩ := nm (m.length);obtain ⟨k2, HKk2⟩ := nm (m2.length);rw [HKk.out] at hcp HW0 HA hml hpos1 ⊢;rw [HKk2.out] at hcp HW0 hml2 hpos ⊢;unfold nb ncs at HW0;clear hX hk0 hk1 hK hb hbl hr hrt s0 h1 h2 hk HKk HKk2;unfold ncs;have p1 : k ≤ cp := by omega
 have p2 : (k : Int) ≤ (cp : Int) := by omega
 have p3 : (0 : Int) < (k : Int) := by omega
 have p5 : (k : Int) < ((k + k2 : Nat) : Int) := by omega
 have p6 : 0 < k2 := hpos;have p7 : 0 < k := hpos1;go_enter Tryz.func39, Tryz.ntmps39
 go_wp2_with fail
 rw [HW0.out, HW1.out];refine Calls.mono HA.out ?_;rintro r W2 ⟨rfl, hk2⟩;have HK2 : Hid _ := HK.out.trans hk2;clear hk2 HA HK HW0 HW1;go_wp2_with fail
 go_ret
 exact ⟨rfl, HK2.out⟩
theorem SRw.form {w : World} {B : Nat} {v : Value} {l : List ByteArray} (h : SRw w B v l) (hl : 0 < l.length) : ∃ g cap, v = .slice (some ⟨g, 0, none⟩) l.length cap ∧ l.length ≤ cap ∧ g < w.heap.size ∧ TRw w g l := by
 obtain ⟨o1, o2⟩ := h;rcases o2 with ⟨h2, h3⟩ | ⟨g, cap, cur, h3, h4, h5, h6, h7, h8, h9⟩
 ·omega
 ·refine ⟨g, cap, h3, h6, (Array.getElem?_eq_some_iff.1 h5).1, fun j hj => ?_⟩;have : (l.map Value.string)[j]? = some (.string l[j]) := by simp [hj]
  rw [cell_of h5, ← this, ← h9, List.getElem?_take, if_pos (by omega), Array.getElem?_toList]
theorem Print_any {x : Tr} (hx : TreeIs nt qt P x) {S : Nat → Prop} {w : World} {cs : List Value} (hX : NodeIs S w x cs) (hN : ∀ W c, Kept No w W → w.heap.size ≤ c → NumOK nt P c W) (h2 : 2 ≤ (prT nt qt x).length) (hl : (prT nt qt x).length ≤ 1000000) (hz : sumZ (prT nt qt x) ≤ 100000000000) :
  Calls Tryz.prog 11 #[.agg cs.toArray] w fun r w' => r = .returned (.string (joinB (prT nt qt x))) ∧ Kept No w w' := by
 obtain ⟨k, t, vt, vn, n, xl, xa⟩ := x;obtain ⟨sv, rfl, hll⟩ := NodeIs.cs.1 hX;obtain ⟨ao, ln, cp, rfl⟩ := slice_of hll;obtain ⟨W0, HW0⟩ := nm (w.alloc (nb (ncs k t vt vn n (.slice ao ln cp) xa)));have hk0 : Kept No w W0 := by rw [← HW0.out]; exact (Kept.refl No w).alloc _
 have s0 : W0.heap.size = w.heap.size + 1 := by rw [← HW0.out]; simp
 have hb0 : W0.heap[w.heap.size]? = some (nb (ncs k t vt vn n (.slice ao ln cp) xa)) := by rw [← HW0.out]; exact World.alloc_heap_new w _
 obtain ⟨W1, HW1⟩ := nm (W0.alloc (.cells #[.slice none 0 0] 55));have hk1 : Kept No W0 W1 := by rw [← HW1.out]; exact (Kept.refl No W0).alloc _
 have s1 : W1.heap.size = w.heap.size + 2 := by rw [← HW1.out]; simp [s0]
 have hp1 : Pr W1 (w.heap.size + 1) (w.heap.size + 2) (.slice none 0 0) [] := by
  refine ⟨?_, World.ownsRow_nil _ _ _ _, by omega, by omega⟩;rw [← HW1.out, ← s0]; exact World.alloc_heap_new W0 _
 have hn1 : NodeIs (Out2 (w.heap.size + 1) (.slice none 0 0)) W1 (.mk k t vt vn n xl xa) (ncs k t vt vn n (.slice ao ln cp) xa) := by
  refine NodeIs.mono (fun b hb => ?_) _ _ (NodeIs.kept ((hk0.trans hk1).no) _ _ (NodeIs.more _ _ hX));rcases hb with hb | hb
  ·exact .inr (by omega)
  ·simp [Value.ownBlock] at hb
 have HT : Hid _ := hx W1 (w.heap.size + 1) (w.heap.size + 2) (.slice none 0 0) [] _ hp1 (hN W1 _ (hk0.trans hk1) (by omega)) hn1 (by simpa using hl);obtain ⟨ts, HTs⟩ := nm (prT nt qt (.mk k t vt vn n xl xa));rw [HTs.out] at HT h2 hl hz ⊢;have HK1 : Hid (Kept No w W1 ∧ W1.heap.size = w.heap.size + 2) := ⟨hk0.trans hk1, s1⟩;obtain ⟨r0, r1, r2, r3, r4, r5, r6⟩ := nb_cells (hk1.heap hb0 id);have HZ : Hid _ := hz;unfold nb ncs at HW0;clear hX hll hk0 hk1 hb0 hp1 hn1 hx hN HTs s1 hz;unfold ncs;go_enter Tryz.func11, Tryz.ntmps11
 go_wp2_with (first | rw [HW0.out] | rw [HW1.out])
 refine Calls.mono HT.out ?_;rintro r W2 ⟨rfl, v2, hp2, hs2⟩;rw [List.nil_append] at hp2;obtain ⟨g, cap, rfl, hcap, hg, hT⟩ := hp2.row.form (by omega);have b0 := cell_of hp2.box 0;have HJ : Hid _ := Join_many (cap := cap) hT hg h2 hl hcap HZ.out
 have HK2 : Hid (Kept No w W2) := HK1.out.1.trans' hs2.kept (fun i hi => by
  rcases hi with hi | hi
  ·exact .inr (by omega)
  ·simp [Value.ownBlock] at hi)
 clear hp2 hs2 hT hg hcap HT HW0 HW1 s0 r0 r1 r2 r3 r4 r5 r6 HZ HK1;go_wp2_with fail
 refine Calls.mono HJ.out ?_;rintro r W3 ⟨rfl, hk3⟩;have HK3 : Hid _ := HK2.out.trans hk3;clear hk3 HJ HK2;go_wp2_with fail
 go_ret
 exact ⟨rfl, HK3.out⟩
end Go.Proofs.YtmoiikpjegbokaaGreatDoor
