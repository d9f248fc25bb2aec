/- Every source's tree is printed as the pure printer says. -/
import Derived.Test.YtmoiikpjegbokaaGreatDoorUV
import Derived.Test.YtmoiikpjegbokaaGreatDoorPK
import Derived.Test.YtmoiikpjegbokaaGreatDoorPJ
import Derived.Test.YtmoiikpjegbokaaGreatDoorGR
import Derived.Test.YtmoiikpjegbokaaGreatDoorGT
set_option linter.unusedSimpArgs false
set_option linter.unusedVariables false
namespace Go.Proofs.YtmoiikpjegbokaaGreatDoor
open List renaming mem_singleton → lms
open Go.RowKit
theorem num_lot {w : World} (ht : Tab10 w) (hd : w.cell? ⟨7, 15, none⟩ = some (.int .u8 4)) : ∀ W c, Kept No w W → w.heap.size ≤ c → NumOK ntT NumP c W := by
  intro W c hk hc W2 hl vt vn hp
  have hb : Below w.heap.size w W2 := by
    refine Below.trans hk.below ?_;exact ⟨hl.os, hl.tape, hl.output, hl.size, fun k hk' => hl.block k (by omega)⟩
  rcases hp with ⟨rfl, h1, h2⟩ | ⟨rfl, h1, h2, h3⟩
  · refine Calls.mono (Text_int vn W2 (by omega) (by omega) (tab10_below ht hb)) ?_;rintro r w' ⟨rfl, hb2⟩;exact ⟨rfl, Kept.of_below hb2⟩
  · refine Calls.mono (Text_float vn W2 h1 h2 h3 (Below.cell hb (World.block_lt_of_cell? _ _ hd) hd)) ?_;rintro r w' ⟨rfl, hb2⟩;exact ⟨rfl, Kept.of_below hb2⟩
theorem qt_call (t : ByteArray) (hs : t.size ≤ 8192) (W : World) : Calls Tryz.prog 87 #[.string t] W fun r w' => r = .returned (.string (qtT t)) ∧ Kept No W w' := by
  refine Calls.mono (Tq.Quote_any t W (by omega)) ?_;rintro r w' ⟨rfl, hb⟩;exact ⟨rfl, Kept.of_below hb⟩
abbrev TI (x : Tr) : Prop := TreeIs ntT qtT NumP x
theorem ne_of_size {t : ByteArray} (h : 0 < t.size) : t.toList ≠ [] := by
  rw [ByteArray.toList_eq];intro e;have h1 : t.data.toList.length = 0 := by rw [e]; rfl
  rw [← Lib.size_eq] at h1;omega
theorem ne_of_fix {t : ByteArray} (h : t.data.toList ∈ fixL) : t.toList ≠ [] := by
  rw [ByteArray.toList_eq];intro e;have := (fix_facts _ h).2.1;rw [e] at this;simp at this
theorem ch_kinds (m : List Tr) (hm : m = [] ∨ ∃ b, (TI b ∧ b.k = 20) ∧ m = [b]) : ∀ l : List (Tr × Tr), (∀ x ∈ l, TI x.1 ∧ (TI x.2 ∧ x.2.k = 20)) → (l ≠ [] ∨ m = [] ∨ True) → ∀ i (hi : i < (l.flatMap (fun x => [x.1, x.2]) ++ m).length), i % 2 = 1 ∨ i + 1 = (l.flatMap (fun x => [x.1, x.2]) ++ m).length → ((l.flatMap (fun x => [x.1, x.2]) ++ m)[i]).k = 20
  | [], _, _, i, hi, h => by
    rcases hm with rfl | ⟨b, ⟨_, hb⟩, rfl⟩
    · simp at hi
    · simp at hi;subst hi;exact hb
  | (x, y) :: r, hl, _, 0, hi, h => by
    simp at h
  | (x, y) :: r, hl, _, 1, hi, h => (hl (x, y) (by simp)).2.2
  | (x, y) :: r, hl, _, i + 2, hi, h => by
    have h1 : i < (r.flatMap (fun x => [x.1, x.2]) ++ m).length := by simpa using hi
    have h2 : i % 2 = 1 ∨ i + 1 = (r.flatMap (fun x => [x.1, x.2]) ++ m).length := by
      rcases h with h | h
      · left; omega
      · right; simp only [List.flatMap_cons, List.cons_append, List.nil_append, List.length_cons] at h; omega
    have := ch_kinds m hm r (fun z hz => hl z (by simp [hz])) (.inr (.inr trivial)) i h1 h2;simpa using this
theorem ti_clo {V : Env} (hV : ∀ X ∈ V.L, Cutd X) (hL : V.L.length ≤ 8192) (w : World) (he : ErrIs w) : Clo V (fun x => TI x ∧ x.k = 6) TI TI TI (fun x => TI x ∧ x.k = 20) where
  name := fun X hX hk a => ⟨tree_expr (hp_6 _ _ _ _ _ _) (expr_6 _ _ _ _ _ _ (ne_of_size (hV X hX).size.1)) (show (6 : Int) < 20 by decide), rfl⟩
  ofN := fun x h => h.1
  key := fun X hX hk a => tree_expr (hp_5 _ _ _ _ _ _) (expr_5 _ _ _ _ _ _ (ne_of_size (by rw [qt_size]; omega)) (qt_call _ (hV X hX).size.2)) (show (5 : Int) < 20 by decide)
  num := fun X hX hk a => tree_expr (hp_4 _ _ _ _ _ _) (expr_4 _ _ _ _ _ _ (ne_of_size (nt_tok ((cutd_kind (hV X hX) w he).2 hk) w he).size.1) ((cutd_kind (hV X hX) w he).2 hk)) (show (4 : Int) < 20 by decide)
  text := fun X hX hk a => tree_expr (hp_5 _ _ _ _ _ _) (expr_5 _ _ _ _ _ _ (ne_of_size (by rw [qt_size]; omega)) (qt_call _ (cutd_kind (hV X hX) w he).1)) (show (5 : Int) < 20 by decide)
  word := fun k a hk => by
    rcases hk with rfl | rfl | rfl
    · exact tree_expr (hp_1 _ _ _ _ _ _) (expr_1 _ _ _ _ _ _) (show (1 : Int) < 20 by decide)
    · exact tree_expr (hp_2 _ _ _ _ _ _) (expr_2 _ _ _ _ _ _) (show (2 : Int) < 20 by decide)
    · exact tree_expr (hp_3 _ _ _ _ _ _) (expr_3 _ _ _ _ _ _) (show (3 : Int) < 20 by decide)
  func := fun l b a h1 h2 h3 => tree_expr (hp_7 _ _ _ _ h3.2 (fun y hy => (h1 y hy).2) (by omega) _) (expr_7 (fun y hy => (h1 y hy).1) h3.1 (by omega) _ _ _ _ _) (show (7 : Int) < 20 by decide)
  un := fun t x a h1 h2 => tree_expr (hp_9 _ _ _ _ _ _) (expr_9 h2 _ (ne_of_fix (un_fix _ h1)) _ _ _ _) (show (9 : Int) < 20 by decide)
  bin := fun t x y a h1 h2 h3 => tree_expr (hp_8 _ _ _ _ _ _ _) (expr_8 h2 h3 _ (ne_of_fix (bin_fix h1).1) _ _ _ _) (show (8 : Int) < 20 by decide)
  index := fun x y a h1 h2 => tree_expr (hp_10 _ _ _ _ _ _ _) (expr_10 h1 h2 _ _ _ _ _) (show (10 : Int) < 20 by decide)
  call := fun x l a h1 h2 h3 => tree_expr (hp_11 _ _ _ _ _ _ _) (expr_11 h1 h2 (by omega) _ _ _ _ _) (show (11 : Int) < 20 by decide)
  table := fun l a h1 h2 => tree_expr (hp_12 _ _ _ _ _ _) (expr_12 h1 (by omega) _ _ _ _ _) (show (12 : Int) < 20 by decide)
  item := fun x a h => tree_expr (hp_13 _ _ _ _ _ _) (expr_13 h _ _ _ _ _) (show (13 : Int) < 20 by decide)
  pair := fun x y a h1 h2 => tree_expr (hp_14 _ _ _ _ _ _ _) (expr_14 h1 h2 _ _ _ _ _) (show (14 : Int) < 20 by decide)
  block := fun l a h1 h2 h3 => ⟨tree_stmt (hp_20 _ _ _ _ _ _) (stmt_20 h1 (by omega) _ _ _ _ _) (show (20 : Int) ≤ 20 by decide), rfl⟩
  ret := fun l a h1 h2 => tree_stmt (hp_27 _ _ _ _ _ _) (stmt_27 h1 (by omega) _ _ _ _ _) (show (20 : Int) ≤ 27 by decide)
  locals := fun l m a h0 h1 h2 h3 h4 => by
    refine tree_stmt (hp_21 h0 (by omega) (by omega) (fun x hx => (h1 x hx).2) _ _ _ _) ?_ (show (20 : Int) ≤ 21 by decide);by_cases hm : m = []
    · subst hm;rw [List.append_nil];exact stmt_21a (fun x hx => (h1 x hx).1) h0 (by omega) _ _ _ _
    · exact stmt_21b (fun x hx => (h1 x hx).1) h2 h0 hm (by omega) (by omega) _ _ _ _
  localf := fun l b n a c h1 h2 h3 h4 => tree_stmt (hp_29 _ _ _ _ _ _ h4.2 rfl _) (stmt_29 h4.1 (fun y hy => (h1 y hy).1) h3.1 (fun y hy => (h1 y hy).2) h3.2 (by omega) _ _ _ _ _ _ _ _ _ _) (show (20 : Int) ≤ 29 by decide)
  func2 := fun l b n a c h1 h2 h3 h4 => by
    have hf : TI (nd 7 (l ++ [b]) c) := tree_expr (hp_7 _ _ _ _ h3.2 (fun y hy => (h1 y hy).2) (by omega) _) (expr_7 (fun y hy => (h1 y hy).1) h3.1 (by omega) _ _ _ _ _) (show (7 : Int) < 20 by decide);exact tree_stmt (hp_22 (m := [n]) (m2 := [nd 7 (l ++ [b]) c]) (by simp) (by simp) (by simp) (by simp) (by intro z hz; rw [lms.1 hz]; exact .inl h4.2) _ _ _ _) (stmt_22 (m := [n]) (m2 := [nd 7 (l ++ [b]) c]) (by intro z hz; rw [lms.1 hz]; exact h4.1) (by intro z hz; rw [lms.1 hz]; exact hf) (by simp) (by simp) (by simp) (by simp) _ _ _ _) (show (20 : Int) ≤ 22 by decide)
  assign := fun n l m a h1 h0 h2 h3 h4 => by
    have hl : (n :: l).length ≤ 50000 := by rw [List.length_cons]; omega
    have := tree_stmt (hp_22 (m := n :: l) (m2 := m) (by simp) h0 hl (by omega) (fun x hx => (h1 x hx).2) ⟨#[]⟩ 0 0 a) (stmt_22 (nt := ntT) (qt := qtT) (P := NumP) (m := n :: l) (m2 := m) (fun x hx => (h1 x hx).1) h2 (by simp) h0 hl (by omega) _ _ _ _) (show (20 : Int) ≤ 22 by decide);rw [List.length_cons, Int.natCast_add] at this;exact this
  callS := fun x a h1 h2 => tree_stmt (hp_23 _ _ _ _ _ h2 _) (stmt_23 h1 _ _ _ _ _) (show (20 : Int) ≤ 23 by decide)
  choice := fun l a h0 h1 m hm hn => by
    have hlen : (l.flatMap (fun x => [x.1, x.2]) ++ m).length ≤ 2 * l.length + 1 ∧ 2 * l.length ≤ (l.flatMap (fun x => [x.1, x.2]) ++ m).length := by
      rw [List.length_append, flat2_len];rcases hm with rfl | ⟨b, _, rfl⟩ <;> simp
    have hl1 : 1 ≤ l.length := List.length_pos_iff.2 h0;have hne : l.flatMap (fun x => [x.1, x.2]) ++ m ≠ [] := fun e => by rw [e] at hlen; simp at hlen; omega
    refine tree_stmt (hp_24 _ _ _ _ (ch_kinds m hm l h1 (.inr (.inr trivial))) (by omega) (by omega) _) (stmt_24 (fun x hx => ?_) hne _ _ _ _ _) (show (20 : Int) ≤ 24 by decide);rcases List.mem_append.1 hx with hx | hx
    · obtain ⟨y, hy, hx⟩ := List.mem_flatMap.1 hx;simp only [List.mem_cons, List.not_mem_nil, or_false] at hx;rcases hx with rfl | rfl
      · exact (h1 y hy).1
      · exact (h1 y hy).2.1
    · rcases hm with rfl | ⟨b, hb, rfl⟩
      · simp at hx
      · rw [lms.1 hx]; exact hb.1
  loop := fun x b a h1 h2 => tree_stmt (hp_25 _ _ _ _ _ _ h2.2 _) (stmt_25 h1 h2.1 _ _ _ _ _) (show (20 : Int) ≤ 25 by decide)
  count := fun n x y l b a h1 h2 h3 h4 h5 => by
    rcases h4 with rfl | ⟨z, hz, rfl⟩
    · exact tree_stmt (hp_26a _ _ _ _ _ _ _ _ h1.2 h5.2 _) (stmt_26 (m := [x, y]) h1.1 (by intro u hu; simp at hu; rcases hu with rfl | rfl <;> assumption) h5.1 (by simp) (by simp) _ _ _ _ _) (show (20 : Int) ≤ 26 by decide)
    · exact tree_stmt (hp_26b _ _ _ _ _ _ _ _ _ h1.2 h5.2 _) (stmt_26 (m := [x, y, z]) h1.1 (by intro u hu; simp at hu; rcases hu with rfl | rfl | rfl <;> assumption) h5.1 (by simp) (by simp) _ _ _ _ _) (show (20 : Int) ≤ 26 by decide)
  brk := fun a => tree_stmt (hp_28 _ _ _ _ _ _) (stmt_28 _ _ _ _ _ _) (show (20 : Int) ≤ 28 by decide)
  group := fun b a h => tree_stmt (hp_30 _ _ _ _ _ h.2 _) (stmt_30 h.1 _ _ _ _ _) (show (20 : Int) ≤ 30 by decide)
theorem join_bl : ∀ ts : List ByteArray, joinL ts = jT ts
  | [] => rfl
  | [t] => by simp [joinL, jT, bl]
  | t :: u :: r => by
    have := join_bl (u :: r);simp only [joinL, jT, List.map_cons, List.flatten_cons] at this ⊢;rw [← this];simp [bl]
theorem bl_join (ts : List ByteArray) : bl (joinB ts) = jT ts := by
  rw [← join_bl];unfold bl joinB;simp
theorem Print_src {s : ByteArray} {hs : s.size ≤ 8192} {L : List Tk} (hL : Lx s hs (skipB false (bl s)) none L) {x : Tr} (h : whole ⟨L, (s.size : Int)⟩ = .ok x) {w : World} (he : ErrIs w) (ht : Tab10 w) (hd : w.cell? ⟨7, 15, none⟩ = some (.int .u8 4)) {y : Tr} (hy : TI y) (hyx : prT ntT qtT y = prT ntT qtT x) {S : Nat → Prop} {cs : List Value} (hX : NodeIs S w y cs) :
    Calls Tryz.prog 11 #[.agg cs.toArray] w fun r w' => r = .returned (.string (joinB (prT ntT qtT x))) ∧ Kept No w w' := by
  have h1 := whole_len (nt := ntT) (qt := qtT) h;have h2 := whole_sum hL h w he;have h3 := hL.len
  have h4 : (prT ntT qtT x).length ≤ 40000 := by
    have : (⟨L, (s.size : Int)⟩ : Env).L.length = L.length := rfl;omega
  have := Print_lot hy hX (num_lot ht hd) (by rw [hyx]; omega) (by rw [hyx]; unfold sumZ; omega)
  rwa [hyx] at this
end Go.Proofs.YtmoiikpjegbokaaGreatDoor
