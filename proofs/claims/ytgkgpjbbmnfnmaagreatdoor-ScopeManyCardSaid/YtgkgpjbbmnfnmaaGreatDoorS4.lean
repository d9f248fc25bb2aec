/- Scope: the resolver's state, as data and in memory. -/
import Derived.Test.YtgkgpjbbmnfnmaaGreatDoorS3
namespace Go.Proofs.YtgkgpjbbmnfnmaaGreatDoor
open Go.RowKit
set_option linter.unusedSimpArgs false
set_option linter.unusedVariables false

/-- A use. -/
structure Us where
  a : Int
  t : ByteArray
  f : Int
  o : Int
  v : Int
  h : Bool
def usC (u : Us) : List Value := [.int .i64 u.a, .string u.t, .int .i64 u.f, .int .i64 u.o, .int .i64 u.v, .bool u.h]
def flU (l : List Us) : List Value := (l.map usC).flatten
theorem flU_app (l m : List Us) : flU (l ++ m) = flU l ++ flU m := by simp [flU]
structure St where
  stk : List Ent
  num : Int
  base : Int
  made : Int
  cnt : Int
  far : Int → Int → Int
  us : List Us
  at' : Int
  err : Int
abbrev PT (b : Nat) : Value := .pointer (some ⟨b, 0, none⟩)
def kf (g sb : Nat) : Value := .func (.func g) #[] #[PT sb]
def RCs (sb M : Nat) (u : Value) (s : St) : List Value := [kf 63 sb, kf 64 sb, kf 65 sb, kf 66 sb, .int .i64 s.num, .int .i64 s.base, .int .i64 s.made, .int .i64 s.cnt, .map (some M), u, .int .i64 s.at', .int .i64 s.err]
/-- A resolver at block r. -/
structure Rv (w : World) (r sb M nm B : Nat) (v u : Value) (s : St) : Prop where
  box : w.heap[r]? = some (.cells (RCs sb M u s).toArray 69 (0, 0))
  stk : Sk w B sb v s.stk
  row : w.ownsRow B 36 6 u s.us.length (flU s.us)
  map : MapF w M nm s.far
  lt : r < B
/-- The resolver's blocks. -/
def RZ (r sb M : Nat) (v u : Value) (b : Nat) : Prop := b = r ∨ b = sb ∨ b = M ∨ v.ownBlock = some b ∨ u.ownBlock = some b
/-- The resolver goes on. -/
structure PassR (r sb M : Nat) (v u : Value) (w : World) (v' u' : Value) (w' : World) : Prop where
  kept : Kept (RZ r sb M v u) w w'
  own : ∀ b, v'.ownBlock = some b ∨ u'.ownBlock = some b → RZ r sb M v u b ∨ w.heap.size ≤ b
theorem PassR.no {r sb M : Nat} {v u : Value} {w w' : World} (h : Kept No w w') : PassR r sb M v u w v u w' := ⟨h.no, fun b hb => .inl (hb.elim (fun e => .inr (.inr (.inr (.inl e)))) (fun e => .inr (.inr (.inr (.inr e)))))⟩
theorem PassR.sub {r sb M : Nat} {v u v' u' : Value} {w w' : World} (h : PassR r sb M v u w v' u' w') (b : Nat) (hb : RZ r sb M v' u' b) : RZ r sb M v u b ∨ w.heap.size ≤ b := by
  rcases hb with hb | hb | hb | hb | hb
  · exact .inl (.inl hb)
  · exact .inl (.inr (.inl hb))
  · exact .inl (.inr (.inr (.inl hb)))
  · exact h.own b (.inl hb)
  · exact h.own b (.inr hb)
theorem PassR.trans {r sb M : Nat} {v u v1 u1 v2 u2 : Value} {w w1 w2 : World} (h : PassR r sb M v u w v1 u1 w1) (k : PassR r sb M v1 u1 w1 v2 u2 w2) : PassR r sb M v u w v2 u2 w2 :=
  ⟨h.kept.trans' k.kept (fun i hi => h.sub i hi), fun b hb => (k.own b hb).elim (fun e => h.sub b e) (fun e => .inr (Nat.le_trans h.kept.size e))⟩
theorem row_no {w w' : World} {B e sz n : Nat} {v : Value} {xs : List Value} (h : w.ownsRow B e sz v n xs) (hk : Kept No w w') : w'.ownsRow B e sz v n xs := by
  obtain ⟨o1, o2 | ⟨g, cap, cur, o3, o4, o5, o6⟩⟩ := h
  · exact ⟨o1, .inl o2⟩
  · exact ⟨o1, .inr ⟨g, cap, cur, o3, o4, hk.heap o5 id, o6⟩⟩
theorem Rv.no {w w' : World} {r sb M nm B : Nat} {v u : Value} {s : St} (h : Rv w r sb M nm B v u s) (hk : Kept No w w') : Rv w' r sb M nm B v u s :=
  ⟨hk.heap h.box id, h.stk.no hk, row_no h.row hk, h.map.kept hk id, h.lt⟩
/-- Unlike types, unlike places. -/
theorem apart {w : World} {a b : Nat} {x y : Array Value} {s t : TypeId} {f g : Nat × Nat} (h1 : w.heap[a]? = some (.cells x s f)) (h2 : w.heap[b]? = some (.cells y t g)) (hn : s ≠ t) : a ≠ b := by
  intro e
  rw [e, h2] at h1
  injection h1 with h1
  injection h1 with _ h1
  exact hn h1.symm
theorem apart_map {w : World} {a b : Nat} {x : Array Value} {s : TypeId} {f : Nat × Nat} {es : Array MapEntry} {c : Nat} (h1 : w.heap[a]? = some (.cells x s f)) (h2 : w.heap[b]? = some (.map es c)) : a ≠ b := by
  intro e
  rw [e, h2] at h1
  injection h1 with h1
  cases h1
theorem row_blk {w : World} {B e sz n : Nat} {v : Value} {xs : List Value} (h : w.ownsRow B e sz v n xs) {b : Nat} (hb : v.ownBlock = some b) : ∃ c, w.heap[b]? = some (.cells c e (0, 0)) := by
  obtain ⟨o1, ⟨o2, _⟩ | ⟨g, cap, cur, o3, o4, o5, o6⟩⟩ := h
  · rw [o2] at hb; cases hb
  · rw [o3] at hb
    simp only [Value.ownBlock, Option.some.injEq] at hb
    subst hb
    exact ⟨cur, o5⟩
theorem RC_cells {w : World} {r sb M : Nat} {u : Value} {s : St} (h : w.heap[r]? = some (.cells (RCs sb M u s).toArray 69 (0, 0))) :
    w.cell? ⟨r, 0, none⟩ = some (kf 63 sb) ∧ w.cell? ⟨r, 1, none⟩ = some (kf 64 sb) ∧ w.cell? ⟨r, 2, none⟩ = some (kf 65 sb) ∧ w.cell? ⟨r, 3, none⟩ = some (kf 66 sb) ∧ w.cell? ⟨r, 4, none⟩ = some (.int .i64 s.num) ∧ w.cell? ⟨r, 5, none⟩ = some (.int .i64 s.base) ∧ w.cell? ⟨r, 6, none⟩ = some (.int .i64 s.made) ∧ w.cell? ⟨r, 7, none⟩ = some (.int .i64 s.cnt) ∧ w.cell? ⟨r, 8, none⟩ = some (.map (some M)) ∧ w.cell? ⟨r, 9, none⟩ = some u ∧ w.cell? ⟨r, 10, none⟩ = some (.int .i64 s.at') ∧ w.cell? ⟨r, 11, none⟩ = some (.int .i64 s.err) :=
  ⟨by rw [cell_of h]; rfl, by rw [cell_of h]; rfl, by rw [cell_of h]; rfl, by rw [cell_of h]; rfl, by rw [cell_of h]; rfl, by rw [cell_of h]; rfl, by rw [cell_of h]; rfl, by rw [cell_of h]; rfl, by rw [cell_of h]; rfl, by rw [cell_of h]; rfl, by rw [cell_of h]; rfl, by rw [cell_of h]; rfl⟩
theorem info36 : (Tryz.prog.info? 36).map (fun i => (i.zero, i.size, i.bytes)) = some (some (.agg #[.int .i64 0, .string ⟨#[]⟩, .int .i64 0, .int .i64 0, .int .i64 0, .bool false]), 6, 56) := by kernel_rfl
theorem usC_one (u : Us) : ∀ x ∈ usC u, x.oneCell' = true := by
  intro x hx
  simp only [usC, List.mem_cons, List.not_mem_nil, or_false] at hx
  rcases hx with rfl | rfl | rfl | rfl | rfl | rfl <;> rfl
/-- A use is put behind the others. -/
theorem app_u {o : Oper} {a : Act} {K : Act → World → Prop} {Q : Exit → Act → World → Prop} {w : World} (s x : Operand)
    (ho : o.op = .call { callee := .builtin .append, args := #[s, x], argTypes := #[22, 22] }) {B : Nat} {v : Value} {L : List Us} (hs : a.eval s = v) (hrow : w.ownsRow B 36 6 v L.length (flU L))
    (N : Nat) (e : Us) (hx : a.eval x = .slice (some ⟨N, 0, none⟩) 1 1) (hN : w.heap[N]? = some (.cells (usC e).toArray 36 (0, 0))) (hlen : L.length + 1 ≤ 2000000) (hbase : B ≤ w.heap.size)
    (h : ∀ v' w', Hid (w'.ownsRow B 36 6 v' (L ++ [e]).length (flU (L ++ [e]))) → Hid (w.grownBy w' v.ownBlock) → Hid (v'.ownBlock = v.ownBlock ∨ v'.ownBlock = some w.heap.size) → (∃ ao n cap, v' = .slice ao n cap) → K (a.put o.dst v') w') : o.wp Tryz.prog a w K Q := by
  obtain ⟨i0, hi, hz0, hz1, hz2⟩ := info_parts info36
  obtain ⟨v', w', hr, h2, h3, _, h5⟩ := run_append_own_at (P := Tryz.prog) w B 22 o.type 36 i0 _ 6 56 Tryz.underlying22 hi hz0 hz1 hz2 rfl (by decide) v L.length (flU L) hrow ⟨N, 0, none⟩ 1 1 (usC e) rfl (World.news_of_block hN) (usC_one e) (by unfold maxLen; omega) (by omega) hbase
  unfold Oper.wp execOp
  simp only [ho, resolve, invoke, builtin, Sem.run_bind, Sem.run_pure, Result.andThen_ok, List.map_toArray, List.map_cons, List.map_nil, hs, hx, hr]
  have h6 : w'.ownsRow B 36 6 v' (L ++ [e]).length (flU (L ++ [e])) := by
    rw [List.length_append, flU_app, show flU [e] = usC e by simp [flU]]; exact h2
  refine h v' w' h6 h3 h5 ?_
  obtain ⟨_, ⟨q, _⟩ | ⟨g, cap, cur, q, _⟩⟩ := h6
  · exact ⟨_, _, _, q⟩
  · exact ⟨_, _, _, q⟩
end Go.Proofs.YtgkgpjbbmnfnmaaGreatDoor
