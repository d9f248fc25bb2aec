import Derived.Test.YtmoiikpjegbokaaGreatDoorPH
set_option linter.unusedSimpArgs false
set_option linter.unusedVariables false
/- What is printed of a source's tree are tokens. -/
namespace Go.Proofs.YtmoiikpjegbokaaGreatDoor
set_option linter.unusedSectionVars false
def TkS (t : ByteArray) : Prop := t.size ≤ 40000 ∧ (t.size ≤ 8192 → Tok t)
def TL (l : List ByteArray) : Prop := ∀ t ∈ l, TkS t
theorem TL.nil : TL [] := fun t h => by simp at h
theorem TL.app {a b : List ByteArray} (h1 : TL a) (h2 : TL b) : TL (a ++ b) := fun t h => by
  rcases List.mem_append.1 h with h | h
  · exact h1 t h
  · exact h2 t h
theorem TL.cons {t : ByteArray} {b : List ByteArray} (h1 : TkS t) (h2 : TL b) : TL (t :: b) := fun u h => by
  rcases List.mem_cons.1 h with rfl | h
  · exact h1
  · exact h2 u h
theorem TkS.of {X : Tk} (h : Cutd X) : TkS X.t := ⟨by have := h.size.2; omega, fun _ => ⟨X, h, rfl⟩⟩
theorem TkS.fix {t : ByteArray} (h : t.data.toList ∈ fixL) : TkS t := ⟨by
  have h1 := (fix_facts _ h).1;change (bl t).length ≤ 8 at h1;rw [bl_len] at h1;omega, fun _ => (tok_fix h).1⟩
theorem qM_len (t : ByteArray) : (qM t).length ≤ 4 * t.size := by
  unfold qM;rw [List.length_map]
  have h : ∀ l : List Nat, (Tq.qin l).length ≤ 4 * l.length := fun l => by
    induction l with
    | nil => exact Nat.le_refl _
    | cons a l ih =>
      have e : Tq.qin (a :: l) = Tq.qb a ++ Tq.qin l := by simp [Tq.qin]
      have := (Tq.qb_len a).2;rw [e, List.length_append, List.length_cons]; omega
  have := h (Tq.bl t);rw [Tq.bl_len] at this;exact this
theorem TkS.quote {t : ByteArray} (h : t.size ≤ 8192) : TkS (qtT t) := ⟨by
  have := qM_len t;rw [qt_size]; omega, fun hz => ⟨_, qt_tok t hz, rfl⟩⟩
theorem TL.fl {l : List (List ByteArray)} (h : ∀ p ∈ l, TL p) : TL l.flatten := fun t ht => by
  obtain ⟨p, hp, ht⟩ := List.mem_flatten.1 ht;exact h p hp t ht
theorem TL.comma {l : List (List ByteArray)} (h : ∀ p ∈ l, TL p) : TL (commaP l) := by
  cases l with
  | nil => exact .nil
  | cons x r =>
    refine .app (h x (by simp)) (.fl fun p hp => ?_);obtain ⟨q, hq, rfl⟩ := List.mem_map.1 hp;exact .cons (.fix (by decide)) (h q (by simp [hq]))
theorem TL.get {l : List (List ByteArray)} (h : ∀ p ∈ l, TL p) (i : Nat) : TL (l.getD i []) := by
  rw [List.getD_eq_getElem?_getD];cases e : l[i]? with
  | none => exact .nil
  | some p => exact h p (List.mem_of_getElem? e)
theorem TL.last {l : List (List ByteArray)} (h : ∀ p ∈ l, TL p) : TL (l.getLastD []) := by
  cases l with
  | nil => exact .nil
  | cons x r =>
    rw [List.getLastD_cons];exact h _ List.getLastD_mem_cons
theorem TL.body {l : List (List ByteArray)} (h : ∀ p ∈ l, TL p) : TL (bodyP l) := by
  unfold bodyP;exact .app (.app (.app (.app (.cons (.fix (by decide)) .nil) (.comma fun p hp => h p ((List.dropLast_sublist _).subset hp))) (.cons (.fix (by decide)) .nil)) (.last h)) (.cons (.fix (by decide)) .nil)
theorem TL.head {k : Int} {p : List ByteArray} (h : TL p) : TL (headP k p) := by
  unfold headP;split
  · exact h
  · exact .app (.app (.cons (.fix (by decide)) .nil) h) (.cons (.fix (by decide)) .nil)
theorem TL.key {p : List ByteArray} (h : TL p) : TL (keyP p) := .app (.app (.cons (.fix (by decide)) .nil) h) (.cons (.fix (by decide)) .nil)
theorem TL.dos {p : List ByteArray} (h : TL p) : TL (doP p) := .app (.app (.cons (.fix (by decide)) .nil) h) (.cons (.fix (by decide)) .nil)
theorem TL.ch : ∀ (l : List (List ByteArray)) {wd : ByteArray}, TkS wd → (∀ p ∈ l, TL p) → TL (chP wd l)
  | [], _, _, _ => .cons (.fix (by decide)) .nil
  | [b], _, _, h => .app (.app (.cons (.fix (by decide)) .nil) (h b (by simp))) (.cons (.fix (by decide)) .nil)
  | x :: b :: r, _, hw, h => .app (.app (.app (.app (.cons hw .nil) (h x (by simp))) (.cons (.fix (by decide)) .nil)) (h b (by simp))) (TL.ch r (.fix (by decide)) (fun p hp => h p (by simp [hp])))
theorem prN_T {k : Int} {t : ByteArray} {vt vn c : Int} {ks : List Int} {ps : List (List ByteArray)} (h4 : k = 4 → TkS (ntT vt vn)) (h5 : k = 5 → TkS (qtT t)) (ht : k = 6 ∨ k = 8 ∨ k = 9 → TkS t) (hp : ∀ p ∈ ps, TL p) : TL (prN ntT qtT k t vt vn c ks ps) := by
  have f1 : ∀ {u : ByteArray}, u.data.toList ∈ fixL → TL [u] := fun h => .cons (.fix h) .nil
  have hdr : ∀ i, ∀ p ∈ ps.drop i, TL p := fun i p h => hp p (List.mem_of_mem_drop h)
  have htk : ∀ i, ∀ p ∈ ps.take i, TL p := fun i p h => hp p (List.mem_of_mem_take h)
  unfold prN;by_cases e : k = 1
  · rw [if_pos e]; exact f1 (by decide)
  rw [if_neg e]; clear e;by_cases e : k = 2
  · rw [if_pos e]; exact f1 (by decide)
  rw [if_neg e]; clear e;by_cases e : k = 3
  · rw [if_pos e]; exact f1 (by decide)
  rw [if_neg e]; clear e;by_cases e : k = 4
  · rw [if_pos e]; exact .cons (h4 e) .nil
  rw [if_neg e]; clear e;by_cases e : k = 5
  · rw [if_pos e]; exact .cons (h5 e) .nil
  rw [if_neg e]; clear e;by_cases e : k = 6
  · rw [if_pos e]; exact .cons (ht (.inl e)) .nil
  rw [if_neg e]; clear e;by_cases e : k = 7
  · rw [if_pos e]; exact .app (f1 (by decide)) (.body hp)
  rw [if_neg e]; clear e;by_cases e : k = 8
  · rw [if_pos e]; exact .app (.app (.app (.app (f1 (by decide)) (.get hp 0)) (.cons (ht (.inr (.inl e))) .nil)) (.get hp 1)) (f1 (by decide))
  rw [if_neg e]; clear e;by_cases e : k = 9
  · rw [if_pos e]; exact .app (.app (.cons (.fix (by decide)) (.cons (ht (.inr (.inr e))) .nil)) (.get hp 0)) (f1 (by decide))
  rw [if_neg e]; clear e;by_cases e : k = 10
  · rw [if_pos e]; exact .app (.head (.get hp 0)) (.key (.get hp 1))
  rw [if_neg e]; clear e;by_cases e : k = 11
  · rw [if_pos e]; exact .app (.app (.app (.head (.get hp 0)) (f1 (by decide))) (.comma (hdr 1))) (f1 (by decide))
  rw [if_neg e]; clear e;by_cases e : k = 12
  · rw [if_pos e]; exact .app (.app (f1 (by decide)) (.comma hp)) (f1 (by decide))
  rw [if_neg e]; clear e;by_cases e : k = 13
  · rw [if_pos e]; exact .get hp 0
  rw [if_neg e]; clear e;by_cases e : k = 14
  · rw [if_pos e]; exact .app (.app (.key (.get hp 0)) (f1 (by decide))) (.get hp 1)
  rw [if_neg e]; clear e;by_cases e : k = 20
  · rw [if_pos e];refine .fl fun p h => ?_
    obtain ⟨q, hq, rfl⟩ := List.mem_map.1 h;exact .app (hp q hq) (f1 (by decide))
  rw [if_neg e]; clear e;by_cases e : k = 21
  · rw [if_pos e];refine .app (.app (f1 (by decide)) (.comma (htk _))) ?_;split
    · exact .app (f1 (by decide)) (.comma (hdr _))
    · exact .nil
  rw [if_neg e]; clear e;by_cases e : k = 22
  · rw [if_pos e]; exact .app (.app (.comma (htk _)) (f1 (by decide))) (.comma (hdr _))
  rw [if_neg e]; clear e;by_cases e : k = 23
  · rw [if_pos e]; exact .get hp 0
  rw [if_neg e]; clear e;by_cases e : k = 24
  · rw [if_pos e]; exact .ch _ (.fix (by decide)) hp
  rw [if_neg e]; clear e;by_cases e : k = 25
  · rw [if_pos e]; exact .app (.app (f1 (by decide)) (.get hp 0)) (.dos (.get hp 1))
  rw [if_neg e]; clear e;by_cases e : k = 26
  · rw [if_pos e]; exact .app (.app (.app (.app (f1 (by decide)) (.get hp 0)) (f1 (by decide))) (.comma fun p h => hdr 1 p ((List.dropLast_sublist _).subset h))) (.dos (.last hp))
  rw [if_neg e]; clear e;by_cases e : k = 27
  · rw [if_pos e]; exact .app (f1 (by decide)) (.comma hp)
  rw [if_neg e]; clear e;by_cases e : k = 28
  · rw [if_pos e]; exact f1 (by decide)
  rw [if_neg e]; clear e;by_cases e : k = 29
  · rw [if_pos e]; exact .app (.app (.cons (.fix (by decide)) (f1 (by decide))) (.get hp 0)) (fun t h => TL.get hp 1 t (List.mem_of_mem_drop h))
  rw [if_neg e]; clear e;by_cases e : k = 30
  · rw [if_pos e]; exact .dos (.get hp 0)
  rw [if_neg e]; exact .nil
def TP (x : Tr) : Prop := TL (prT ntT qtT x)
theorem TP.mk {k : Int} {t : ByteArray} {vt vn c a : Int} {l : List Tr} (h4 : k = 4 → TkS (ntT vt vn)) (h5 : k = 5 → TkS (qtT t)) (ht : k = 6 ∨ k = 8 ∨ k = 9 → TkS t) (hl : ∀ x ∈ l, TP x) : TP (.mk k t vt vn c l a) := by
  unfold TP;rw [prT];refine prN_T h4 h5 ht fun p hp => ?_
  rw [prTs_map] at hp;obtain ⟨x, hx, rfl⟩ := List.mem_map.1 hp;exact hl x hx
theorem TP.nd {k : Int} {a : Int} {l : List Tr} (hk : k ≠ 4 ∧ k ≠ 5 ∧ k ≠ 6 ∧ k ≠ 8 ∧ k ≠ 9) (hl : ∀ x ∈ l, TP x) : TP (nd k l a) := .mk (fun e => absurd e hk.1) (fun e => absurd e hk.2.1) (fun e => by omega) hl
theorem tp_app {l m : List Tr} (h1 : ∀ x ∈ l, TP x) (h2 : ∀ x ∈ m, TP x) : ∀ x ∈ l ++ m, TP x := fun x h => by
  rcases List.mem_append.1 h with h | h
  · exact h1 x h
  · exact h2 x h
theorem tp_cons {y : Tr} {m : List Tr} (h1 : TP y) (h2 : ∀ x ∈ m, TP x) : ∀ x ∈ y :: m, TP x := fun x h => by
  rcases List.mem_cons.1 h with rfl | h
  · exact h1
  · exact h2 x h
theorem tp_nil : ∀ x ∈ ([] : List Tr), TP x := fun x h => by simp at h
theorem tp_clo {V : Env} (hV : ∀ X ∈ V.L, Cutd X) (w : World) (he : ErrIs w) : Clo V TP TP TP TP TP where
  name := fun X hX hk a => .mk (fun e => absurd e (by decide)) (fun e => absurd e (by decide)) (fun _ => .of (hV X hX)) tp_nil
  ofN := fun x h => h
  key := fun X hX hk a => .mk (fun e => absurd e (by decide)) (fun _ => .quote (hV X hX).size.2) (fun e => absurd e (by decide)) tp_nil
  num := fun X hX hk a => .mk (fun _ => .of (nt_tok ((cutd_kind (hV X hX) w he).2 hk) w he)) (fun e => absurd e (by decide)) (fun e => absurd e (by decide)) tp_nil
  text := fun X hX hk a => .mk (fun e => absurd e (by decide)) (fun _ => .quote (cutd_kind (hV X hX) w he).1) (fun e => absurd e (by decide)) tp_nil
  word := fun k a hk => .nd (by omega) tp_nil
  func := fun l b a h1 _ h3 => .nd (by decide) (tp_app h1 (tp_cons h3 tp_nil))
  un := fun t x a h1 h2 => .mk (fun e => absurd e (by decide)) (fun e => absurd e (by decide)) (fun _ => .fix (un_fix _ h1)) (tp_cons h2 tp_nil)
  bin := fun t x y a h1 h2 h3 => .mk (fun e => absurd e (by decide)) (fun e => absurd e (by decide)) (fun _ => .fix (bin_fix h1).1) (tp_cons h2 (tp_cons h3 tp_nil))
  index := fun x y a h1 h2 => .nd (by decide) (tp_cons h1 (tp_cons h2 tp_nil))
  call := fun x l a h1 h2 _ => .nd (by decide) (tp_cons h1 h2)
  table := fun l a h1 _ => .nd (by decide) h1
  item := fun x a h => .nd (by decide) (tp_cons h tp_nil)
  pair := fun x y a h1 h2 => .nd (by decide) (tp_cons h1 (tp_cons h2 tp_nil))
  block := fun l a h1 h2 _ => .nd (by decide) h1
  ret := fun l a h1 _ => .nd (by decide) h1
  locals := fun l m a h0 h1 h2 _ _ => .mk (fun e => absurd e (by decide)) (fun e => absurd e (by decide)) (fun e => absurd e (by decide)) (tp_app h1 h2)
  localf := fun l b n a c h1 _ h3 h4 => .nd (by decide) (tp_cons h4 (tp_cons (.nd (by decide) (tp_app h1 (tp_cons h3 tp_nil))) tp_nil))
  func2 := fun l b n a c h1 _ h3 h4 => .mk (fun e => absurd e (by decide)) (fun e => absurd e (by decide)) (fun e => absurd e (by decide)) (tp_cons h4 (tp_cons (.nd (by decide) (tp_app h1 (tp_cons h3 tp_nil))) tp_nil))
  assign := fun n l m a h1 h0 h2 _ _ => .mk (fun e => absurd e (by decide)) (fun e => absurd e (by decide)) (fun e => absurd e (by decide)) (tp_cons (h1 n (by simp)).1 (tp_app (fun x hx => (h1 x (by simp [hx])).1) h2))
  callS := fun x a h1 h2 => .nd (by decide) (tp_cons h1 tp_nil)
  choice := fun l a h0 h1 m hm _ => .nd (by decide) (tp_app (fun x hx => by
    obtain ⟨y, hy, hx⟩ := List.mem_flatMap.1 hx;simp only [List.mem_cons, List.not_mem_nil, or_false] at hx;rcases hx with rfl | rfl
    · exact (h1 y hy).1
    · exact (h1 y hy).2) (by
    rcases hm with rfl | ⟨b, hb, rfl⟩
    · exact tp_nil
    · exact tp_cons hb tp_nil))
  loop := fun x b a h1 h2 => .nd (by decide) (tp_cons h1 (tp_cons h2 tp_nil))
  count := fun n x y l b a h1 h2 h3 h4 h5 => .nd (by decide) (tp_cons h1 (tp_cons h2 (tp_cons h3 (tp_app (by
    rcases h4 with rfl | ⟨z, hz, rfl⟩
    · exact tp_nil
    · exact tp_cons hz tp_nil) (tp_cons h5 tp_nil)))))
  brk := fun a => .nd (by decide) tp_nil
  group := fun b a h => .nd (by decide) (tp_cons h tp_nil)
end Go.Proofs.YtmoiikpjegbokaaGreatDoor
