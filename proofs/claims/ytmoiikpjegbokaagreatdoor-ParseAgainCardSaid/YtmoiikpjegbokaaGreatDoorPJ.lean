import Derived.Test.YtmoiikpjegbokaaGreatDoorPI
set_option linter.unusedSimpArgs false
set_option linter.unusedVariables false
/- A source's tree, printed and parsed again. -/
namespace Go.Proofs.YtmoiikpjegbokaaGreatDoor
def jT : List ByteArray → List UInt8
  | [] => []
  | [t] => bl t
  | t :: u :: r => bl t ++ (32 :: jT (u :: r))
theorem Gl.joinT : ∀ L : List Tk, (∀ X ∈ L, Cutd X) → Gl L (jT (L.map Tk.t))
  | [], _ => .nil
  | [X], h => by
    have := Gl.cons X [] [] [] (h X (by simp)) (.inl rfl) rfl .nil
    rwa [show bl X.t ++ ([] ++ []) = jT ([X].map Tk.t) by simp [jT]] at this
  | X :: Y :: L, h => by
    have h2 := Gl.joinT (Y :: L) (fun Z hZ => h Z (List.mem_cons_of_mem _ hZ))
    exact Gl.cons X (Y :: L) [32] _ (h X (by simp)) (.inr ⟨32, _, rfl, by decide⟩) (by
      show skipB false (32 :: jT ((Y :: L).map Tk.t)) = 1;unfold skipB;rw [if_pos (by decide), h2.skip]) h2
theorem again_lxT {L : List Tk} (h : ∀ X ∈ L, Cutd X) (s : ByteArray) (hs : s.size ≤ 8192) (hb : bl s = jT (L.map Tk.t)) : ∃ L', Lx s hs (skipB false (bl s)) none L' ∧ L'.map np = L.map np := by
  have hg := Gl.joinT L h;have h0 : skipB false (bl s) = 0 := by rw [hb]; exact hg.skip
  rw [h0];exact hg.lx s hs 0 (by rw [List.drop_zero, hb]) (by omega)
theorem jT_size : ∀ (ts : List ByteArray), ∀ t ∈ ts, t.size ≤ (jT ts).length
  | [], t, h => by simp at h
  | [u], t, h => by
    rw [List.mem_singleton.1 h];show u.size ≤ (bl u).length;rw [bl_len]; exact Nat.le_refl _
  | u :: v :: r, t, h => by
    show t.size ≤ (bl u ++ (32 :: jT (v :: r))).length;rw [List.length_append, List.length_cons, bl_len];rcases List.mem_cons.1 h with rfl | h
    · omega
    · have := jT_size (v :: r) t h; omega
theorem toks_of : ∀ (ts : List ByteArray), (∀ t ∈ ts, Tok t) → ∃ L : List Tk, (∀ X ∈ L, Cutd X) ∧ L.map Tk.t = ts
  | [], _ => ⟨[], fun X h => by simp at h, rfl⟩
  | t :: r, h => by
    obtain ⟨X, h1, h2⟩ := h t (by simp);obtain ⟨L, h3, h4⟩ := toks_of r (fun u hu => h u (by simp [hu]));refine ⟨X :: L, fun Y hY => ?_, by rw [List.map_cons, h2, h4]⟩;rcases List.mem_cons.1 hY with rfl | hY
    · exact h1
    · exact h3 Y hY
theorem np_t (L : List Tk) : L.map Tk.t = (L.map np).map Tk.t := by rw [List.map_map]; rfl
theorem Lx.cut0 {s : ByteArray} {hs : s.size ≤ 8192} {e : Option (Nat × Int)} {L : List Tk} (h : Lx s hs (skipB false (bl s)) e L) : ∀ X ∈ L, Cutd X := h.cutd (skipB_twice _ _)
theorem whole_sum {s : ByteArray} {hs : s.size ≤ 8192} {L : List Tk} (hL : Lx s hs (skipB false (bl s)) none L) {x : Tr} (h : whole ⟨L, (s.size : Int)⟩ = .ok x) (w : Go.World) (he : ErrIs w) : ((prT ntT qtT x).map ByteArray.size).sum ≤ 40000 * (prT ntT qtT x).length := by
  have hT : TL (prT ntT qtT x) := whole_c (tp_clo (V := ⟨L, (s.size : Int)⟩) hL.cut0 w he) h;generalize prT ntT qtT x = ts at hT;induction ts with
  | nil => exact Nat.zero_le _
  | cons t r ih =>
    have h1 := (hT t (by simp)).1;have h2 := ih (fun u hu => hT u (by simp [hu]));rw [List.map_cons, List.sum_cons, List.length_cons]; omega
theorem again_src {s p : ByteArray} {hs : s.size ≤ 8192} {L : List Tk} (hL : Lx s hs (skipB false (bl s)) none L) {x : Tr} (h : whole ⟨L, (s.size : Int)⟩ = .ok x) (w : Go.World) (he : ErrIs w) (hp : p.size ≤ 8192) (hb : bl p = jT (prT ntT qtT x)) :
    ∃ L', Lx p hp (skipB false (bl p)) none L' ∧ ((∃ x', whole ⟨L', (p.size : Int)⟩ = .ok x' ∧ tz x' = tz x) ∨ ∃ a, whole ⟨L', (p.size : Int)⟩ = .error (a, 14)) := by
  have hc := hL.cut0;have hT : TL (prT ntT qtT x) := whole_c (tp_clo (V := ⟨L, (s.size : Int)⟩) hc w he) h
  obtain ⟨M, m1, m2⟩ := toks_of (prT ntT qtT x) (fun t ht => (hT t ht).2 (by
    have := jT_size _ t ht;rw [← hb, bl_len] at this;omega))
  obtain ⟨L', l1, l2⟩ := again_lxT m1 p hp (by rw [hb, m2]);refine ⟨L', l1, ?_⟩;have ht : L'.map Tk.t = prT ntT qtT x := by rw [np_t, l2, ← np_t, m2]
  exact again_whole (kd_ok w he) (V := ⟨L, (s.size : Int)⟩) (V' := ⟨L', (p.size : Int)⟩) (con_of hc) (con_of l1.cut0) (fun X hX => ⟨(hc X hX).size.2, (cutd_kind (hc X hX) w he).1⟩) (fun X hX => (cutd_kind (hc X hX) w he).2) h ht
end Go.Proofs.YtmoiikpjegbokaaGreatDoor
