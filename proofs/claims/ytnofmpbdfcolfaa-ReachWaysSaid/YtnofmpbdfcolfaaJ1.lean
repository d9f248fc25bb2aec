/- How far an object is away: what is marked is what is needed, where no table is weak. -/
import Derived.Test.YtnofmpbdfcolfaaH1
namespace Go.Proofs.Ytnofmpbdfcolfaa
open Go.RowKit Go.Shelf
set_option linter.unusedSimpArgs false
set_option linter.unusedVariables false

/-- A graph without weak tables. -/
def unw (T : List Th) : List Th := T.map fun t => { t with weak := 0 }
/-- A mark. -/
def mkF (T : List Th) (d : Int) (F : List Int) (v : V) : List Int := if obj T v = true ∧ F.getD (ix v) 0 = 0 then F.set (ix v) d else F
def far1 (T : List Th) (R : List V) : List Int := R.foldl (mkF T 1) (List.replicate T.length 0)
def rowH (T : List Th) (d : Int) (F : List Int) (h : Nat) : List Int := if F.getD h 0 = d then (thAt T h).sl.foldl (mkF T (d + 1)) F else F
def rowD (T : List Th) (F : List Int) (d : Nat) : List Int := (List.range T.length).foldl (rowH T ((d : Int) + 1)) F
def farD (T : List Th) (R : List V) (m : Nat) : List Int := (List.range m).foldl (rowD T) (far1 T R)

theorem fold_rel {α β : Type} {Rl : β → β → Prop} (hr : ∀ s, Rl s s) (ht : ∀ a b c, Rl a b → Rl b c → Rl a c) {f : β → α → β} (s0 : β) (L : List α)
    (hf : ∀ s a, a ∈ L → Rl s0 s → Rl s (f s a)) : ∀ s, Rl s0 s → Rl s (L.foldl f s) := by
  induction L with
  | nil => exact fun s _ => hr s
  | cons a L ih =>
    intro s hs
    have h1 := hf s a (by simp) hs
    exact ht _ _ _ h1 (ih (fun s b hb => hf s b (List.mem_cons_of_mem _ hb)) _ (ht _ _ _ hs h1))
theorem fold_one {α β : Type} {Rl : β → β → Prop} (hr : ∀ s, Rl s s) (ht : ∀ a b c, Rl a b → Rl b c → Rl a c) {f : β → α → β} (s0 : β) (L : List α)
    (hf : ∀ s a, a ∈ L → Rl s0 s → Rl s (f s a)) {a : α} (ha : a ∈ L) : ∀ s, Rl s0 s → ∃ s1, Rl s0 s1 ∧ Rl (f s1 a) (L.foldl f s) := by
  induction L with
  | nil => cases ha
  | cons b L ih =>
    intro s hs
    have h1 := hf s b (by simp) hs
    have hf' : ∀ s c, c ∈ L → Rl s0 s → Rl s (f s c) := fun s c hc => hf s c (List.mem_cons_of_mem _ hc)
    rcases List.mem_cons.1 ha with rfl | h
    · exact ⟨s, hs, fold_rel hr ht s0 L hf' _ (ht _ _ _ hs h1)⟩
    · exact ih hf' h _ (ht _ _ _ hs h1)

/-- Marks of one distance have been added, where P allows. -/
structure Gr (P : Nat → Prop) (d : Int) (F F' : List Int) : Prop where
  len : F'.length = F.length
  old : ∀ h, F.getD h 0 ≠ 0 → F'.getD h 0 = F.getD h 0
  new : ∀ h, F.getD h 0 = 0 → F'.getD h 0 = 0 ∨ (F'.getD h 0 = d ∧ P h)
theorem Gr.refl (P : Nat → Prop) (d : Int) (F : List Int) : Gr P d F F := ⟨rfl, fun _ _ => rfl, fun _ h => .inl h⟩
theorem Gr.trans {P : Nat → Prop} {d : Int} (a b c : List Int) (h : Gr P d a b) (k : Gr P d b c) : Gr P d a c :=
  ⟨k.len.trans h.len, fun i hi => by rw [k.old i (by rw [h.old i hi]; exact hi), h.old i hi], fun i hi => by
    rcases h.new i hi with h1 | ⟨h1, h2⟩
    · exact k.new i h1
    · by_cases hd : d = 0
      · exact k.new i (by rw [h1, hd])
      · exact .inr ⟨by rw [k.old i (by rw [h1]; exact hd), h1], h2⟩⟩
theorem getD_setI (l : List Int) (i j : Nat) (x : Int) (hi : i < l.length) : (l.set i x).getD j 0 = if i = j then x else l.getD j 0 := getD_set l i j x 0 hi
theorem mkF_gr {P : Nat → Prop} {T : List Th} {d : Int} {F : List Int} {v : V} (hF : F.length = T.length) (hP : obj T v = true → P (ix v)) : Gr P d F (mkF T d F v) := by
  unfold mkF
  split
  · rename_i h
    have hi := (obj_ix h.1).1
    refine ⟨by simp, fun i hi' => ?_, fun i hi' => ?_⟩
    · rw [getD_setI _ _ _ _ (by omega)]
      split
      · rename_i e; subst e; exact (hi' h.2).elim
      · rfl
    · rw [getD_setI _ _ _ _ (by omega)]
      split
      · rename_i e; subst e; exact .inr ⟨rfl, hP h.1⟩
      · exact .inl hi'
  · exact Gr.refl _ _ _
theorem mkF_on {T : List Th} {d : Int} {F : List Int} {v : V} (hF : F.length = T.length) (hd : d ≠ 0) (hv : obj T v = true) : (mkF T d F v).getD (ix v) 0 ≠ 0 := by
  unfold mkF
  split
  · rw [getD_setI _ _ _ _ (by have := (obj_ix hv).1; omega), if_pos rfl]; exact hd
  · rename_i h
    exact fun e => h ⟨hv, e⟩
theorem marks_gr {P : Nat → Prop} {T : List Th} {d : Int} {L : List V} {F : List Int} (hF : F.length = T.length) (hP : ∀ v ∈ L, obj T v = true → P (ix v)) : Gr P d F (L.foldl (mkF T d) F) :=
  fold_rel (Rl := Gr P d) (Gr.refl P d) Gr.trans F L (fun s a ha hs => mkF_gr (hs.len.trans hF) (hP a ha)) F (Gr.refl _ _ _)
theorem marks_on {T : List Th} {d : Int} {L : List V} {F : List Int} (hF : F.length = T.length) (hd : d ≠ 0) {v : V} (hv : v ∈ L) (ho : obj T v = true) : (L.foldl (mkF T d) F).getD (ix v) 0 ≠ 0 := by
  obtain ⟨s1, h1, h2⟩ := fold_one (Rl := Gr (fun _ => True) d) (Gr.refl _ d) Gr.trans (f := mkF T d) F L (fun s a ha hs => mkF_gr (hs.len.trans hF) (fun _ => trivial)) hv F (Gr.refl _ _ _)
  have := mkF_on (h1.len.trans hF) hd ho
  rw [h2.old _ this]; exact this

/-- Distances up to d are known, and what leads on from those below d. -/
structure Far (T : List Th) (R : List V) (d : Int) (F : List Int) : Prop where
  len : F.length = T.length
  lo : ∀ h, 0 ≤ F.getD h 0
  hi : ∀ h, F.getD h 0 ≤ d
  snd : ∀ h, F.getD h 0 ≠ 0 → Nd T R [] h
  chain : ∀ e : Int, 1 ≤ e → (∃ h, F.getD h 0 = e + 1) → ∃ h, F.getD h 0 = e
  roots : ∀ v ∈ R, obj T v = true → F.getD (ix v) 0 ≠ 0
  on : ∀ h, 1 ≤ F.getD h 0 → F.getD h 0 < d → ∀ v ∈ (thAt T h).sl, obj T v = true → F.getD (ix v) 0 ≠ 0

theorem far1_is (T : List Th) (R : List V) : Far T R 1 (far1 T R) := by
  have h0 : ∀ h, (List.replicate T.length (0 : Int)).getD h 0 = 0 := fun h => by
    by_cases hh : h < T.length
    · simp [List.getD, hh]
    · simp [List.getD, List.getElem?_eq_none (l := List.replicate T.length (0 : Int)) (by simpa using hh)]
  have g := marks_gr (P := Nd T R []) (T := T) (d := 1) (L := R) (F := List.replicate T.length 0) (by simp) (fun v hv ho => Nd.root v hv ho)
  have hz : ∀ h, (far1 T R).getD h 0 = 0 ∨ ((far1 T R).getD h 0 = 1 ∧ Nd T R [] h) := fun h => g.new h (h0 h)
  refine ⟨g.len.trans (by simp), fun h => ?_, fun h => ?_, fun h hh => ?_, fun e he ⟨h, hh⟩ => ?_, fun v hv ho => marks_on (by simp) (by decide) hv ho, fun h h1 h2 => by omega⟩
  · rcases hz h with h1 | h1 <;> omega
  · rcases hz h with h1 | h1 <;> omega
  · rcases hz h with h1 | h1
    · exact (hh h1).elim
    · exact h1.2
  · rcases hz h with h1 | h1 <;> omega

theorem far_row {T : List Th} {R : List V} {F : List Int} {d : Nat} (hw : ∀ t ∈ T, isWk t = false) (hF : Far T R ((d : Int) + 1) F) : Far T R ((d : Int) + 1 + 1) (rowD T F d) := by
  let P : Nat → Prop := fun h => Nd T R [] h ∧ ∃ k, F.getD k 0 = (d : Int) + 1
  have hlt : ∀ h, F.getD h 0 ≠ 0 → h < T.length := fun h hh => by
    rcases Nat.lt_or_ge h T.length with k | k
    · exact k
    · exact (hh (by simp [List.getD, List.getElem?_eq_none (l := F) (by rw [hF.len]; exact k)])).elim
  have step : ∀ s a, a ∈ List.range T.length → Gr P ((d : Int) + 1 + 1) F s → Gr P ((d : Int) + 1 + 1) s (rowH T ((d : Int) + 1) s a) := fun s a ha hs => by
    unfold rowH
    split
    · rename_i h
      have hFa : F.getD a 0 = (d : Int) + 1 := by
        by_cases h0 : F.getD a 0 = 0
        · rcases hs.new a h0 with h1 | h1 <;> omega
        · rw [← hs.old a h0]; exact h
      have ha' := List.mem_range.1 ha
      have ht : thAt T a ∈ T := by simp [thAt, List.getElem?_eq_getElem ha']
      exact marks_gr (hs.len.trans hF.len) (fun v hv ho => ⟨Nd.edge a none _ (hF.snd a (by omega)) ha' (Ld.plain v (hw _ ht) hv ho) (fun k hk => by cases hk), a, hFa⟩)
    · exact Gr.refl _ _ _
  have g : Gr P ((d : Int) + 1 + 1) F (rowD T F d) := fold_rel (Rl := Gr P ((d : Int) + 1 + 1)) (Gr.refl _ _) Gr.trans F _ step F (Gr.refl _ _ _)
  have pos : ∀ h, F.getD h 0 ≠ 0 → (rowD T F d).getD h 0 ≠ 0 := fun h hh => by rw [g.old h hh]; exact hh
  refine ⟨g.len.trans hF.len, fun h => ?_, fun h => ?_, fun h hh => ?_, fun e he ⟨h, hh⟩ => ?_, fun v hv ho => pos _ (hF.roots v hv ho), fun h h1 h2 v hv ho => ?_⟩
  · by_cases h0 : F.getD h 0 = 0
    · rcases g.new h h0 with h1 | h1 <;> omega
    · rw [g.old h h0]; exact hF.lo h
  · by_cases h0 : F.getD h 0 = 0
    · rcases g.new h h0 with h1 | h1 <;> omega
    · rw [g.old h h0]; have := hF.hi h; omega
  · by_cases h0 : F.getD h 0 = 0
    · rcases g.new h h0 with h1 | h1
      · exact (hh h1).elim
      · exact h1.2.1
    · exact hF.snd h h0
  · have up : (∃ k, F.getD k 0 = e) → ∃ k, (rowD T F d).getD k 0 = e := fun ⟨k, hk⟩ => ⟨k, by rw [g.old k (by omega)]; exact hk⟩
    by_cases h0 : F.getD h 0 = 0
    · rcases g.new h h0 with h1 | ⟨h1, h2⟩
      · omega
      · obtain ⟨k, hk⟩ := h2.2
        exact up ⟨k, by omega⟩
    · exact up (hF.chain e he ⟨h, by rw [← g.old h h0]; exact hh⟩)
  · have h0 : F.getD h 0 ≠ 0 := fun h0 => by rcases g.new h h0 with h3 | h3 <;> omega
    have e0 := g.old h h0
    by_cases hd : F.getD h 0 < (d : Int) + 1
    · exact pos _ (hF.on h (by omega) hd v hv ho)
    · have hd1 : F.getD h 0 = (d : Int) + 1 := by have := hF.hi h; omega
      obtain ⟨s1, k1, k2⟩ := fold_one (Rl := Gr P ((d : Int) + 1 + 1)) (Gr.refl _ _) Gr.trans F _ step (List.mem_range.2 (hlt h h0)) F (Gr.refl _ _ _)
      have hs1 : s1.getD h 0 = (d : Int) + 1 := by rw [k1.old h h0]; exact hd1
      have : (rowH T ((d : Int) + 1) s1 h).getD (ix v) 0 ≠ 0 := by
        unfold rowH; rw [if_pos hs1]
        exact marks_on (k1.len.trans hF.len) (by omega) hv ho
      exact fun e => this ((k2.old _ this).symm.trans e)
theorem farD_is {T : List Th} (hw : ∀ t ∈ T, isWk t = false) (R : List V) (m : Nat) : Far T R ((m : Int) + 1) (farD T R m) := by
  induction m with
  | zero => simpa [farD] using far1_is T R
  | succ m ih =>
    have := far_row hw ih
    unfold farD at this ⊢
    rw [List.range_succ, List.foldl_append]
    simpa using this

theorem many (m : Nat) : ∀ l : List Int, (∀ e : Int, 1 ≤ e → e ≤ m → e ∈ l) → m ≤ l.length := by
  induction m with
  | zero => exact fun l _ => Nat.zero_le _
  | succ m ih =>
    intro l h
    have hm : ((m : Int) + 1) ∈ l := h _ (by omega) (by omega)
    have := ih (l.erase ((m : Int) + 1)) (fun e h1 h2 => (List.mem_erase_of_ne (by omega)).2 (h e h1 (by omega)))
    rw [List.length_erase_of_mem hm] at this
    have : 0 < l.length := List.length_pos_of_mem hm
    omega
/-- What is marked is what is needed. -/
theorem far_iff {T : List Th} (hw : ∀ t ∈ T, isWk t = false) (R : List V) (i : Nat) : (farD T R T.length).getD i 0 ≠ 0 ↔ Nd T R [] i := by
  have hF := farD_is hw R T.length
  refine ⟨hF.snd i, fun h => ?_⟩
  have top : ∀ h, (farD T R T.length).getD h 0 ≠ (T.length : Int) + 1 := fun h hh => by
    have down : ∀ k : Nat, k ≤ T.length → ∃ h, (farD T R T.length).getD h 0 = (T.length : Int) + 1 - k := fun k => by
      induction k with
      | zero => exact fun _ => ⟨h, by simpa using hh⟩
      | succ k ih =>
        intro hk
        obtain ⟨h', e⟩ := ih (by omega)
        obtain ⟨q, hq⟩ := hF.chain ((T.length : Int) - k) (by omega) ⟨h', by omega⟩
        exact ⟨q, by omega⟩
    have := many (T.length + 1) (farD T R T.length) (fun e h1 h2 => by
      obtain ⟨q, hq⟩ := down (((T.length : Int) + 1 - e).toNat) (by omega)
      have hq' : (farD T R T.length).getD q 0 = e := by omega
      rcases Nat.lt_or_ge q (farD T R T.length).length with k | k
      · rw [← hq']; simp [List.getD, k]
      · simp [List.getD, List.getElem?_eq_none k] at hq'; omega)
    rw [hF.len] at this
    omega
  induction h with
  | root v hv ho => exact hF.roots v hv ho
  | more x hx _ _ => cases hx
  | edge j c o hj hl hd hk ih ihk =>
    have ht : thAt T j ∈ T := by simp [thAt, List.getElem?_eq_getElem hl]
    have hn := hw _ ht
    have t := top j
    have l := hF.lo j
    have u := hF.hi j
    cases hd with
    | plain v _ hv ho => exact hF.on j (by omega) (by omega) v hv ho
    | _ => simp_all
end Go.Proofs.Ytnofmpbdfcolfaa
