import Derived.Test.YtgkgpjbbmnfnmaaGreatDoorRV
import Derived.Test.YtgkgpjbbmnfnmaaGreatDoorGA
import Derived.Test.YtgkgpjbbmnfnmaaGreatDoorGH
import Derived.Test.YtgkgpjbbmnfnmaaGreatDoorTU
/- choice. -/
namespace Go.Proofs.YtgkgpjbbmnfnmaaGreatDoor
open Go.RowKit
open List (setIfInBounds_toArray set_cons_zero set_cons_succ getElem_toArray getElem_cons_zero getElem_cons_succ)
set_option linter.unusedSimpArgs false
set_option linter.unusedVariables false

/-- A round of a choice: what is left of it. -/
def ch3 (V : Env) (G : Lev) (f : Nat) (D : List Tr) (q : Nat) : PR (List Tr) := if V.is sElseif q then prep D (choices V G f q) else .ok (D, q)
def ch2 (V : Env) (G : Lev) (f : Nat) (D : List Tr) (q : Nat) : PR (List Tr) := match G.block q with
 | .error e => .error e
 | .ok (y, u) => ch3 V G f (D ++ [y]) u
def ch1 (V : Env) (G : Lev) (f : Nat) (D : List Tr) (q : Nat) : PR (List Tr) := match V.need sThen q with
 | .error e => .error e
 | .ok (_, u) => ch2 V G f D u
def ch0 (V : Env) (G : Lev) (f : Nat) (D : List Tr) (q : Nat) : PR (List Tr) := match G.above 0 q with
 | .error e => .error e
 | .ok (y, u) => ch1 V G f (D ++ [y]) u
theorem prep_ch0 (V : Env) (G : Lev) (f : Nat) (D : List Tr) (q : Nat) : prep D (choices V G (f + 1) q) = ch0 V G f D (q + 1) := by
 unfold choices ch0
 cases G.above 0 (q + 1) with
 | error e => rfl
 | ok z =>
  obtain ⟨n, q⟩ := z
  dsimp only
  unfold ch1
  cases V.need sThen q with
  | error e => rfl
  | ok z =>
   obtain ⟨_, r⟩ := z
   dsimp only
   unfold ch2
   cases G.block r with
   | error e => rfl
   | ok z =>
    obtain ⟨x, s⟩ := z
    dsimp only
    unfold ch3
    cases V.is sElseif s with
    | false => simp [prep]
    | true =>
     simp only [if_true]
     cases choices V G f s with
     | error e => rfl
     | ok z => simp [prep]
/-- The end of a choice. -/
def chN (V : Env) (ap : Int) (D : List Tr) (q : Nat) : PR Tr := match V.need sEnd q with
 | .error e => .error e
 | .ok (_, s) => .ok (nd 24 D ap, s)
def chE (V : Env) (G : Lev) (ap : Int) (D : List Tr) (q : Nat) : PR Tr := match elseS V G D q with
 | .error e => .error e
 | .ok (m, r) => chN V ap m r
def chW (V : Env) (G : Lev) (ap : Int) (R : PR (List Tr)) : PR Tr := match R with
 | .error e => .error e
 | .ok (l, q) => chE V G ap l q
set_option maxRecDepth 20000 in
set_option maxHeartbeats 16000000 in
theorem choice_any {w : World} {c : Nat} {V : Env} {p : Nat} {G : Lev} {l : Nat} (hG : LevIs V G (l + 1)) (hl : l ≤ 40) (h : Ps w c V p) (hp : p < V.L.length) :
  Calls Tryz.prog 137 #[.pointer (some ⟨c, 0, none⟩), .int .i64 (l : Int)] w (PRes c V w (choiceS V G p)) := by
 obtain ⟨W0, HW0⟩ : ∃ W0, Hid (w.alloc (nb nz) = W0) := ⟨_, show _ = _ from rfl⟩
 have HS0 : Hid (Sx w c V p (.mk 0 ⟨#[]⟩ 0 0 0 [] 0) nz W0) := by
  have ka : Kept No w W0 := by rw [← HW0.out]; exact (Kept.refl No w).alloc _
  exact ⟨ka.no, h.no ka, by rw [← HW0.out]; exact World.alloc_heap_new w _, leaf_is _ _ _ _ _ _ _ _⟩
 have hcl := h.lt
 have hlen := h.len
 have hle := hG.le
 have HG : Hid (LevIs V G (l + 1)) := hG
 have HEx : Hid (∀ {w' : World} {q : Nat}, Ps w' c V q → Calls Tryz.prog 163 #[.pointer (some ⟨c, 0, none⟩), .int .i64 ((l : Int) + 1)] w' (PRes c V w' (G.above 0 q))) := fun hq => by
  have := expr_any hG hq
  rw [show ((l + 1 : Nat) : Int) = (l : Int) + 1 by omega] at this
  exact this
 have HBl : Hid (∀ {w' : World} {q : Nat}, Ps w' c V q → Calls Tryz.prog 60 #[.pointer (some ⟨c, 0, none⟩), .int .i64 ((l : Int) + 1)] w' (PRes c V w' (G.block q))) := fun hq => by
  have := hG.block hq
  rw [show ((l + 1 : Nat) : Int) = (l : Int) + 1 by omega] at this
  exact this
 obtain ⟨ap, Hap⟩ : ∃ ap, Hid (V.at p = ap) := ⟨_, show _ = _ from rfl⟩
 obtain ⟨R0, HRz⟩ : ∃ R0, Hid (R0 = choices V G (V.L.length + 1) p) := ⟨_, show _ = _ from rfl⟩
 obtain ⟨RR, HRd⟩ : ∃ RR, Hid (choiceS V G p = RR) := ⟨_, show _ = _ from rfl⟩
 rw [HRd.out]
 have HRf : Hid (RR = chW V G ap R0) := by
  show _ = _
  rw [← HRd.out, HRz.out, ← Hap.out]; unfold choiceS chW
  cases choices V G (V.L.length + 1) p with
  | error e => rfl
  | ok z =>
   obtain ⟨l, q⟩ := z
   dsimp only
   unfold chE
   cases elseS V G l q with
   | error e => rfl
   | ok z =>
    obtain ⟨m, r⟩ := z
    dsimp only
    unfold chN
    cases V.need sEnd r with
    | error e => rfl
    | ok z => rfl
 clear HRd
 have HAt : Hid _ := at_any HS0.out.ps
 rw [Hap.out] at HAt
 have u1 : IntKind.i64.wrap ((l : Int) + 1) = (l : Int) + 1 := by rw [IntKind.wrap_i64]; omega
 unfold nb nz ncs at HW0
 clear h hG Hap
 go_enter Tryz.func137, Tryz.ntmps137
 go_wp2_with fail
 rw [HW0.out]
 clear HW0
 refine Calls.mono HAt.out ?_
 rintro r W1 ⟨rfl, hk1⟩
 have HS1 : Hid (Sx w c V p (.mk 0 ⟨#[]⟩ 0 0 0 [] 0) nz W1) := HS0.out.no hk1
 obtain ⟨W2, HW2⟩ : ∃ W2, Hid (W2 = W1.alloc (nb (ncs 24 ⟨#[]⟩ 0 0 0 (.slice none 0 0) ap))) := ⟨_, show _ = _ from rfl⟩
 have ka : Kept No W1 W2 := by rw [HW2.out]; exact (Kept.refl No W1).alloc _
 obtain ⟨T, HT⟩ : ∃ T, Hid (W1.heap.size = T) := ⟨_, show _ = _ from rfl⟩
 have hz1 := hp_lt HS1.out.box
 have hRT : w.heap.size + 1 ≤ T := by have := HT.out; omega
 have HK1 : Hid (FTs 24 ap c T V w W2 p (.slice none 0 0) []) := by
  have hT2 : W2.heap[T]? = some (nb (ncs 24 ⟨#[]⟩ 0 0 0 (.slice none 0 0) ap)) := by rw [HW2.out, ← HT.out]; exact World.alloc_heap_new W1 _
  exact ⟨hp_lt hT2, (HS1.out.no ka).kept, (HS1.out.no ka).ps, (HS1.out.no ka).box, hT2, Bld.nil _ _⟩
 unfold nb ncs at HW2
 clear hk1 HAt HS0 HS1 ka hz1
 go_wp2_with (first | rw [← HW2.out])
 try rw [HT.out]
 clear HW2 HT
 go_loopw [6, 12, 13, 14, 15, 16, 17, 18, 19, 20, 21, 22, 23, 24, 25, 26, 27, 28, 29, 30, 31, 32, 33, 34, 35, 36, 37, 38, 39, 40] (fun s6 _ _ _ _ _ _ _ _ _ _ _ _ _ _ _ _ _ _ _ _ _ _ _ _ _ _ _ _ _ wr => ∃ (D : List Tr) (q f : Nat) (sv : Value) (m : Bool), s6 = .bool m ∧ q ≤ V.L.length ∧ D.length ≤ q ∧ ((m = true ∧ q < V.L.length ∧ V.L.length < q + f ∧ Hid (R0 = prep D (choices V G f q))) ∨ (m = false ∧ Hid (R0 = .ok (D, q)))) ∧ Hid (FTs 24 ap c T V w wr q sv D)) (fun s6 _ _ _ _ _ _ _ _ _ _ _ _ _ _ _ _ _ _ _ _ _ _ _ _ _ _ _ _ _ wr => V.L.length - pos c wr)
 case atStart => exact ⟨[], p, V.L.length + 1, .slice none 0 0, true, rfl, by omega, by simp, .inl ⟨rfl, hp, by omega, by rw [HRz.out]; cases choices V G (V.L.length + 1) p with | error e => rfl | ok z => obtain ⟨l, r⟩ := z; rfl⟩, HK1.out⟩
 case round =>
  clear HK1 HRz
  obtain ⟨D, q, f, sv, m, rfl, hq, hDq, hm, HF4⟩ := hrel
  obtain ⟨W4, hW4⟩ : ∃ W4, W4 = wr := ⟨_, rfl⟩
  subst hW4
  rcases hm with ⟨rfl, hqlt, hf, HR0⟩ | ⟨rfl, HR0⟩
  ·obtain ⟨f', rfl⟩ : ∃ f', f = f' + 1 := ⟨f - 1, by omega⟩
   have hpq := HF4.out.2.2.1.pos
   have HRR : Hid (R0 = ch0 V G f' D (q + 1)) := by show _ = _; rw [HR0.out, prep_ch0]
   have HTk : Hid _ := take_any HF4.out.2.2.1 hqlt
   clear HR0
   go_wp2_with fail
   refine Calls.mono HTk.out ?_
   rintro r W5 ⟨rfl, hk5, hp5⟩
   have HF5 : Hid (FTs 24 ap c T V w W5 (q + 1) sv D) := ⟨Nat.le_trans HF4.out.1 hk5.size, HF4.out.2.1.trans hk5, hp5, hk5.heap HF4.out.2.2.2.1 (show ¬ w.heap.size = c by omega), hk5.heap HF4.out.2.2.2.2.1 (show ¬ T = c by omega), HF4.out.2.2.2.2.2.go (show c < T + 1 by omega) hk5⟩
   clear hk5 hp5 HTk HF4
   obtain ⟨Wo, hWo⟩ : ∃ Wo, Wo = W4 := ⟨_, rfl⟩
   subst hWo
   obtain ⟨W4, hW4⟩ : ∃ W4, W4 = W5 := ⟨_, rfl⟩
   subst hW4
   obtain ⟨qb, hqb⟩ : ∃ qb, qb = q := ⟨_, rfl⟩
   subst hqb
   obtain ⟨q, hq⟩ : ∃ q, q = qb + 1 := ⟨_, rfl⟩
   rw [← hq] at HF5 HRR
   have HF4 := HF5
   clear HF5
   have HIt : Hid (∀ {w' : World}, Ps w' c V q → Calls Tryz.prog 163 #[.pointer (some ⟨c, 0, none⟩), .int .i64 ((l : Int) + 1)] w' (PRes c V w' (G.above 0 q))) := fun hq => HEx.out hq
   have HGo : Hid (∀ y r, G.above 0 q = .ok (y, r) → q < r ∧ r ≤ V.L.length) := fun y r hh => HG.out.go.above 0 _ _ _ hh

   go_upto_region 6 with fail
   go_cut [] (fun wx => ∃ (D' : List Tr) (q1 : Nat) (sv' : Value), D'.length ≤ q1 ∧ q < q1 + 0 ∧ q1 ≤ V.L.length ∧ Hid (R0 = ch1 V G f' D' q1) ∧ Hid (FTs 24 ap c T V w wx q1 sv' D'))
   case first =>
    refine appS (n := 9) (ft_drew HF4.out (by omega)) (fun W4' HF3 hSS => ?_)
    have HF3 : Hid _ := HF3
    try simp only [Act.put, setIfInBounds_toArray, set_cons_zero, set_cons_succ, getElem_toArray, getElem_cons_zero, getElem_cons_succ]
    clear HF4
    refine tkU 2 (.pointer (some ⟨c, 0, none⟩)) rfl hSS ?_
    try simp only [Act.put, setIfInBounds_toArray, set_cons_zero, set_cons_succ, getElem_toArray, getElem_cons_zero, getElem_cons_succ]
    refine tkU 3 (.int .i64 (l : Int)) rfl hSS ?_
    try simp only [Act.put, setIfInBounds_toArray, set_cons_zero, set_cons_succ, getElem_toArray, getElem_cons_zero, getElem_cons_succ]
    refine tkU 4 (.int .i64 ((l : Int) + 1)) rfl hSS ?_
    try simp only [Act.put, setIfInBounds_toArray, set_cons_zero, set_cons_succ, getElem_toArray, getElem_cons_zero, getElem_cons_succ]
    have HE1 := HIt.out HF3.out.2.2.1
    refine rdU 5 rfl (fun K hK => ?_)
    go_simp
    cases hit : G.above 0 q with
    | error e =>
     obtain ⟨a, x'⟩ := e
     rw [hit] at HE1
     have HE : Hid _ := HE1
     have HRe : Hid (RR = .error (a, x')) := by show _ = _; rw [HRf.out, HRR.out]; unfold ch0; rw [hit]; rfl
     clear HE1 hit HRR
     refine Calls.mono HE.out ?_
     rintro r W5 ⟨hk5, rfl⟩
     have HK5 : Hid (Kept (fun b => b = c) w W5) := HF3.out.2.1.trans hk5
     clear hk5 HE HF3
     try go_wp2_with fail
     refine ⟨rfl, ?_⟩
     show PRes c V w RR _ _
     rw [HRe.out]
     exact ⟨HK5.out, rfl⟩
    | ok y =>
     obtain ⟨y0, q1⟩ := y
     have hgo := HGo.out _ _ hit
     rw [hit] at HE1
     have HRe : Hid (R0 = ch1 V G f' (D ++ [y0]) q1) := by show _ = _; rw [HRR.out]; unfold ch0; rw [hit]
     have HE : Hid _ := HE1
     clear HE1 hit HRR
     refine Calls.mono HE.out ?_
     rintro r W5 ⟨hk5, ⟨cs, rfl, hy⟩, hp5⟩
     have HF5 : Hid _ := ft_call HF3.out hk5 hp5 hy (by omega) (by omega) (by omega)
     clear hy hk5 hp5 HE HF3
     refine hK.out _ _ (fun _ => (nb_cells HF5.out.1.2.2.2.2.1).2.2.2.2.2.1) ?_
     clear hK K
     try simp only [Act.put, setIfInBounds_toArray, set_cons_zero, set_cons_succ, getElem_toArray, getElem_cons_zero, getElem_cons_succ]
     refine appT 6 HF5.out (by omega) (by omega) (by omega) (fun ao3 ln3 cp3 W7 HF7 => ?_)
     have HF7 : Hid _ := HF7
     clear HF5
     try simp only [Act.put, setIfInBounds_toArray, set_cons_zero, set_cons_succ, getElem_toArray, getElem_cons_zero, getElem_cons_succ]
     go_wp2_with fail
     go_meet
     exact ⟨D ++ [y0], q1, _, by rw [List.length_append]; show D.length + 1 ≤ _; omega, by omega, by omega, HRe, HF7⟩
   case rest =>
   obtain ⟨D1, q1, sv1, hDq1, hqq1, hqL1, HRR1, HF41⟩ := hcut
   clear HF4 HRR HIt HGo
   obtain ⟨D, hD⟩ : ∃ D, D = D1 := ⟨_, rfl⟩
   subst hD
   obtain ⟨qo, hqo⟩ : ∃ qo, qo = q := ⟨_, rfl⟩
   subst hqo
   obtain ⟨q, hq⟩ : ∃ q, q = q1 := ⟨_, rfl⟩
   subst hq
   obtain ⟨sv, hsv⟩ : ∃ sv, sv = sv1 := ⟨_, rfl⟩
   subst hsv
   obtain ⟨W4, hW4⟩ : ∃ W4, W4 = wc := ⟨_, rfl⟩
   subst hW4
   have HF4 := HF41
   have HRR := HRR1
   clear HF41 HRR1

   obtain ⟨bn, Hbn⟩ : ∃ bn, Hid (V.is sThen q = bn) := ⟨_, show _ = _ from rfl⟩
   cases bn with
   | false =>
    have HN : Hid (Calls Tryz.prog 166 #[.pointer (some ⟨c, 0, none⟩), .string ⟨#[116, 104, 101, 110]⟩] W4 fun r w' => r = stopW (V.at q) 6 ∧ Kept (fun b => b = c) W4 w') := need_bad HF4.out.2.2.1 ⟨#[116, 104, 101, 110]⟩ (by decide) Hbn.out
    have HRe : Hid (RR = .error (V.at q, 6)) := by show _ = _; rw [HRf.out, HRR.out]; unfold ch1 Env.need Env.wrong; rw [Hbn.out]; rfl
    go_wp2_with fail
    refine Calls.mono HN.out ?_
    rintro r W5 ⟨rfl, hk5⟩
    have HK5 : Hid (Kept (fun b => b = c) w W5) := HF4.out.2.1.trans hk5
    clear hk5 HN HF4
    go_wp2_with fail
    refine ⟨rfl, ?_⟩
    show PRes c V w RR _ _
    rw [HRe.out]
    exact ⟨HK5.out, rfl⟩
   | true =>
   have hnL := is_lt Hbn.out (by decide)
   have HN : Hid (Calls Tryz.prog 166 #[.pointer (some ⟨c, 0, none⟩), .string ⟨#[116, 104, 101, 110]⟩] W4 fun r w' => r = .returned (.tuple #[]) ∧ Kept (fun b => b = c) W4 w' ∧ Ps w' c V (q + 1)) := need_ok HF4.out.2.2.1 ⟨#[116, 104, 101, 110]⟩ (by decide) Hbn.out
   have HRx : Hid (R0 = ch2 V G f' D (q + 1)) := by show _ = _; rw [HRR.out]; unfold ch1 Env.need; rw [Hbn.out]; rfl
   go_wp2_with fail
   refine Calls.mono HN.out ?_
   rintro r W5 ⟨rfl, hk5, hp5⟩
   have HF5 : Hid (FTs 24 ap c T V w W5 (q + 1) sv D) := ⟨Nat.le_trans HF4.out.1 hk5.size, HF4.out.2.1.trans hk5, hp5, hk5.heap HF4.out.2.2.2.1 (show ¬ w.heap.size = c by omega), hk5.heap HF4.out.2.2.2.2.1 (show ¬ T = c by omega), HF4.out.2.2.2.2.2.go (show c < T + 1 by omega) hk5⟩
   clear hk5 hp5 HN HF4 HRR Hbn
   obtain ⟨W4, hW4⟩ : ∃ W4, W4 = W5 := ⟨_, rfl⟩
   subst hW4
   obtain ⟨q0, hq0⟩ : ∃ q0, q0 = q := ⟨_, rfl⟩
   subst hq0
   obtain ⟨q, hq⟩ : ∃ q, q = q0 + 1 := ⟨_, rfl⟩
   rw [← hq] at HF5 HRx
   have HF4 := HF5
   have HRR := HRx
   clear HF5 HRx
   have HIt : Hid (∀ {w' : World}, Ps w' c V q → Calls Tryz.prog 60 #[.pointer (some ⟨c, 0, none⟩), .int .i64 ((l : Int) + 1)] w' (PRes c V w' (G.block q))) := fun hq => HBl.out hq
   have HGo : Hid (∀ y r, G.block q = .ok (y, r) → q ≤ r ∧ r ≤ V.L.length) := fun y r hh => HG.out.go.block q y r (by omega) hh

   go_upto_region 8 with fail
   refine appS (n := 9) (ft_drew HF4.out (by omega)) (fun W4' HF3 hSS => ?_)
   have HF3 : Hid _ := HF3
   try simp only [Act.put, setIfInBounds_toArray, set_cons_zero, set_cons_succ, getElem_toArray, getElem_cons_zero, getElem_cons_succ]
   clear HF4
   refine tkU 2 (.pointer (some ⟨c, 0, none⟩)) rfl hSS ?_
   try simp only [Act.put, setIfInBounds_toArray, set_cons_zero, set_cons_succ, getElem_toArray, getElem_cons_zero, getElem_cons_succ]
   refine tkU 3 (.int .i64 (l : Int)) rfl hSS ?_
   try simp only [Act.put, setIfInBounds_toArray, set_cons_zero, set_cons_succ, getElem_toArray, getElem_cons_zero, getElem_cons_succ]
   refine tkU 4 (.int .i64 ((l : Int) + 1)) rfl hSS ?_
   try simp only [Act.put, setIfInBounds_toArray, set_cons_zero, set_cons_succ, getElem_toArray, getElem_cons_zero, getElem_cons_succ]
   have HE1 := HIt.out HF3.out.2.2.1
   refine rdU 5 rfl (fun K hK => ?_)
   go_simp
   cases hit : G.block q with
   | error e =>
    obtain ⟨a, x'⟩ := e
    rw [hit] at HE1
    have HE : Hid _ := HE1
    have HRe : Hid (RR = .error (a, x')) := by show _ = _; rw [HRf.out, HRR.out]; unfold ch2; rw [hit]; rfl
    clear HE1 hit HRR
    refine Calls.mono HE.out ?_
    rintro r W5 ⟨hk5, rfl⟩
    have HK5 : Hid (Kept (fun b => b = c) w W5) := HF3.out.2.1.trans hk5
    clear hk5 HE HF3
    try go_wp2_with fail
    refine ⟨rfl, ?_⟩
    show PRes c V w RR _ _
    rw [HRe.out]
    exact ⟨HK5.out, rfl⟩
   | ok y =>
    obtain ⟨y0, q1⟩ := y
    have hgo := HGo.out _ _ hit
    rw [hit] at HE1
    have HRe : Hid (R0 = ch3 V G f' (D ++ [y0]) q1) := by show _ = _; rw [HRR.out]; unfold ch2; rw [hit]
    have HE : Hid _ := HE1
    clear HE1 hit HRR
    refine Calls.mono HE.out ?_
    rintro r W5 ⟨hk5, ⟨cs, rfl, hy⟩, hp5⟩
    have HF5 : Hid _ := ft_call HF3.out hk5 hp5 hy (by omega) (by omega) (by omega)
    clear hy hk5 hp5 HE HF3
    refine hK.out _ _ (fun _ => (nb_cells HF5.out.1.2.2.2.2.1).2.2.2.2.2.1) ?_
    clear hK K
    try simp only [Act.put, setIfInBounds_toArray, set_cons_zero, set_cons_succ, getElem_toArray, getElem_cons_zero, getElem_cons_succ]
    refine appT 6 HF5.out (by omega) (by omega) (by omega) (fun ao3 ln3 cp3 W7 HF7 => ?_)
    have HF7 : Hid _ := HF7
    clear HF5
    try simp only [Act.put, setIfInBounds_toArray, set_cons_zero, set_cons_succ, getElem_toArray, getElem_cons_zero, getElem_cons_succ]
    obtain ⟨b3, Hb3⟩ : ∃ b3, Hid (V.is sElseif q1 = b3) := ⟨_, show _ = _ from rfl⟩
    have HIs : Hid (Calls Tryz.prog 99 #[.pointer (some ⟨c, 0, none⟩), .string ⟨#[101, 108, 115, 101, 105, 102]⟩] W7 fun r w' => r = .returned (.bool b3) ∧ Kept No W7 w') := by
     have := is_any HF7.out.2.2.1 ⟨#[101, 108, 115, 101, 105, 102]⟩
     rw [show V.is (⟨#[101, 108, 115, 101, 105, 102]⟩ : ByteArray).data.toList q1 = b3 from Hb3.out] at this
     exact this
    go_wp2_with fail
    refine Calls.mono HIs.out ?_
    rintro r W8 ⟨rfl, hk8⟩
    have HF8 : Hid (FTs 24 ap c T V w W8 q1 (.slice ao3 ln3 cp3) (D ++ [y0])) := ⟨Nat.le_trans HF7.out.1 hk8.size, HF7.out.2.1.trans hk8.no, HF7.out.2.2.1.no hk8, hk8.heap HF7.out.2.2.2.1 id, hk8.heap HF7.out.2.2.2.2.1 id, HF7.out.2.2.2.2.2.go (show c < T + 1 by omega) hk8.no⟩
    clear hk8 HIs HF7
    have hor : (b3 = true ∧ q1 < V.L.length ∧ V.L.length < q1 + f' ∧ Hid (R0 = prep (D ++ [y0]) (choices V G f' q1))) ∨ (b3 = false ∧ Hid (R0 = .ok (D ++ [y0], q1))) := by
     have := HRe.out
     unfold ch3 at this
     rw [Hb3.out] at this
     cases b3 with
     | true => exact .inl ⟨rfl, is_lt Hb3.out (by decide), by omega, this⟩
     | false => exact .inr ⟨rfl, this⟩
    clear HRe Hb3
    go_wp2_with fail
    go_roundw
    case rel =>
     exact ⟨D ++ [y0], q1, f', _, b3, rfl, by omega, by rw [List.length_append]; show D.length + 1 ≤ _; omega, hor, HF8⟩
    case measure =>
     rw [hpq, HF8.out.2.2.1.pos]
     omega
  ·skip
   have HRR : Hid (RR = chE V G ap D q) := by show _ = _; rw [HRf.out, HR0.out]; rfl
   clear HRf HR0
   obtain ⟨b2, Hb2⟩ : ∃ b2, Hid (V.is sElse q = b2) := ⟨_, show _ = _ from rfl⟩
   have HTo : Hid (Calls Tryz.prog 98 #[.pointer (some ⟨c, 0, none⟩), .string ⟨#[101, 108, 115, 101]⟩] W4 fun r w' => r = .returned (.bool b2) ∧ Kept (fun b => b = c) W4 w' ∧ Ps w' c V (if b2 then q + 1 else q)) := by
    have := took_any HF4.out.2.2.1 ⟨#[101, 108, 115, 101]⟩ (by decide)
    rw [show V.is (⟨#[101, 108, 115, 101]⟩ : ByteArray).data.toList q = b2 from Hb2.out] at this
    exact this
   go_wp2_with fail
   refine Calls.mono HTo.out ?_
   rintro r W5 ⟨rfl, hk5, hp5⟩
   have HF5 : Hid (FTs 24 ap c T V w W5 _ sv D) := ⟨Nat.le_trans HF4.out.1 hk5.size, HF4.out.2.1.trans hk5, hp5, hk5.heap HF4.out.2.2.2.1 (show ¬ w.heap.size = c by omega), hk5.heap HF4.out.2.2.2.2.1 (show ¬ T = c by omega), HF4.out.2.2.2.2.2.go (show c < T + 1 by omega) hk5⟩
   clear hk5 hp5 HTo HF4
   go_upto_if 44 with fail
   go_cut [] (fun wx => ∃ (D' : List Tr) (q1 : Nat) (sv' : Value), D'.length ≤ q1 ∧ q < q1 + 1 ∧ q1 ≤ V.L.length ∧ Hid (RR = chN V ap D' q1) ∧ Hid (FTs 24 ap c T V w wx q1 sv' D'))
   case first =>
    cases b2 with
    | true =>
     have hnL := is_lt Hb2.out (by decide)
     have HRx : Hid (RR = match G.block (q + 1) with | .error e => .error e | .ok (y, u) => chN V ap (D ++ [y]) u) := by
      show _ = _; rw [HRR.out]; unfold chE elseS; rw [Hb2.out, if_pos rfl]
      cases G.block (q + 1) with
      | error e => rfl
      | ok z => rfl
     have HF4 : Hid (FTs 24 ap c T V w W5 (q + 1) sv D) := HF5.out
     clear HF5 HRR Hb2
     obtain ⟨q0, hq0⟩ : ∃ q0, q0 = q := ⟨_, rfl⟩
     subst hq0
     obtain ⟨q, hq⟩ : ∃ q, q = q0 + 1 := ⟨_, rfl⟩
     rw [← hq] at HF4 HRx
     have HRR := HRx
     clear HRx
     obtain ⟨W4, hW4⟩ : ∃ W4, W4 = W5 := ⟨_, rfl⟩
     subst hW4
     have HIt : Hid (∀ {w' : World}, Ps w' c V q → Calls Tryz.prog 60 #[.pointer (some ⟨c, 0, none⟩), .int .i64 ((l : Int) + 1)] w' (PRes c V w' (G.block q))) := fun hq => HBl.out hq
     have HGo : Hid (∀ y r, G.block q = .ok (y, r) → q ≤ r ∧ r ≤ V.L.length) := fun y r hh => HG.out.go.block q y r (by omega) hh
     go_wp2_with fail
     refine appS (n := 9) (ft_drew HF4.out (by omega)) (fun W4' HF3 hSS => ?_)
     have HF3 : Hid _ := HF3
     try simp only [Act.put, setIfInBounds_toArray, set_cons_zero, set_cons_succ, getElem_toArray, getElem_cons_zero, getElem_cons_succ]
     clear HF4
     refine tkU 2 (.pointer (some ⟨c, 0, none⟩)) rfl hSS ?_
     try simp only [Act.put, setIfInBounds_toArray, set_cons_zero, set_cons_succ, getElem_toArray, getElem_cons_zero, getElem_cons_succ]
     refine tkU 3 (.int .i64 (l : Int)) rfl hSS ?_
     try simp only [Act.put, setIfInBounds_toArray, set_cons_zero, set_cons_succ, getElem_toArray, getElem_cons_zero, getElem_cons_succ]
     refine tkU 4 (.int .i64 ((l : Int) + 1)) rfl hSS ?_
     try simp only [Act.put, setIfInBounds_toArray, set_cons_zero, set_cons_succ, getElem_toArray, getElem_cons_zero, getElem_cons_succ]
     have HE1 := HIt.out HF3.out.2.2.1
     refine rdU 5 rfl (fun K hK => ?_)
     go_simp
     cases hit : G.block q with
     | error e =>
      obtain ⟨a, x'⟩ := e
      rw [hit] at HE1
      have HE : Hid _ := HE1
      have HRe : Hid (RR = .error (a, x')) := by show _ = _; rw [HRR.out, hit]
      clear HE1 hit HRR
      refine Calls.mono HE.out ?_
      rintro r W5 ⟨hk5, rfl⟩
      have HK5 : Hid (Kept (fun b => b = c) w W5) := HF3.out.2.1.trans hk5
      clear hk5 HE HF3
      try go_wp2_with fail
      refine ⟨rfl, ?_⟩
      show PRes c V w RR _ _
      rw [HRe.out]
      exact ⟨HK5.out, rfl⟩
     | ok y =>
      obtain ⟨y0, q1⟩ := y
      have hgo := HGo.out _ _ hit
      rw [hit] at HE1
      have HRe : Hid (RR = chN V ap (D ++ [y0]) q1) := by show _ = _; rw [HRR.out, hit]
      have HE : Hid _ := HE1
      clear HE1 hit HRR
      refine Calls.mono HE.out ?_
      rintro r W5 ⟨hk5, ⟨cs, rfl, hy⟩, hp5⟩
      have HF5 : Hid _ := ft_call HF3.out hk5 hp5 hy (by omega) (by omega) (by omega)
      clear hy hk5 hp5 HE HF3
      refine hK.out _ _ (fun _ => (nb_cells HF5.out.1.2.2.2.2.1).2.2.2.2.2.1) ?_
      clear hK K
      try simp only [Act.put, setIfInBounds_toArray, set_cons_zero, set_cons_succ, getElem_toArray, getElem_cons_zero, getElem_cons_succ]
      refine appT 6 HF5.out (by omega) (by omega) (by omega) (fun ao3 ln3 cp3 W7 HF7 => ?_)
      have HF7 : Hid _ := HF7
      clear HF5
      try simp only [Act.put, setIfInBounds_toArray, set_cons_zero, set_cons_succ, getElem_toArray, getElem_cons_zero, getElem_cons_succ]
      go_wp2_with fail
      go_meet
      exact ⟨D ++ [y0], q1, _, by rw [List.length_append]; show D.length + 1 ≤ _; omega, by omega, by omega, HRe, HF7⟩
    | false =>
     have HRe : Hid (RR = chN V ap D q) := by
      show _ = _; rw [HRR.out]; unfold chE elseS; rw [Hb2.out, if_neg (by decide)]
     go_wp2_with fail
     go_meet
     exact ⟨D, q, _, by omega, by omega, by omega, HRe, HF5⟩
   case rest =>
   obtain ⟨D1, q1, sv1, hDq1, hqq1, hqL1, HRR1, HF41⟩ := hcut
   clear HF5 HRR Hb2
   obtain ⟨D, hD⟩ : ∃ D, D = D1 := ⟨_, rfl⟩
   subst hD
   obtain ⟨qo, hqo⟩ : ∃ qo, qo = q := ⟨_, rfl⟩
   subst hqo
   obtain ⟨q, hq⟩ : ∃ q, q = q1 := ⟨_, rfl⟩
   subst hq
   obtain ⟨sv, hsv⟩ : ∃ sv, sv = sv1 := ⟨_, rfl⟩
   subst hsv
   obtain ⟨W4, hW4⟩ : ∃ W4, W4 = wc := ⟨_, rfl⟩
   subst hW4
   have HF4 := HF41
   have HRR := HRR1
   clear HF41 HRR1
   obtain ⟨bn, Hbn⟩ : ∃ bn, Hid (V.is sEnd q = bn) := ⟨_, show _ = _ from rfl⟩
   cases bn with
   | false =>
    have HN : Hid (Calls Tryz.prog 166 #[.pointer (some ⟨c, 0, none⟩), .string ⟨#[101, 110, 100]⟩] W4 fun r w' => r = stopW (V.at q) 6 ∧ Kept (fun b => b = c) W4 w') := need_bad HF4.out.2.2.1 ⟨#[101, 110, 100]⟩ (by decide) Hbn.out
    have HRe : Hid (RR = .error (V.at q, 6)) := by show _ = _; rw [HRR.out]; unfold chN Env.need Env.wrong; rw [Hbn.out]; rfl
    go_wp2_with fail
    refine Calls.mono HN.out ?_
    rintro r W5 ⟨rfl, hk5⟩
    have HK5 : Hid (Kept (fun b => b = c) w W5) := HF4.out.2.1.trans hk5
    clear hk5 HN HF4
    go_wp2_with fail
    refine ⟨rfl, ?_⟩
    show PRes c V w RR _ _
    rw [HRe.out]
    exact ⟨HK5.out, rfl⟩
   | true =>
   have HN : Hid (Calls Tryz.prog 166 #[.pointer (some ⟨c, 0, none⟩), .string ⟨#[101, 110, 100]⟩] W4 fun r w' => r = .returned (.tuple #[]) ∧ Kept (fun b => b = c) W4 w' ∧ Ps w' c V (q + 1)) := need_ok HF4.out.2.2.1 ⟨#[101, 110, 100]⟩ (by decide) Hbn.out
   have HRx : Hid (RR = .ok (nd 24 D ap, q + 1)) := by show _ = _; rw [HRR.out]; unfold chN Env.need; rw [Hbn.out]; rfl
   go_wp2_with fail
   refine Calls.mono HN.out ?_
   rintro r W5 ⟨rfl, hk5, hp5⟩
   have HF5 : Hid (FTs 24 ap c T V w W5 (q + 1) sv D) := ⟨Nat.le_trans HF4.out.1 hk5.size, HF4.out.2.1.trans hk5, hp5, hk5.heap HF4.out.2.2.2.1 (show ¬ w.heap.size = c by omega), hk5.heap HF4.out.2.2.2.2.1 (show ¬ T = c by omega), HF4.out.2.2.2.2.2.go (show c < T + 1 by omega) hk5⟩
   clear hk5 hp5 HN HF4 HRR Hbn
   obtain ⟨W4, hW4⟩ : ∃ W4, W4 = W5 := ⟨_, rfl⟩
   subst hW4
   obtain ⟨q0, hq0⟩ : ∃ q0, q0 = q := ⟨_, rfl⟩
   subst hq0
   obtain ⟨q, hq⟩ : ∃ q, q = q0 + 1 := ⟨_, rfl⟩
   rw [← hq] at HF5 HRx
   have HF4 := HF5
   have HRR := HRx
   clear HF5 HRx
   have HRe := HRR
   clear HRR
   have hR9 := HF4.out.2.2.2.1
   have hT9 := HF4.out.2.2.2.2.1
   have HF9 : Hid (ListIs (fun b => b < T + 1) _ D sv) := HF4.out.2.2.2.2.2.list
   obtain ⟨r0, r1, r2, r3, r4, r5, r6⟩ := nb_cells hR9
   have rf := fun o => nb_frozen hR9 o
   obtain ⟨t0', t1', t2', t3', t4', t5', t6'⟩ := nb_cells hT9
   have n1 : w.heap.size ≠ T := by omega
   obtain ⟨ao, ln, cp, hsv⟩ := slice_of HF9.out
   rw [hsv] at t5' HF9
   clear hR9 hT9 hsv
   go_wp2_with fail
   refine bodyPost_ret (v := .agg (ncs 24 ⟨#[]⟩ 0 0 0 (.slice ao ln cp) ap).toArray) (by simp [results, Tryz.results137, go_sem, ncs, r0, r1, r2, r3, r4, r5, r6, t0', t1', t2', t3', t4', t5', t6', n1]) rfl ?_
   show PRes c V w RR _ _
   rw [HRe.out]
   have HS7 := Sx.put (k := 24) (t := ⟨#[]⟩) (vt := 0) (vn := 0) (m := 0) (a := ap) hcl HF4.out.2.1 HF4.out.2.2.1 HF4.out.2.2.2.1 rfl (ListIs.mono (fun b (hb : b ≤ w.heap.size) => by show b < T + 1; omega) HF9.out) rfl
   exact ⟨HS7.kept, ⟨_, rfl, NodeIs.mono (fun b (hb : b < w.heap.size) => Nat.le_of_lt hb) _ _ HS7.node⟩, HS7.ps⟩
end Go.Proofs.YtgkgpjbbmnfnmaaGreatDoor
