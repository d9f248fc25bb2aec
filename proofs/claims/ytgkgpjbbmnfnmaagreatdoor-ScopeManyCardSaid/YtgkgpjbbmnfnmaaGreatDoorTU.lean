import Derived.Test.YtgkgpjbbmnfnmaaGreatDoorRV
import Derived.Test.YtgkgpjbbmnfnmaaGreatDoorGA
import Derived.Test.YtgkgpjbbmnfnmaaGreatDoorGH
import Derived.Test.YtgkgpjbbmnfnmaaGreatDoorGK
import Derived.Deep.DeepCutAuto
/- count. -/
namespace Go.Proofs.YtgkgpjbbmnfnmaaGreatDoor
open Go.RowKit
open List (setIfInBounds_toArray set_cons_zero set_cons_succ getElem_toArray getElem_cons_zero getElem_cons_succ)
set_option linter.unusedSimpArgs false
set_option linter.unusedVariables false

/-- What comes of a loop that counts, from its block on. -/
def cnt6 (V : Env) (G : Lev) (ap : Int) (D : List Tr) (q : Nat) : PR Tr := match doS V G q with
 | .error e => .error e
 | .ok (b, w) => .ok (nd 26 (D ++ [b]) ap, w)
def cnt5 (V : Env) (G : Lev) (ap : Int) (D : List Tr) (q : Nat) : PR Tr := match stepS V G q with
 | .error e => .error e
 | .ok (l, v) => cnt6 V G ap (D ++ l) v
def cnt4 (V : Env) (G : Lev) (ap : Int) (D : List Tr) (q : Nat) : PR Tr := match G.above 0 q with
 | .error e => .error e
 | .ok (y, u) => cnt5 V G ap (D ++ [y]) u
def cnt3 (V : Env) (G : Lev) (ap : Int) (D : List Tr) (q : Nat) : PR Tr := match V.need [44] q with
 | .error e => .error e
 | .ok (_, t) => cnt4 V G ap D t
def cnt2 (V : Env) (G : Lev) (ap : Int) (D : List Tr) (q : Nat) : PR Tr := match G.above 0 q with
 | .error e => .error e
 | .ok (y, u) => cnt3 V G ap (D ++ [y]) u
def cnt1 (V : Env) (G : Lev) (ap : Int) (D : List Tr) (q : Nat) : PR Tr := match V.need [61] q with
 | .error e => .error e
 | .ok (_, t) => cnt2 V G ap D t
def cnt0 (V : Env) (G : Lev) (ap : Int) (D : List Tr) (q : Nat) : PR Tr := match V.name q with
 | .error e => .error e
 | .ok (n, u) => cnt1 V G ap (D ++ [n]) u
theorem count_cnt (V : Env) (G : Lev) (p : Nat) : countS V G p = cnt0 V G (V.at p) [] (p + 1) := by
 unfold countS cnt0
 cases V.name (p + 1) with
 | error e => rfl
 | ok z =>
  obtain ⟨n, q⟩ := z
  dsimp only
  unfold cnt1
  cases V.need [61] q with
  | error e => rfl
  | ok z =>
   obtain ⟨_, r⟩ := z
   dsimp only
   unfold cnt2
   cases G.above 0 r with
   | error e => rfl
   | ok z =>
    obtain ⟨x, s⟩ := z
    dsimp only
    unfold cnt3
    cases V.need [44] s with
    | error e => rfl
    | ok z =>
     obtain ⟨_, t⟩ := z
     dsimp only
     unfold cnt4
     cases G.above 0 t with
     | error e => rfl
     | ok z =>
      obtain ⟨y, u⟩ := z
      dsimp only
      unfold cnt5
      cases stepS V G u with
      | error e => rfl
      | ok z =>
       obtain ⟨l, v⟩ := z
       dsimp only
       unfold cnt6
       cases doS V G v with
       | error e => rfl
       | ok z => rfl
set_option maxRecDepth 20000 in
set_option maxHeartbeats 16000000 in
theorem count_any {w : World} {c : Nat} {V : Env} {p : Nat} {G : Lev} {l : Nat} (hG : LevIs V G (l + 1)) (hl : l ≤ 40) (h : Ps w c V p) (hp : p < V.L.length) :
  Calls Tryz.prog 139 #[.pointer (some ⟨c, 0, none⟩), .int .i64 (l : Int)] w (PRes c V w (countS V G p)) := by
 obtain ⟨W0, HW0⟩ : ∃ W0, Hid (w.alloc (nb nz) = W0) := ⟨_, show _ = _ from rfl⟩
 have HS0 : Hid (Sx w c V p (.mk 0 ⟨#[]⟩ 0 0 0 [] 0) nz W0) := by
  have ka : Kept No w W0 := by rw [← HW0.out]; exact (Kept.refl No w).alloc _
  exact ⟨ka.no, h.no ka, by rw [← HW0.out]; exact World.alloc_heap_new w _, leaf_is _ _ _ _ _ _ _ _⟩
 have hcl := h.lt
 have hle := hG.le
 have HEx : Hid (∀ {w' : World} {q : Nat}, Ps w' c V q → Calls Tryz.prog 163 #[.pointer (some ⟨c, 0, none⟩), .int .i64 ((l : Int) + 1)] w' (PRes c V w' (G.above 0 q))) := fun hq => by
  have := expr_any hG hq
  rw [show ((l + 1 : Nat) : Int) = (l : Int) + 1 by omega] at this
  exact this
 have HDo : Hid (∀ {w' : World} {q : Nat}, Ps w' c V q → Calls Tryz.prog 140 #[.pointer (some ⟨c, 0, none⟩), .int .i64 (l : Int)] w' (PRes c V w' (doS V G q))) := fun hq => doBlock_any hG hq
 obtain ⟨ap, Hap⟩ : ∃ ap, Hid (V.at p = ap) := ⟨_, show _ = _ from rfl⟩
 obtain ⟨RR, HRR⟩ : ∃ RR, Hid (RR = countS V G p) := ⟨_, show _ = _ from rfl⟩
 rw [← HRR.out]
 rw [count_cnt, Hap.out] at HRR
 have HTk : Hid _ := take_any HS0.out.ps hp
 obtain ⟨x, HX⟩ : ∃ x, Hid (V.tk p = x) := ⟨_, show _ = _ from rfl⟩
 have ea : ap = x.a := by rw [← Hap.out]; unfold Env.at; rw [HX.out]
 rw [HX.out] at HTk
 have fa := fun w => fd45a x w
 have u1 : IntKind.i64.wrap ((l : Int) + 1) = (l : Int) + 1 := by rw [IntKind.wrap_i64]; omega
 obtain ⟨zk, zt, zvt, zvn, zsy, za, ze⟩ := x
 dsimp only at fa ea
 subst ea
 unfold nb nz ncs at HW0
 clear h hG
 go_enter Tryz.func139, Tryz.ntmps139
 go_wp2_with fail
 rw [HW0.out]
 clear HW0
 refine Calls.mono HTk.out ?_
 rintro r W1 ⟨rfl, hk1, hp1⟩
 have HS1 : Hid (Sx w c V (p + 1) (.mk 0 ⟨#[]⟩ 0 0 0 [] 0) nz W1) := HS0.out.go hcl hk1 hp1
 obtain ⟨W4, HW4⟩ : ∃ W4, Hid (W4 = W1.alloc (nb (ncs 26 ⟨#[]⟩ 0 0 0 (.slice none 0 0) ap))) := ⟨_, show _ = _ from rfl⟩
 have ka : Kept No W1 W4 := by rw [HW4.out]; exact (Kept.refl No W1).alloc _
 obtain ⟨T, HT⟩ : ∃ T, Hid (W1.heap.size = T) := ⟨_, show _ = _ from rfl⟩
 have hz1 := hp_lt HS1.out.box
 have hRT : w.heap.size + 1 ≤ T := by have := HT.out; omega
 obtain ⟨D, hD⟩ : ∃ D : List Tr, D = [] := ⟨_, rfl⟩
 rw [← hD] at HRR
 obtain ⟨q, hq⟩ : ∃ q, q = p + 1 := ⟨_, rfl⟩
 rw [← hq] at HRR
 obtain ⟨sv, hsv⟩ : ∃ sv : Value, sv = (.slice none 0 0) := ⟨_, rfl⟩
 have HF4 : Hid (FTs 26 ap c T V w W4 q sv D) := by
  have hT2 : W4.heap[T]? = some (nb (ncs 26 ⟨#[]⟩ 0 0 0 (.slice none 0 0) ap)) := by rw [HW4.out, ← HT.out]; exact World.alloc_heap_new W1 _
  rw [hsv, hD, hq]
  exact ⟨hp_lt hT2, (HS1.out.no ka).kept, (HS1.out.no ka).ps, (HS1.out.no ka).box, hT2, Bld.nil _ _⟩
 have hDl : D.length ≤ 0 := by rw [hD]; simp
 unfold nb ncs at HW4
 clear hk1 hp1 HTk HS0 HS1 ka hz1 hD hq hsv
 unfold tv
 dsimp only
 go_upto_region 2 with (first | rw [← HW4.out])
 try rw [HT.out]
 clear HW4 HT
 have HIt : Hid (∀ {w' : World}, Ps w' c V q → Calls Tryz.prog 167 #[.pointer (some ⟨c, 0, none⟩)] w' (PRes c V w' (V.name q))) := fun hq => pname_any hq
 go_upto_region 2 with fail
 go_cut [] (fun wx => ∃ (D' : List Tr) (q1 : Nat) (sv' : Value), D'.length ≤ 1 ∧ Hid (RR = cnt1 V G ap D' q1) ∧ Hid (FTs 26 ap c T V w wx q1 sv' D'))
 case first =>
  refine appS (n := 7) (ft_drew HF4.out (by omega)) (fun W4' HF3 hSS => ?_)
  have HF3 : Hid _ := HF3
  try simp only [Act.put, setIfInBounds_toArray, set_cons_zero, set_cons_succ, getElem_toArray, getElem_cons_zero, getElem_cons_succ]
  clear HF4
  refine tkU 2 (.pointer (some ⟨c, 0, none⟩)) rfl hSS ?_
  try simp only [Act.put, setIfInBounds_toArray, set_cons_zero, set_cons_succ, getElem_toArray, getElem_cons_zero, getElem_cons_succ]
  have HE1 := HIt.out HF3.out.2.2.1
  refine rdU 3 rfl (fun K hK => ?_)
  go_simp
  cases hit : V.name q with
  | error e =>
   obtain ⟨a, x'⟩ := e
   rw [hit] at HE1
   have HE : Hid _ := HE1
   have HRe : Hid (RR = .error (a, x')) := by show _ = _; rw [HRR.out]; unfold cnt0; rw [hit]
   clear HE1 hit HRR
   refine Calls.mono HE.out ?_
   rintro r W5 ⟨hk5, rfl⟩
   have HK5 : Hid (Kept (fun b => b = c) w W5) := HF3.out.2.1.trans hk5
   clear hk5 HE HF3
   try go_wp2_with fail
   refine ⟨rfl, ?_⟩
   show PRes c V w RR _ _
   rw [HRe.out]
   exact ⟨HK5.out, rfl⟩
  | ok y =>
   obtain ⟨y0, q1⟩ := y
   rw [hit] at HE1
   have HRe : Hid (RR = cnt1 V G ap (D ++ [y0]) q1) := by show _ = _; rw [HRR.out]; unfold cnt0; rw [hit]
   have HE : Hid _ := HE1
   clear HE1 hit HRR
   refine Calls.mono HE.out ?_
   rintro r W5 ⟨hk5, ⟨cs, rfl, hy⟩, hp5⟩
   have HF5 : Hid _ := ft_call HF3.out hk5 hp5 hy (by omega) (by omega) (by omega)
   clear hy hk5 hp5 HE HF3
   refine hK.out _ _ (fun _ => (nb_cells HF5.out.1.2.2.2.2.1).2.2.2.2.2.1) ?_
   clear hK K
   try simp only [Act.put, setIfInBounds_toArray, set_cons_zero, set_cons_succ, getElem_toArray, getElem_cons_zero, getElem_cons_succ]
   refine appT 4 HF5.out (by omega) (by omega) (by omega) (fun ao3 ln3 cp3 W7 HF7 => ?_)
   have HF7 : Hid _ := HF7
   clear HF5
   try simp only [Act.put, setIfInBounds_toArray, set_cons_zero, set_cons_succ, getElem_toArray, getElem_cons_zero, getElem_cons_succ]
   go_wp2_with fail
   go_meet
   exact ⟨D ++ [y0], q1, _, by rw [List.length_append]; show D.length + 1 ≤ _; omega, HRe, HF7⟩
 case rest =>
 obtain ⟨D1, q1, sv1, hDl1, HRR1, HF41⟩ := hcut
 clear HF4 HRR hDl HIt
 obtain ⟨D, hD⟩ : ∃ D, D = D1 := ⟨_, rfl⟩
 subst hD
 obtain ⟨q, hq⟩ : ∃ q, q = q1 := ⟨_, rfl⟩
 subst hq
 obtain ⟨sv, hsv⟩ : ∃ sv, sv = sv1 := ⟨_, rfl⟩
 subst hsv
 obtain ⟨W4, hW4⟩ : ∃ W4, W4 = wc := ⟨_, rfl⟩
 subst hW4
 have HF4 := HF41
 have HRR := HRR1
 have hDl := hDl1
 clear HF41 HRR1 hDl1
 obtain ⟨bn, Hbn⟩ : ∃ bn, Hid (V.is [61] q = bn) := ⟨_, show _ = _ from rfl⟩
 cases bn with
 | false =>
  have HN : Hid (Calls Tryz.prog 166 #[.pointer (some ⟨c, 0, none⟩), .string ⟨#[61]⟩] W4 fun r w' => r = stopW (V.at q) 6 ∧ Kept (fun b => b = c) W4 w') := need_bad HF4.out.2.2.1 ⟨#[61]⟩ (by decide) Hbn.out
  have HRe : Hid (RR = .error (V.at q, 6)) := by show _ = _; rw [HRR.out]; unfold cnt1 Env.need Env.wrong; rw [Hbn.out]; rfl
  go_wp2_with fail
  refine Calls.mono HN.out ?_
  rintro r W5 ⟨rfl, hk5⟩
  have HK5 : Hid (Kept (fun b => b = c) w W5) := HF4.out.2.1.trans hk5
  clear hk5 HN HF4
  go_wp2_with fail
  refine ⟨rfl, ?_⟩
  show PRes c V w RR _ _
  rw [HRe.out]
  exact ⟨HK5.out, rfl⟩
 | true =>
 have HN : Hid (Calls Tryz.prog 166 #[.pointer (some ⟨c, 0, none⟩), .string ⟨#[61]⟩] W4 fun r w' => r = .returned (.tuple #[]) ∧ Kept (fun b => b = c) W4 w' ∧ Ps w' c V (q + 1)) := need_ok HF4.out.2.2.1 ⟨#[61]⟩ (by decide) Hbn.out
 have HRx : Hid (RR = cnt2 V G ap D (q + 1)) := by show _ = _; rw [HRR.out]; unfold cnt1 Env.need; rw [Hbn.out]; rfl
 go_wp2_with fail
 refine Calls.mono HN.out ?_
 rintro r W5 ⟨rfl, hk5, hp5⟩
 have HF5 : Hid (FTs 26 ap c T V w W5 (q + 1) sv D) := ⟨Nat.le_trans HF4.out.1 hk5.size, HF4.out.2.1.trans hk5, hp5, hk5.heap HF4.out.2.2.2.1 (show ¬ w.heap.size = c by omega), hk5.heap HF4.out.2.2.2.2.1 (show ¬ T = c by omega), HF4.out.2.2.2.2.2.go (show c < T + 1 by omega) hk5⟩
 clear hk5 hp5 HN HF4 HRR Hbn
 obtain ⟨W4, hW4⟩ : ∃ W4, W4 = W5 := ⟨_, rfl⟩
 subst hW4
 obtain ⟨q0, hq0⟩ : ∃ q0, q0 = q := ⟨_, rfl⟩
 subst hq0
 obtain ⟨q, hq⟩ : ∃ q, q = q0 + 1 := ⟨_, rfl⟩
 rw [← hq] at HF5 HRx
 have HF4 := HF5
 have HRR := HRx
 clear HF5 HRx
 have HIt : Hid (∀ {w' : World}, Ps w' c V q → Calls Tryz.prog 163 #[.pointer (some ⟨c, 0, none⟩), .int .i64 ((l : Int) + 1)] w' (PRes c V w' (G.above 0 q))) := fun hq => HEx.out hq
 go_upto_region 4 with fail
 go_cut [] (fun wx => ∃ (D' : List Tr) (q1 : Nat) (sv' : Value), D'.length ≤ 2 ∧ Hid (RR = cnt3 V G ap D' q1) ∧ Hid (FTs 26 ap c T V w wx q1 sv' D'))
 case first =>
  refine appS (n := 9) (ft_drew HF4.out (by omega)) (fun W4' HF3 hSS => ?_)
  have HF3 : Hid _ := HF3
  try simp only [Act.put, setIfInBounds_toArray, set_cons_zero, set_cons_succ, getElem_toArray, getElem_cons_zero, getElem_cons_succ]
  clear HF4
  refine tkU 2 (.pointer (some ⟨c, 0, none⟩)) rfl hSS ?_
  try simp only [Act.put, setIfInBounds_toArray, set_cons_zero, set_cons_succ, getElem_toArray, getElem_cons_zero, getElem_cons_succ]
  refine tkU 3 (.int .i64 (l : Int)) rfl hSS ?_
  try simp only [Act.put, setIfInBounds_toArray, set_cons_zero, set_cons_succ, getElem_toArray, getElem_cons_zero, getElem_cons_succ]
  refine tkU 4 (.int .i64 ((l : Int) + 1)) rfl hSS ?_
  try simp only [Act.put, setIfInBounds_toArray, set_cons_zero, set_cons_succ, getElem_toArray, getElem_cons_zero, getElem_cons_succ]
  have HE1 := HIt.out HF3.out.2.2.1
  refine rdU 5 rfl (fun K hK => ?_)
  go_simp
  cases hit : G.above 0 q with
  | error e =>
   obtain ⟨a, x'⟩ := e
   rw [hit] at HE1
   have HE : Hid _ := HE1
   have HRe : Hid (RR = .error (a, x')) := by show _ = _; rw [HRR.out]; unfold cnt2; rw [hit]
   clear HE1 hit HRR
   refine Calls.mono HE.out ?_
   rintro r W5 ⟨hk5, rfl⟩
   have HK5 : Hid (Kept (fun b => b = c) w W5) := HF3.out.2.1.trans hk5
   clear hk5 HE HF3
   try go_wp2_with fail
   refine ⟨rfl, ?_⟩
   show PRes c V w RR _ _
   rw [HRe.out]
   exact ⟨HK5.out, rfl⟩
  | ok y =>
   obtain ⟨y0, q1⟩ := y
   rw [hit] at HE1
   have HRe : Hid (RR = cnt3 V G ap (D ++ [y0]) q1) := by show _ = _; rw [HRR.out]; unfold cnt2; rw [hit]
   have HE : Hid _ := HE1
   clear HE1 hit HRR
   refine Calls.mono HE.out ?_
   rintro r W5 ⟨hk5, ⟨cs, rfl, hy⟩, hp5⟩
   have HF5 : Hid _ := ft_call HF3.out hk5 hp5 hy (by omega) (by omega) (by omega)
   clear hy hk5 hp5 HE HF3
   refine hK.out _ _ (fun _ => (nb_cells HF5.out.1.2.2.2.2.1).2.2.2.2.2.1) ?_
   clear hK K
   try simp only [Act.put, setIfInBounds_toArray, set_cons_zero, set_cons_succ, getElem_toArray, getElem_cons_zero, getElem_cons_succ]
   refine appT 6 HF5.out (by omega) (by omega) (by omega) (fun ao3 ln3 cp3 W7 HF7 => ?_)
   have HF7 : Hid _ := HF7
   clear HF5
   try simp only [Act.put, setIfInBounds_toArray, set_cons_zero, set_cons_succ, getElem_toArray, getElem_cons_zero, getElem_cons_succ]
   go_wp2_with fail
   go_meet
   exact ⟨D ++ [y0], q1, _, by rw [List.length_append]; show D.length + 1 ≤ _; omega, HRe, HF7⟩
 case rest =>
 obtain ⟨D1, q1, sv1, hDl1, HRR1, HF41⟩ := hcut
 clear HF4 HRR hDl HIt
 obtain ⟨D, hD⟩ : ∃ D, D = D1 := ⟨_, rfl⟩
 subst hD
 obtain ⟨q, hq⟩ : ∃ q, q = q1 := ⟨_, rfl⟩
 subst hq
 obtain ⟨sv, hsv⟩ : ∃ sv, sv = sv1 := ⟨_, rfl⟩
 subst hsv
 obtain ⟨W4, hW4⟩ : ∃ W4, W4 = wc := ⟨_, rfl⟩
 subst hW4
 have HF4 := HF41
 have HRR := HRR1
 have hDl := hDl1
 clear HF41 HRR1 hDl1
 obtain ⟨bn, Hbn⟩ : ∃ bn, Hid (V.is [44] q = bn) := ⟨_, show _ = _ from rfl⟩
 cases bn with
 | false =>
  have HN : Hid (Calls Tryz.prog 166 #[.pointer (some ⟨c, 0, none⟩), .string ⟨#[44]⟩] W4 fun r w' => r = stopW (V.at q) 6 ∧ Kept (fun b => b = c) W4 w') := need_bad HF4.out.2.2.1 ⟨#[44]⟩ (by decide) Hbn.out
  have HRe : Hid (RR = .error (V.at q, 6)) := by show _ = _; rw [HRR.out]; unfold cnt3 Env.need Env.wrong; rw [Hbn.out]; rfl
  go_wp2_with fail
  refine Calls.mono HN.out ?_
  rintro r W5 ⟨rfl, hk5⟩
  have HK5 : Hid (Kept (fun b => b = c) w W5) := HF4.out.2.1.trans hk5
  clear hk5 HN HF4
  go_wp2_with fail
  refine ⟨rfl, ?_⟩
  show PRes c V w RR _ _
  rw [HRe.out]
  exact ⟨HK5.out, rfl⟩
 | true =>
 have HN : Hid (Calls Tryz.prog 166 #[.pointer (some ⟨c, 0, none⟩), .string ⟨#[44]⟩] W4 fun r w' => r = .returned (.tuple #[]) ∧ Kept (fun b => b = c) W4 w' ∧ Ps w' c V (q + 1)) := need_ok HF4.out.2.2.1 ⟨#[44]⟩ (by decide) Hbn.out
 have HRx : Hid (RR = cnt4 V G ap D (q + 1)) := by show _ = _; rw [HRR.out]; unfold cnt3 Env.need; rw [Hbn.out]; rfl
 go_wp2_with fail
 refine Calls.mono HN.out ?_
 rintro r W5 ⟨rfl, hk5, hp5⟩
 have HF5 : Hid (FTs 26 ap c T V w W5 (q + 1) sv D) := ⟨Nat.le_trans HF4.out.1 hk5.size, HF4.out.2.1.trans hk5, hp5, hk5.heap HF4.out.2.2.2.1 (show ¬ w.heap.size = c by omega), hk5.heap HF4.out.2.2.2.2.1 (show ¬ T = c by omega), HF4.out.2.2.2.2.2.go (show c < T + 1 by omega) hk5⟩
 clear hk5 hp5 HN HF4 HRR Hbn
 obtain ⟨W4, hW4⟩ : ∃ W4, W4 = W5 := ⟨_, rfl⟩
 subst hW4
 obtain ⟨q0, hq0⟩ : ∃ q0, q0 = q := ⟨_, rfl⟩
 subst hq0
 obtain ⟨q, hq⟩ : ∃ q, q = q0 + 1 := ⟨_, rfl⟩
 rw [← hq] at HF5 HRx
 have HF4 := HF5
 have HRR := HRx
 clear HF5 HRx
 have HIt : Hid (∀ {w' : World}, Ps w' c V q → Calls Tryz.prog 163 #[.pointer (some ⟨c, 0, none⟩), .int .i64 ((l : Int) + 1)] w' (PRes c V w' (G.above 0 q))) := fun hq => HEx.out hq
 go_upto_region 6 with fail
 go_cut [] (fun wx => ∃ (D' : List Tr) (q1 : Nat) (sv' : Value), D'.length ≤ 3 ∧ Hid (RR = cnt5 V G ap D' q1) ∧ Hid (FTs 26 ap c T V w wx q1 sv' D'))
 case first =>
  refine appS (n := 9) (ft_drew HF4.out (by omega)) (fun W4' HF3 hSS => ?_)
  have HF3 : Hid _ := HF3
  try simp only [Act.put, setIfInBounds_toArray, set_cons_zero, set_cons_succ, getElem_toArray, getElem_cons_zero, getElem_cons_succ]
  clear HF4
  refine tkU 2 (.pointer (some ⟨c, 0, none⟩)) rfl hSS ?_
  try simp only [Act.put, setIfInBounds_toArray, set_cons_zero, set_cons_succ, getElem_toArray, getElem_cons_zero, getElem_cons_succ]
  refine tkU 3 (.int .i64 (l : Int)) rfl hSS ?_
  try simp only [Act.put, setIfInBounds_toArray, set_cons_zero, set_cons_succ, getElem_toArray, getElem_cons_zero, getElem_cons_succ]
  refine tkU 4 (.int .i64 ((l : Int) + 1)) rfl hSS ?_
  try simp only [Act.put, setIfInBounds_toArray, set_cons_zero, set_cons_succ, getElem_toArray, getElem_cons_zero, getElem_cons_succ]
  have HE1 := HIt.out HF3.out.2.2.1
  refine rdU 5 rfl (fun K hK => ?_)
  go_simp
  cases hit : G.above 0 q with
  | error e =>
   obtain ⟨a, x'⟩ := e
   rw [hit] at HE1
   have HE : Hid _ := HE1
   have HRe : Hid (RR = .error (a, x')) := by show _ = _; rw [HRR.out]; unfold cnt4; rw [hit]
   clear HE1 hit HRR
   refine Calls.mono HE.out ?_
   rintro r W5 ⟨hk5, rfl⟩
   have HK5 : Hid (Kept (fun b => b = c) w W5) := HF3.out.2.1.trans hk5
   clear hk5 HE HF3
   try go_wp2_with fail
   refine ⟨rfl, ?_⟩
   show PRes c V w RR _ _
   rw [HRe.out]
   exact ⟨HK5.out, rfl⟩
  | ok y =>
   obtain ⟨y0, q1⟩ := y
   rw [hit] at HE1
   have HRe : Hid (RR = cnt5 V G ap (D ++ [y0]) q1) := by show _ = _; rw [HRR.out]; unfold cnt4; rw [hit]
   have HE : Hid _ := HE1
   clear HE1 hit HRR
   refine Calls.mono HE.out ?_
   rintro r W5 ⟨hk5, ⟨cs, rfl, hy⟩, hp5⟩
   have HF5 : Hid _ := ft_call HF3.out hk5 hp5 hy (by omega) (by omega) (by omega)
   clear hy hk5 hp5 HE HF3
   refine hK.out _ _ (fun _ => (nb_cells HF5.out.1.2.2.2.2.1).2.2.2.2.2.1) ?_
   clear hK K
   try simp only [Act.put, setIfInBounds_toArray, set_cons_zero, set_cons_succ, getElem_toArray, getElem_cons_zero, getElem_cons_succ]
   refine appT 6 HF5.out (by omega) (by omega) (by omega) (fun ao3 ln3 cp3 W7 HF7 => ?_)
   have HF7 : Hid _ := HF7
   clear HF5
   try simp only [Act.put, setIfInBounds_toArray, set_cons_zero, set_cons_succ, getElem_toArray, getElem_cons_zero, getElem_cons_succ]
   go_wp2_with fail
   go_meet
   exact ⟨D ++ [y0], q1, _, by rw [List.length_append]; show D.length + 1 ≤ _; omega, HRe, HF7⟩
 case rest =>
 obtain ⟨D1, q1, sv1, hDl1, HRR1, HF41⟩ := hcut
 clear HF4 HRR hDl HIt
 obtain ⟨D, hD⟩ : ∃ D, D = D1 := ⟨_, rfl⟩
 subst hD
 obtain ⟨q, hq⟩ : ∃ q, q = q1 := ⟨_, rfl⟩
 subst hq
 obtain ⟨sv, hsv⟩ : ∃ sv, sv = sv1 := ⟨_, rfl⟩
 subst hsv
 obtain ⟨W4, hW4⟩ : ∃ W4, W4 = wc := ⟨_, rfl⟩
 subst hW4
 have HF4 := HF41
 have HRR := HRR1
 have hDl := hDl1
 clear HF41 HRR1 hDl1
 obtain ⟨b2, Hb2⟩ : ∃ b2, Hid (V.is [44] q = b2) := ⟨_, show _ = _ from rfl⟩
 have HTo : Hid (Calls Tryz.prog 98 #[.pointer (some ⟨c, 0, none⟩), .string ⟨#[44]⟩] W4 fun r w' => r = .returned (.bool b2) ∧ Kept (fun b => b = c) W4 w' ∧ Ps w' c V (if b2 then q + 1 else q)) := by
  have := took_any HF4.out.2.2.1 ⟨#[44]⟩ (by decide)
  rw [show V.is (⟨#[44]⟩ : ByteArray).data.toList q = b2 from Hb2.out] at this
  exact this
 go_wp2_with fail
 refine Calls.mono HTo.out ?_
 rintro r W5 ⟨rfl, hk5, hp5⟩
 have HF5 : Hid (FTs 26 ap c T V w W5 _ sv D) := ⟨Nat.le_trans HF4.out.1 hk5.size, HF4.out.2.1.trans hk5, hp5, hk5.heap HF4.out.2.2.2.1 (show ¬ w.heap.size = c by omega), hk5.heap HF4.out.2.2.2.2.1 (show ¬ T = c by omega), HF4.out.2.2.2.2.2.go (show c < T + 1 by omega) hk5⟩
 clear hk5 hp5 HTo HF4
 go_upto_if 44 with fail
 go_cut [] (fun wx => ∃ (D' : List Tr) (q1 : Nat) (sv' : Value), D'.length ≤ 4 ∧ Hid (RR = cnt6 V G ap D' q1) ∧ Hid (FTs 26 ap c T V w wx q1 sv' D'))
 case first =>
  cases b2 with
  | true =>
   have HRx : Hid (RR = match G.above 0 (q + 1) with | .error e => .error e | .ok (y, u) => cnt6 V G ap (D ++ [y]) u) := by
    show _ = _; rw [HRR.out]; unfold cnt5 stepS; rw [Hb2.out, if_pos rfl]
    cases G.above 0 (q + 1) with
    | error e => rfl
    | ok z => rfl
   have HF4 : Hid (FTs 26 ap c T V w W5 (q + 1) sv D) := HF5.out
   clear HF5 HRR Hb2
   obtain ⟨q0, hq0⟩ : ∃ q0, q0 = q := ⟨_, rfl⟩
   subst hq0
   obtain ⟨q, hq⟩ : ∃ q, q = q0 + 1 := ⟨_, rfl⟩
   rw [← hq] at HF4 HRx
   have HRR := HRx
   clear HRx
   obtain ⟨W4, hW4⟩ : ∃ W4, W4 = W5 := ⟨_, rfl⟩
   subst hW4
   have HIt : Hid (∀ {w' : World}, Ps w' c V q → Calls Tryz.prog 163 #[.pointer (some ⟨c, 0, none⟩), .int .i64 ((l : Int) + 1)] w' (PRes c V w' (G.above 0 q))) := fun hq => HEx.out hq
   go_wp2_with fail
   refine appS (n := 9) (ft_drew HF4.out (by omega)) (fun W4' HF3 hSS => ?_)
   have HF3 : Hid _ := HF3
   try simp only [Act.put, setIfInBounds_toArray, set_cons_zero, set_cons_succ, getElem_toArray, getElem_cons_zero, getElem_cons_succ]
   clear HF4
   refine tkU 2 (.pointer (some ⟨c, 0, none⟩)) rfl hSS ?_
   try simp only [Act.put, setIfInBounds_toArray, set_cons_zero, set_cons_succ, getElem_toArray, getElem_cons_zero, getElem_cons_succ]
   refine tkU 3 (.int .i64 (l : Int)) rfl hSS ?_
   try simp only [Act.put, setIfInBounds_toArray, set_cons_zero, set_cons_succ, getElem_toArray, getElem_cons_zero, getElem_cons_succ]
   refine tkU 4 (.int .i64 ((l : Int) + 1)) rfl hSS ?_
   try simp only [Act.put, setIfInBounds_toArray, set_cons_zero, set_cons_succ, getElem_toArray, getElem_cons_zero, getElem_cons_succ]
   have HE1 := HIt.out HF3.out.2.2.1
   refine rdU 5 rfl (fun K hK => ?_)
   go_simp
   cases hit : G.above 0 q with
   | error e =>
    obtain ⟨a, x'⟩ := e
    rw [hit] at HE1
    have HE : Hid _ := HE1
    have HRe : Hid (RR = .error (a, x')) := by show _ = _; rw [HRR.out, hit]
    clear HE1 hit HRR
    refine Calls.mono HE.out ?_
    rintro r W5 ⟨hk5, rfl⟩
    have HK5 : Hid (Kept (fun b => b = c) w W5) := HF3.out.2.1.trans hk5
    clear hk5 HE HF3
    try go_wp2_with fail
    refine ⟨rfl, ?_⟩
    show PRes c V w RR _ _
    rw [HRe.out]
    exact ⟨HK5.out, rfl⟩
   | ok y =>
    obtain ⟨y0, q1⟩ := y
    rw [hit] at HE1
    have HRe : Hid (RR = cnt6 V G ap (D ++ [y0]) q1) := by show _ = _; rw [HRR.out, hit]
    have HE : Hid _ := HE1
    clear HE1 hit HRR
    refine Calls.mono HE.out ?_
    rintro r W5 ⟨hk5, ⟨cs, rfl, hy⟩, hp5⟩
    have HF5 : Hid _ := ft_call HF3.out hk5 hp5 hy (by omega) (by omega) (by omega)
    clear hy hk5 hp5 HE HF3
    refine hK.out _ _ (fun _ => (nb_cells HF5.out.1.2.2.2.2.1).2.2.2.2.2.1) ?_
    clear hK K
    try simp only [Act.put, setIfInBounds_toArray, set_cons_zero, set_cons_succ, getElem_toArray, getElem_cons_zero, getElem_cons_succ]
    refine appT 6 HF5.out (by omega) (by omega) (by omega) (fun ao3 ln3 cp3 W7 HF7 => ?_)
    have HF7 : Hid _ := HF7
    clear HF5
    try simp only [Act.put, setIfInBounds_toArray, set_cons_zero, set_cons_succ, getElem_toArray, getElem_cons_zero, getElem_cons_succ]
    go_wp2_with fail
    go_meet
    exact ⟨D ++ [y0], q1, _, by rw [List.length_append]; show D.length + 1 ≤ _; omega, HRe, HF7⟩
  | false =>
   have HRe : Hid (RR = cnt6 V G ap D q) := by
    show _ = _; rw [HRR.out]; unfold cnt5 stepS; rw [Hb2.out, if_neg (by decide)]; simp
   go_wp2_with fail
   go_meet
   exact ⟨D, q, _, by omega, HRe, HF5⟩
 case rest =>
 obtain ⟨D1, q1, sv1, hDl1, HRR1, HF41⟩ := hcut
 clear HF5 HRR hDl Hb2
 obtain ⟨D, hD⟩ : ∃ D, D = D1 := ⟨_, rfl⟩
 subst hD
 obtain ⟨q, hq⟩ : ∃ q, q = q1 := ⟨_, rfl⟩
 subst hq
 obtain ⟨sv, hsv⟩ : ∃ sv, sv = sv1 := ⟨_, rfl⟩
 subst hsv
 obtain ⟨W4, hW4⟩ : ∃ W4, W4 = wc := ⟨_, rfl⟩
 subst hW4
 have HF4 := HF41
 have HRR := HRR1
 have hDl := hDl1
 clear HF41 HRR1 hDl1
 have HIt : Hid (∀ {w' : World}, Ps w' c V q → Calls Tryz.prog 140 #[.pointer (some ⟨c, 0, none⟩), .int .i64 (l : Int)] w' (PRes c V w' (doS V G q))) := fun hq => HDo.out hq
 go_wp2_with fail
 refine appS (n := 8) (ft_drew HF4.out (by omega)) (fun W4' HF3 hSS => ?_)
 have HF3 : Hid _ := HF3
 try simp only [Act.put, setIfInBounds_toArray, set_cons_zero, set_cons_succ, getElem_toArray, getElem_cons_zero, getElem_cons_succ]
 clear HF4
 refine tkU 2 (.pointer (some ⟨c, 0, none⟩)) rfl hSS ?_
 try simp only [Act.put, setIfInBounds_toArray, set_cons_zero, set_cons_succ, getElem_toArray, getElem_cons_zero, getElem_cons_succ]
 refine tkU 3 (.int .i64 (l : Int)) rfl hSS ?_
 try simp only [Act.put, setIfInBounds_toArray, set_cons_zero, set_cons_succ, getElem_toArray, getElem_cons_zero, getElem_cons_succ]
 have HE1 := HIt.out HF3.out.2.2.1
 refine rdU 4 rfl (fun K hK => ?_)
 go_simp
 cases hit : doS V G q with
 | error e =>
  obtain ⟨a, x'⟩ := e
  rw [hit] at HE1
  have HE : Hid _ := HE1
  have HRe : Hid (RR = .error (a, x')) := by show _ = _; rw [HRR.out]; unfold cnt6; rw [hit]
  clear HE1 hit HRR
  refine Calls.mono HE.out ?_
  rintro r W5 ⟨hk5, rfl⟩
  have HK5 : Hid (Kept (fun b => b = c) w W5) := HF3.out.2.1.trans hk5
  clear hk5 HE HF3
  try go_wp2_with fail
  refine ⟨rfl, ?_⟩
  show PRes c V w RR _ _
  rw [HRe.out]
  exact ⟨HK5.out, rfl⟩
 | ok y =>
  obtain ⟨y0, q1⟩ := y
  rw [hit] at HE1
  have HRe : Hid (RR = .ok (nd 26 (D ++ [y0]) ap, q1)) := by show _ = _; rw [HRR.out]; unfold cnt6; rw [hit]
  have HE : Hid _ := HE1
  clear HE1 hit HRR
  refine Calls.mono HE.out ?_
  rintro r W5 ⟨hk5, ⟨cs, rfl, hy⟩, hp5⟩
  have HF5 : Hid _ := ft_call HF3.out hk5 hp5 hy (by omega) (by omega) (by omega)
  clear hy hk5 hp5 HE HF3
  refine hK.out _ _ (fun _ => (nb_cells HF5.out.1.2.2.2.2.1).2.2.2.2.2.1) ?_
  clear hK K
  try simp only [Act.put, setIfInBounds_toArray, set_cons_zero, set_cons_succ, getElem_toArray, getElem_cons_zero, getElem_cons_succ]
  refine appT 5 HF5.out (by omega) (by omega) (by omega) (fun ao3 ln3 cp3 W7 HF7 => ?_)
  have HF7 : Hid _ := HF7
  clear HF5
  try simp only [Act.put, setIfInBounds_toArray, set_cons_zero, set_cons_succ, getElem_toArray, getElem_cons_zero, getElem_cons_succ]
  have hR9 := HF7.out.2.2.2.1
  have hT9 := HF7.out.2.2.2.2.1
  have HF9 : Hid (ListIs (fun b => b < T + 1) _ (D ++ [y0]) (.slice ao3 ln3 cp3)) := HF7.out.2.2.2.2.2.list
  obtain ⟨r0, r1, r2, r3, r4, r5, r6⟩ := nb_cells hR9
  have rf := fun o => nb_frozen hR9 o
  obtain ⟨t0', t1', t2', t3', t4', t5', t6'⟩ := nb_cells hT9
  have n1 : w.heap.size ≠ T := by omega
  obtain ⟨ao, ln, cp, hsv⟩ := slice_of HF9.out
  rw [hsv] at t5' HF9
  clear hR9 hT9 hsv
  go_wp2_with fail
  refine bodyPost_ret (v := .agg (ncs 26 ⟨#[]⟩ 0 0 0 (.slice ao ln cp) ap).toArray) (by simp [results, Tryz.results139, go_sem, ncs, r0, r1, r2, r3, r4, r5, r6, t0', t1', t2', t3', t4', t5', t6', n1]) rfl ?_
  show PRes c V w RR _ _
  rw [HRe.out]
  have HS7 := Sx.put (k := 26) (t := ⟨#[]⟩) (vt := 0) (vn := 0) (m := 0) (a := ap) hcl HF7.out.2.1 HF7.out.2.2.1 HF7.out.2.2.2.1 rfl (ListIs.mono (fun b (hb : b ≤ w.heap.size) => by show b < T + 1; omega) HF9.out) rfl
  exact ⟨HS7.kept, ⟨_, rfl, NodeIs.mono (fun b (hb : b < w.heap.size) => Nat.le_of_lt hb) _ _ HS7.node⟩, HS7.ps⟩
end Go.Proofs.YtgkgpjbbmnfnmaaGreatDoor
