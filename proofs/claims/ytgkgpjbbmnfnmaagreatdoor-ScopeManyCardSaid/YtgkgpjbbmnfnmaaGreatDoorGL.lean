/- Joined: TW TX TY TZ. -/
import Derived.Test.YtgkgpjbbmnfnmaaGreatDoorRV
import Derived.Test.YtgkgpjbbmnfnmaaGreatDoorGA
import Derived.Test.YtgkgpjbbmnfnmaaGreatDoorTV
import Derived.Defers
import Derived.Recover
/- A call or an assignment. -/
namespace Go.Proofs.YtgkgpjbbmnfnmaaGreatDoor
open Go.RowKit
open List (setIfInBounds_toArray set_cons_zero set_cons_succ getElem_toArray getElem_cons_zero getElem_cons_succ)
set_option linter.unusedSimpArgs false
set_option linter.unusedVariables false

/-- An assignment, from its values on; from its sign on; its targets known. -/
def caN (V : Env) (G : Lev) (ap : Int) (D : List Tr) (q : Nat) : PR Tr := match V.need [61] q with
 | .error e => .error e
 | .ok (_, s) => match listE V G s with
  | .error e => .error e
  | .ok (m, t) => .ok (.mk 22 ⟨#[]⟩ 0 0 (D.length : Int) (D ++ m) ap, t)
def caT (V : Env) (G : Lev) (ap : Int) (R : PR (List Tr)) : PR Tr := match R with
 | .error e => .error e
 | .ok (D, r) => caN V G ap D r
def ca1 (V : Env) (G : Lev) (ap : Int) (n : Tr) (g : Bool) (q : Nat) : PR Tr :=
 if n.k == 11 && !g then .ok (nd 23 [n] ap, q) else if isTarget n g then caT V G ap (prep [n] (targets V G (V.L.length + 1) q)) else .error (V.at q, 6)
def ca0 (V : Env) (G : Lev) (ap : Int) (R : PR (Tr × Bool)) : PR Tr := match R with
 | .error e => .error e
 | .ok ((n, g), q) => ca1 V G ap n g q
theorem call_ca (V : Env) (G : Lev) (p : Nat) : callOrAssignS V G p = if !V.isName p && !V.is [40] p then .error (V.at p, 6) else ca0 V G (V.at p) (G.suff p) := by
 unfold callOrAssignS Env.wrong
 split
 ·rfl
 unfold ca0
 cases G.suff p with
 | error e => rfl
 | ok z =>
  obtain ⟨⟨n, g⟩, q⟩ := z
  dsimp only
  unfold ca1
  split
  ·rfl
  split
  ·unfold caT
   cases targets V G (V.L.length + 1) q with
   | error e => rfl
   | ok z =>
    obtain ⟨l, r⟩ := z
    simp only [prep]
    unfold caN
    cases V.need [61] r with
    | error e => rfl
    | ok z =>
     obtain ⟨_, s⟩ := z
     dsimp only
     cases listE V G s with
     | error e => rfl
     | ok z =>
      obtain ⟨m, t⟩ := z
      dsimp only
      simp
  ·rfl
/-- A round of the targets. -/
def caR (V : Env) (G : Lev) (f : Nat) (D : List Tr) (q : Nat) : PR (List Tr) := match G.suff q with
 | .error e => .error e
 | .ok ((n, g), r) => if isTarget n g then prep (D ++ [n]) (targets V G f r) else V.wrong r
theorem prep_caR (V : Env) (G : Lev) (f : Nat) (D : List Tr) (q : Nat) : prep D (targets V G (f + 1) q) = if V.is [44] q then caR V G f D (q + 1) else .ok (D, q) := by
 unfold targets
 split
 ·unfold caR
  cases G.suff (q + 1) with
  | error e => rfl
  | ok z =>
   obtain ⟨⟨n, g⟩, r⟩ := z
   dsimp only
   split
   ·cases targets V G f r with
    | error e => rfl
    | ok z => simp [prep]
   ·rfl
 ·simp [prep]
/-- A row of one tree. -/
theorem one_list {S : Nat → Prop} {w : World} {x : Tr} {cs : List Value} (hx : NodeIs S w x cs) (hS : ¬ S w.heap.size) : ListIs S (w.alloc (nb cs)) [x] (.slice (some ⟨w.heap.size, 0, none⟩) 1 1) := by
 have hk : Kept No w (w.alloc (nb cs)) := (Kept.refl No w).alloc _
 refine .inr ⟨w.heap.size, 0, 1, rfl, hS, by simp, ?_⟩
 unfold RowAt
 refine ⟨⟨cs, NodeIs.kept hk.no _ _ hx, fun i hi => ?_⟩, by unfold RowAt; trivial⟩
 have hb : (w.alloc (nb cs)).heap[w.heap.size]? = some (nb cs) := World.alloc_heap_new w _
 unfold nb at hb ⊢
 rw [cell_of hb]
 simp
/-- An append of a list, in the text's order. -/
theorem wpList_app_listZ {ops : Array Oper} {rest : List Oper} {o : Oper} {a : Act} {w : World} {Q : Exit → Act → World → Prop} (hgd : o.guard = none) (s x : Operand) (ho : o.op = .call { callee := .builtin .append, args := #[s, x], argTypes := #[41, 41] })
  {Z : Nat → Prop} {B : Nat} {v xv : Value} {l m : List Tr} (hs : a.eval s = v) (hx : a.eval x = xv) (hb : BldZ Z B w v l) (hm : ListIs (OutZ Z B v) w m xv) (hl : l.length ≤ 10000) (hml : m.length ≤ 10000) (hB : B ≤ w.heap.size) (hZ : ∀ b, Z b → b < w.heap.size)
  (h : ∀ v' w', BldZ Z B w' v' (l ++ m) → w.grownBy w' v.ownBlock → (∃ ao n cap, v' = .slice ao n cap) → wpList Tryz.prog ops Q rest (a.put o.dst v') w') : wpList Tryz.prog ops Q (o :: rest) a w := by
 refine wpList_plain hgd fun K hK => ?_
 exact app_listZ s x ho hs hx hb hm hl hml hB hZ (fun v' w' h1 h2 h3 => hK _ _ (h v' w' h1 h2 h3))

set_option maxRecDepth 20000 in
set_option maxHeartbeats 16000000 in
theorem callOrAssign_any {w : World} {c : Nat} {V : Env} {p : Nat} {G : Lev} {l : Nat} (hG : LevIs V G (l + 1)) (hl : l ≤ 40) (h : Ps w c V p) :
  Calls Tryz.prog 141 #[.pointer (some ⟨c, 0, none⟩), .int .i64 (l : Int)] w (PRes c V w (callOrAssignS V G p)) := by
 obtain ⟨W0, HW0⟩ : ∃ W0, Hid (w.alloc (nb nz) = W0) := ⟨_, show _ = _ from rfl⟩
 have HS0 : Hid (Sx w c V p (.mk 0 ⟨#[]⟩ 0 0 0 [] 0) nz W0) := by
  have ka : Kept No w W0 := by rw [← HW0.out]; exact (Kept.refl No w).alloc _
  exact ⟨ka.no, h.no ka, by rw [← HW0.out]; exact World.alloc_heap_new w _, leaf_is _ _ _ _ _ _ _ _⟩
 have hcl := h.lt
 have hlen := h.len
 have hle := hG.le
 have HSu : Hid (∀ {w' : World} {q : Nat}, Ps w' c V q → Calls Tryz.prog 169 #[.pointer (some ⟨c, 0, none⟩), .int .i64 ((l : Int) + 1)] w' (PResB c V w' (G.suff q))) := fun hq => by
  have := hG.suff hq
  rw [show ((l + 1 : Nat) : Int) = (l : Int) + 1 by omega] at this
  exact this
 have HLi : Hid (∀ {w' : World} {q : Nat}, Ps w' c V q → Calls Tryz.prog 134 #[.pointer (some ⟨c, 0, none⟩), .int .i64 ((l : Int) + 1)] w' (PResL c V w' (listE V G q))) := fun hq => by
  have := list_any hG hq
  rw [show ((l + 1 : Nat) : Int) = (l : Int) + 1 by omega] at this
  exact this
 have HLf : Hid (∀ p l q, listE V G p = .ok (l, q) → l.length ≤ 10000) := fun p l q h => by
  have h1 := sep_le (hG.go.above 0) _ _ _ _ h
  have h2 := (listE_go hG.go _ _ _ h).2
  omega
 have HGs : Hid (∀ q x r, G.suff q = .ok (x, r) → q < r ∧ r ≤ V.L.length) := fun q x r h => hG.go.suff _ _ _ h
 obtain ⟨ap, Hap⟩ : ∃ ap, Hid (V.at p = ap) := ⟨_, show _ = _ from rfl⟩
 obtain ⟨b1, Hb1⟩ : ∃ b1, Hid (V.isName p = b1) := ⟨_, show _ = _ from rfl⟩
 obtain ⟨b2, Hb2⟩ : ∃ b2, Hid (V.is [40] p = b2) := ⟨_, show _ = _ from rfl⟩
 obtain ⟨RR, HRd⟩ : ∃ RR, Hid (callOrAssignS V G p = RR) := ⟨_, show _ = _ from rfl⟩
 rw [HRd.out]
 rw [call_ca, Hap.out, Hb1.out, Hb2.out] at HRd
 have HNa : Hid _ := isName_any HS0.out.ps
 rw [Hb1.out] at HNa
 have u1 : IntKind.i64.wrap ((l : Int) + 1) = (l : Int) + 1 := by rw [IntKind.wrap_i64]; omega
 have hz0 := hp_lt HS0.out.box
 unfold nb nz ncs at HW0
 clear h hG
 go_enter Tryz.func141, Tryz.ntmps141
 go_upto_region 1 with fail
 try rw [HW0.out]
 go_cut [22] (fun s22 wx => s22 = .bool (!b1 && !b2) ∧ Hid (Sx w c V p (.mk 0 ⟨#[]⟩ 0 0 0 [] 0) nz wx))
 case first =>
  go_wp2_with fail
  refine Calls.mono HNa.out ?_
  rintro r W1 ⟨rfl, hk1⟩
  have HS1 : Hid (Sx w c V p (.mk 0 ⟨#[]⟩ 0 0 0 [] 0) nz W1) := HS0.out.no hk1
  clear hk1 HNa HS0
  have HIs : Hid (Calls Tryz.prog 99 #[.pointer (some ⟨c, 0, none⟩), .string ⟨#[40]⟩] W1 fun r w' => r = .returned (.bool b2) ∧ Kept No W1 w') := by
   have := is_any HS1.out.ps ⟨#[40]⟩
   rw [show V.is (⟨#[40]⟩ : ByteArray).data.toList p = b2 from Hb2.out] at this
   exact this
  cases b1 with
  | true =>
   go_wp2_with fail
   go_meet
   exact ⟨by rfl, HS1⟩
  | false =>
   go_wp2_with fail
   refine Calls.mono HIs.out ?_
   rintro r W2 ⟨rfl, hk2⟩
   have HS2 : Hid (Sx w c V p (.mk 0 ⟨#[]⟩ 0 0 0 [] 0) nz W2) := HS1.out.no hk2
   clear hk2 HIs HS1
   go_wp2_with fail
   go_meet
   exact ⟨by cases b2 <;> rfl, HS2⟩
 case rest =>
 obtain ⟨rfl, HS1⟩ := hcut
 obtain ⟨W1, hW1⟩ : ∃ W1, W1 = wc := ⟨_, rfl⟩
 subst hW1
 clear HW0 HS0 HNa Hb1 Hb2
 obtain ⟨bw, hbw⟩ : ∃ bw, (!b1 && !b2) = bw := ⟨_, rfl⟩
 rw [hbw] at HRd ⊢
 clear hbw
 cases bw with
 | true =>
  have HRe : Hid (RR = .error (ap, 6)) := by show _ = _; rw [← HRd.out]; rfl
  have HWr : Hid _ := wrong_any HS1.out.ps
  rw [Hap.out] at HWr
  clear HRd
  go_wp2_with fail
  refine Calls.mono HWr.out ?_
  rintro r W2 ⟨rfl, hk2⟩
  have HK2 : Hid (Kept (fun b => b = c) w W2) := HS1.out.kept.trans hk2.no
  clear hk2 HWr HS1
  go_wp2_with fail
  refine ⟨rfl, ?_⟩
  show PRes c V w RR _ _
  rw [HRe.out]
  exact ⟨HK2.out, rfl⟩
 | false =>
 have HRf : Hid (RR = ca0 V G ap (G.suff p)) := by show _ = _; rw [← HRd.out]; rfl
 have HAt : Hid _ := at_any HS1.out.ps
 rw [Hap.out] at HAt
 clear HRd Hap
 go_wp2_with fail
 refine Calls.mono HAt.out ?_
 rintro r W2 ⟨rfl, hk2⟩
 have HS2 : Hid (Sx w c V p (.mk 0 ⟨#[]⟩ 0 0 0 [] 0) nz W2) := HS1.out.no hk2
 have HE : Hid _ := HSu.out HS2.out.ps
 clear hk2 HAt HS1
 go_wp2_with fail
 cases hsf : G.suff p with
 | error e =>
  obtain ⟨ea, ex⟩ := e
  rw [hsf] at HE
  have HRe : Hid (RR = .error (ea, ex)) := by show _ = _; rw [HRf.out, hsf]; rfl
  clear hsf HRf
  refine Calls.mono HE.out ?_
  rintro r W3 ⟨hk3, rfl⟩
  have HK3 : Hid (Kept (fun b => b = c) w W3) := HS2.out.kept.trans hk3
  clear hk3 HE HS2
  go_wp2_with fail
  refine ⟨rfl, ?_⟩
  show PRes c V w RR _ _
  rw [HRe.out]
  exact ⟨HK3.out, rfl⟩
 | ok z =>
 obtain ⟨⟨⟨nk, nt, nvt, nvn, nn, nx, na⟩, g⟩, q⟩ := z
 have hgo := HGs.out _ _ _ hsf
 rw [hsf] at HE
 have HRg : Hid (RR = ca1 V G ap (.mk nk nt nvt nvn nn nx na) g q) := by show _ = _; rw [HRf.out, hsf]; rfl
 clear hsf HRf
 refine Calls.mono HE.out ?_
 rintro r W3 ⟨hk3, ⟨cs, rfl, hx⟩, hp3⟩
 obtain ⟨sv, rfl, hls⟩ := NodeIs.cs.1 hx
 obtain ⟨no, nln, nc, rfl⟩ := slice_of hls
 obtain ⟨B, hB⟩ : ∃ B, W2.heap.size = B := ⟨_, rfl⟩
 rw [hB] at hx
 obtain ⟨W4, HW4⟩ : ∃ W4, Hid (W4 = W3.alloc (nb (ncs nk nt nvt nvn nn (.slice no nln nc) na))) := ⟨_, show _ = _ from rfl⟩
 have ka : Kept No W3 W4 := by rw [HW4.out]; exact (Kept.refl No W3).alloc _
 obtain ⟨A, HA⟩ : ∃ A, Hid (W3.heap.size = A) := ⟨_, show _ = _ from rfl⟩
 have hz2 := hp_lt HS2.out.box
 have hz3 := hk3.size
 have hz4 := ka.size
 have hBw : w.heap.size < B := by omega
 have hB4 : B ≤ W4.heap.size := by omega
 have HS4 : Hid (Sx w c V q (.mk 0 ⟨#[]⟩ 0 0 0 [] 0) nz W4) := (HS2.out.go hcl hk3 hp3).no ka
 have HN4 : Hid (NodeIs (fun b => b < B) W4 (.mk nk nt nvt nvn nn nx na) (ncs nk nt nvt nvn nn (.slice no nln nc) na)) := NodeIs.kept ka.no _ _ hx
 have hA4 : W4.heap[A]? = some (nb (ncs nk nt nvt nvn nn (.slice no nln nc) na)) := by rw [HW4.out, ← HA.out]; exact World.alloc_heap_new W3 _
 have HA4 : Hid _ := hA4
 obtain ⟨a0, a1, a2, a3, a4, a5, a6⟩ := nb_cells hA4
 unfold nb ncs at HW4
 clear hk3 hx hp3 hls ka HE HS2 hA4 hB hz2 hz3 hz4
 unfold ncs
 go_upto_region 5 with (first | rw [← HW4.out])
 try rw [HA.out]
 clear HW4 HA
 obtain ⟨bt, Hbt⟩ : ∃ bt, Hid (isTarget (.mk nk nt nvt nvn nn nx na) g = bt) := ⟨_, show _ = _ from rfl⟩
 have HCt : Hid (Calls Tryz.prog 170 #[.pointer (some ⟨c, 0, none⟩), .agg (ncs nk nt nvt nvn nn (.slice no nln nc) na).toArray, .bool g] W4 fun r w' => r = (if bt then .returned (.tuple #[]) else stopW (V.at q) 6) ∧ Kept No W4 w') := by
  have := checkTarget_any HS4.out.ps nk nt nvt nvn nn na no nln nc nx g
  rw [Hbt.out] at this
  exact this
 unfold ncs at HCt
 by_cases h11 : nk = 11
 ·subst h11
  have hbt : bt = false := by rw [← Hbt.out]; unfold isTarget; cases g <;> rfl
  subst hbt
  cases g with
  | false =>
   clear HCt Hbt
   have HRe : Hid (RR = .ok (nd 23 [.mk 11 nt nvt nvn nn nx na] ap, q)) := by show _ = _; rw [HRg.out]; unfold ca1; simp [Tr.k]
   obtain ⟨W6, HW6⟩ : ∃ W6, Hid (W6 = W4.alloc (nb (ncs 11 nt nvt nvn nn (.slice no nln nc) na))) := ⟨_, show _ = _ from rfl⟩
   have kb : Kept No W4 W6 := by rw [HW6.out]; exact (Kept.refl No W4).alloc _
   have hz3 := hp_lt HS4.out.box
   have HL6 : Hid (ListIs (fun b => b < w.heap.size + 1) W6 [.mk 11 nt nvt nvn nn nx na] (.slice (some ⟨W4.heap.size, 0, none⟩) 1 1)) := by
    have := (Bld.one (show w.heap.size + 1 ≤ W4.heap.size by omega) (NodeIs.mono (fun b (hb : b < w.heap.size + 1) => by show b < B; omega) _ _ HN4.out)).list
    rw [← HW6.out] at this
    exact this
   have HK6 : Hid _ := HS4.out.kept.trans kb.no
   have HP6 : Hid _ := HS4.out.ps.no kb
   have HB6 : Hid _ := kb.heap HS4.out.box id
   obtain ⟨r0, r1, r2, r3, r4, r5, r6⟩ := nb_cells HB6.out
   have rf := fun o => nb_frozen HB6.out o
   unfold nb ncs at HW6
   clear kb hz3 HS4 HN4 HGs HLf HLi HSu
   go_wp2_with (first | rw [← HW6.out])
   refine bodyPost_ret (v := .agg (ncs 23 ⟨#[]⟩ 0 0 0 (.slice (some ⟨W4.heap.size, 0, none⟩) 1 1) ap).toArray) (by simp [results, Tryz.results141, go_sem, ncs, r0, r1, r2, r3, r4, r5, r6]) rfl ?_
   show PRes c V w RR _ _
   rw [HRe.out]
   have HS7 := Sx.put (k := 23) (t := ⟨#[]⟩) (vt := 0) (vn := 0) (m := 0) (a := ap) hcl HK6.out HP6.out HB6.out rfl (ListIs.mono (fun b (hb : b ≤ w.heap.size) => by show b < _; omega) HL6.out) rfl
   exact ⟨HS7.kept, ⟨_, rfl, NodeIs.mono (fun b (hb : b < w.heap.size) => Nat.le_of_lt hb) _ _ HS7.node⟩, HS7.ps⟩
  | true =>
   have HRe : Hid (RR = .error (V.at q, 6)) := by show _ = _; rw [HRg.out]; rfl
   go_wp2_with fail
   refine Calls.mono HCt.out ?_
   rintro r W5 ⟨rfl, hk5⟩
   have HK5 : Hid (Kept (fun b => b = c) w W5) := HS4.out.kept.trans hk5.no
   clear hk5 HCt HS4
   go_wp2_with fail
   refine ⟨rfl, ?_⟩
   show PRes c V w RR _ _
   rw [HRe.out]
   exact ⟨HK5.out, rfl⟩
 ·have z11 : (nk == 11) = false := by simp [h11]
  have HRg : Hid (RR = if bt then caT V G ap (prep [.mk nk nt nvt nvn nn nx na] (targets V G (V.L.length + 1) q)) else .error (V.at q, 6)) := by
   show _ = _; rw [HRg.out, ← Hbt.out]; unfold ca1; simp [Tr.k, h11]
  clear Hbt
  go_wp2_with fail
  cases bt with
  | false =>
   have HRe : Hid (RR = .error (V.at q, 6)) := by show _ = _; rw [HRg.out]; rfl
   refine Calls.mono HCt.out ?_
   rintro r W5 ⟨rfl, hk5⟩
   have HK5 : Hid (Kept (fun b => b = c) w W5) := HS4.out.kept.trans hk5.no
   clear hk5 HCt HS4
   go_wp2_with fail
   refine ⟨rfl, ?_⟩
   show PRes c V w RR _ _
   rw [HRe.out]
   exact ⟨HK5.out, rfl⟩
  | true =>
   have HRf : Hid (RR = caT V G ap (prep [.mk nk nt nvt nvn nn nx na] (targets V G (V.L.length + 1) q))) := by show _ = _; rw [HRg.out]; rfl
   clear HRg
   refine Calls.mono HCt.out ?_
   rintro r W5 ⟨rfl, hk5⟩
   have HS5 : Hid (Sx w c V q (.mk 0 ⟨#[]⟩ 0 0 0 [] 0) nz W5) := HS4.out.no hk5
   have HN5 : Hid (NodeIs (fun b => b < B) W5 (.mk nk nt nvt nvn nn nx na) (ncs nk nt nvt nvn nn (.slice no nln nc) na)) := NodeIs.kept hk5.no _ _ HN4.out
   have hA5 : W5.heap[A]? = some (nb (ncs nk nt nvt nvn nn (.slice no nln nc) na)) := hk5.heap HA4.out id
   have hz5 := hk5.size
   clear hk5 HCt HS4 HN4 HA4 a0 a1 a2 a3 a4 a5 a6
   obtain ⟨a0, a1, a2, a3, a4, a5, a6⟩ := nb_cells hA5
   obtain ⟨T, HT⟩ : ∃ T, Hid (W5.heap.size + 1 = T) := ⟨_, show _ = _ from rfl⟩
   obtain ⟨W6, HW6⟩ : ∃ W6, Hid (W6 = (W5.alloc (nb (ncs nk nt nvt nvn nn (.slice no nln nc) na))).alloc (nb (ncs 22 ⟨#[]⟩ 0 0 0 (.slice (some ⟨W5.heap.size, 0, none⟩) 1 1) ap))) := ⟨_, show _ = _ from rfl⟩
   have ka : Kept No W5 W6 := by rw [HW6.out]; exact ((Kept.refl No W5).alloc _).alloc _
   have hBT : B ≤ T := by have := HT.out; omega
   have HF6 : Hid (Sx w c V q (.mk 0 ⟨#[]⟩ 0 0 0 [] 0) nz W6 ∧ W6.heap[T]? = some (nb (ncs 22 ⟨#[]⟩ 0 0 0 (.slice (some ⟨W5.heap.size, 0, none⟩) 1 1) ap)) ∧ BldZ (fun b => b = T) B W6 (.slice (some ⟨W5.heap.size, 0, none⟩) 1 1) [.mk nk nt nvt nvn nn nx na]) := by
    refine ⟨HS5.out.no ka, ?_, ?_⟩
    ·rw [HW6.out, ← HT.out]
     have := World.alloc_heap_new (W5.alloc (nb (ncs nk nt nvt nvn nn (.slice no nln nc) na))) (nb (ncs 22 ⟨#[]⟩ 0 0 0 (.slice (some ⟨W5.heap.size, 0, none⟩) 1 1) ap))
     rw [show (W5.alloc (nb (ncs nk nt nvt nvn nn (.slice no nln nc) na))).heap.size = W5.heap.size + 1 by simp] at this
     exact this
    ·have := (Bld.one (show B ≤ W5.heap.size by omega) HN5.out).box (nb (ncs 22 ⟨#[]⟩ 0 0 0 (.slice (some ⟨W5.heap.size, 0, none⟩) 1 1) ap))
     rw [← HW6.out, show (W5.alloc (nb (ncs nk nt nvt nvn nn (.slice no nln nc) na))).heap.size = T by rw [← HT.out]; simp] at this
     exact this
   obtain ⟨sv, hsv⟩ : ∃ sv : Value, sv = .slice (some ⟨W5.heap.size, 0, none⟩) 1 1 := ⟨_, rfl⟩
   obtain ⟨R0, HRz⟩ : ∃ R0, Hid (R0 = prep [.mk nk nt nvt nvn nn nx na] (targets V G (V.L.length + 1) q)) := ⟨_, show _ = _ from rfl⟩
   rw [← HRz.out] at HRf
   have hTx := HT.out
   unfold nb ncs at HW6
   clear HS5 HN5 hA5 ka
   go_wp2_with (first | rw [← HW6.out])
   try rw [HT.out]
   clear HW6 HT a0 a1 a2 a3 a4 a5 a6
   go_loopw [9, 10, 56, 57, 58, 59, 60, 61, 62, 63, 64, 65, 66, 67, 68, 69, 70, 71, 72, 73, 74, 75, 76] (fun _ _ _ _ _ _ _ _ _ _ _ _ _ _ _ _ _ _ _ _ _ _ _ wr => ∃ (D : List Tr) (q f : Nat) (sv : Value), q ≤ V.L.length ∧ D.length ≤ q ∧ V.L.length < q + f ∧ Hid (R0 = prep D (targets V G f q)) ∧ Hid (Sx w c V q (.mk 0 ⟨#[]⟩ 0 0 0 [] 0) nz wr ∧ wr.heap[T]? = some (nb (ncs 22 ⟨#[]⟩ 0 0 0 sv ap)) ∧ BldZ (fun b => b = T) B wr sv D)) (fun _ _ _ _ _ _ _ _ _ _ _ _ _ _ _ _ _ _ _ _ _ _ _ wr => V.L.length - pos c wr)
   case atStart => exact ⟨_, q, V.L.length + 1, _, by omega, by show 1 ≤ q; omega, by omega, HRz.out, HF6.out⟩
   case round =>
    clear HF6 HRz
    obtain ⟨D, q, f, sv, hq, hDq, hf, HR0, HF4⟩ := hrel
    obtain ⟨W4, hW4⟩ : ∃ W4, W4 = wr := ⟨_, rfl⟩
    subst hW4
    obtain ⟨f', rfl⟩ : ∃ f', f = f' + 1 := ⟨f - 1, by omega⟩
    have hpq := HF4.out.1.ps.pos
    rw [prep_caR] at HR0
    obtain ⟨b3, Hb3⟩ : ∃ b3, Hid (V.is [44] q = b3) := ⟨_, show _ = _ from rfl⟩
    rw [Hb3.out] at HR0
    have HTo : Hid (Calls Tryz.prog 98 #[.pointer (some ⟨c, 0, none⟩), .string ⟨#[44]⟩] W4 fun r w' => r = .returned (.bool b3) ∧ Kept (fun b => b = c) W4 w' ∧ Ps w' c V (if b3 then q + 1 else q)) := by
     have := took_any HF4.out.1.ps ⟨#[44]⟩ (by decide)
     rw [show V.is (⟨#[44]⟩ : ByteArray).data.toList q = b3 from Hb3.out] at this
     exact this
    go_wp2_with fail
    refine Calls.mono HTo.out ?_
    rintro r W5 ⟨rfl, hk5, hp5⟩
    have HF5 : Hid (Sx w c V (if b3 then q + 1 else q) (.mk 0 ⟨#[]⟩ 0 0 0 [] 0) nz W5 ∧ W5.heap[T]? = some (nb (ncs 22 ⟨#[]⟩ 0 0 0 sv ap)) ∧ BldZ (fun b => b = T) B W5 sv D) := ⟨HF4.out.1.go hcl hk5 hp5, hk5.heap HF4.out.2.1 (show ¬ T = c by omega), HF4.out.2.2.go (hk5.mono (fun b (hb : b = c) => by left; omega))⟩
    clear hk5 hp5 HTo HF4
    cases b3 with
    | true =>
     have hlt := is_lt Hb3.out (by decide)
     rw [if_pos rfl] at HR0 HF5
     clear Hb3
     have HE : Hid _ := HSu.out HF5.out.1.ps
     go_wp2_with fail
     cases hsf : G.suff (q + 1) with
     | error e =>
      obtain ⟨ea, ex⟩ := e
      rw [hsf] at HE
      have HRe : Hid (RR = .error (ea, ex)) := by show _ = _; rw [HRf.out, HR0.out]; unfold caR; rw [hsf]; rfl
      clear hsf HRf HR0
      refine Calls.mono HE.out ?_
      rintro r W6 ⟨hk6, rfl⟩
      have HK6 : Hid (Kept (fun b => b = c) w W6) := HF5.out.1.kept.trans hk6
      clear hk6 HE HF5
      go_wp2_with fail
      refine ⟨rfl, ?_⟩
      show PRes c V w RR _ _
      rw [HRe.out]
      exact ⟨HK6.out, rfl⟩
     | ok z =>
      obtain ⟨⟨⟨yk, yt, yvt, yvn, yn, yx, ya⟩, yg⟩, q1⟩ := z
      have hgo := HGs.out _ _ _ hsf
      rw [hsf] at HE
      obtain ⟨bt, Hbt⟩ : ∃ bt, Hid (isTarget (.mk yk yt yvt yvn yn yx ya) yg = bt) := ⟨_, show _ = _ from rfl⟩
      have HR1 : Hid (R0 = if bt then prep (D ++ [.mk yk yt yvt yvn yn yx ya]) (targets V G f' q1) else V.wrong q1) := by show _ = _; rw [HR0.out]; unfold caR; rw [hsf, ← Hbt.out]
      clear hsf HR0
      refine Calls.mono HE.out ?_
      rintro r W6 ⟨hk6, ⟨cs, rfl, hy⟩, hp6⟩
      obtain ⟨sv2, rfl, hls⟩ := NodeIs.cs.1 hy
      obtain ⟨yo, yln, yc, rfl⟩ := slice_of hls
      obtain ⟨W7, HW7⟩ : ∃ W7, Hid (W7 = W6.alloc (nb (ncs yk yt yvt yvn yn (.slice yo yln yc) ya))) := ⟨_, show _ = _ from rfl⟩
      have ka : Kept No W6 W7 := by rw [HW7.out]; exact (Kept.refl No W6).alloc _
      obtain ⟨A, HA⟩ : ∃ A, Hid (W6.heap.size = A) := ⟨_, show _ = _ from rfl⟩
      have hA7 : W7.heap[A]? = some (nb (ncs yk yt yvt yvn yn (.slice yo yln yc) ya)) := by rw [HW7.out, ← HA.out]; exact World.alloc_heap_new W6 _
      have hz5 := hp_lt HF5.out.2.1
      have hz6 := hk6.size
      have hol : ∀ k, sv.ownBlock = some k → B ≤ k ∧ k < W5.heap.size := HF5.out.2.2.own_lt
      have hTA : T < A := by have := HA.out; omega
      have HF7 : Hid (Sx w c V q1 (.mk 0 ⟨#[]⟩ 0 0 0 [] 0) nz W7 ∧ W7.heap[T]? = some (nb (ncs 22 ⟨#[]⟩ 0 0 0 sv ap)) ∧ BldZ (fun b => b = T) B W7 sv D) := ⟨(HF5.out.1.go hcl hk6 hp6).no ka, ka.heap (hk6.heap HF5.out.2.1 (show ¬ T = c by omega)) id, (HF5.out.2.2.go (hk6.mono (fun b (hb : b = c) => by left; omega))).go (ka.mono (fun b hb => hb.elim))⟩
      have HY7 : Hid (NodeIs (OutZ (fun b => b = T) B sv) W7 (.mk yk yt yvt yvn yn yx ya) (ncs yk yt yvt yvn yn (.slice yo yln yc) ya)) := by
       refine NodeIs.kept ka.no _ _ (NodeIs.mono ?_ _ _ hy)
       rintro b ((hb | hb) | hb)
       ·show b < _; omega
       ·have := hol b hb; show b < _; omega
       ·show b < _; omega
      obtain ⟨a0, a1, a2, a3, a4, a5, a6⟩ := nb_cells hA7
      have HA7 : Hid _ := hA7
      unfold nb ncs at HW7
      clear hk6 hy hp6 hls ka HE hA7
      have HCt : Hid (Calls Tryz.prog 170 #[.pointer (some ⟨c, 0, none⟩), .agg (ncs yk yt yvt yvn yn (.slice yo yln yc) ya).toArray, .bool yg] W7 fun r w' => r = (if bt then .returned (.tuple #[]) else stopW (V.at q1) 6) ∧ Kept No W7 w') := by
       have := checkTarget_any HF7.out.1.ps yk yt yvt yvn yn ya yo yln yc yx yg
       rw [Hbt.out] at this
       exact this
      unfold ncs at HCt
      unfold ncs
      go_upto_region 11 with (first | rw [← HW7.out])
      try rw [HA.out]
      go_wp2_with fail
      cases bt with
      | false =>
       have HRe : Hid (RR = .error (V.at q1, 6)) := by show _ = _; rw [HRf.out, HR1.out]; rfl
       refine Calls.mono HCt.out ?_
       rintro r W8 ⟨rfl, hk8⟩
       have HK8 : Hid (Kept (fun b => b = c) w W8) := HF7.out.1.kept.trans hk8.no
       clear hk8 HCt HF5 HF7
       go_wp2_with fail
       refine ⟨rfl, ?_⟩
       show PRes c V w RR _ _
       rw [HRe.out]
       exact ⟨HK8.out, rfl⟩
      | true =>
       rw [if_pos rfl] at HR1
       refine Calls.mono HCt.out ?_
       rintro r W8 ⟨rfl, hk8⟩
       have HF8 : Hid (Sx w c V q1 (.mk 0 ⟨#[]⟩ 0 0 0 [] 0) nz W8 ∧ W8.heap[T]? = some (nb (ncs 22 ⟨#[]⟩ 0 0 0 sv ap)) ∧ BldZ (fun b => b = T) B W8 sv D) := ⟨HF7.out.1.no hk8, hk8.heap HF7.out.2.1 id, HF7.out.2.2.go (hk8.mono (fun b hb => hb.elim))⟩
       have HY8 : Hid (NodeIs (OutZ (fun b => b = T) B sv) W8 (.mk yk yt yvt yvn yn yx ya) (ncs yk yt yvt yvn yn (.slice yo yln yc) ya)) := NodeIs.kept hk8.no _ _ HY7.out
       have hA8 : W8.heap[A]? = some (nb (ncs yk yt yvt yvn yn (.slice yo yln yc) ya)) := hk8.heap HA7.out id
       clear hk8 HCt HF5 HF7 HY7 a0 a1 a2 a3 a4 a5 a6 HW7 HA HA7
       obtain ⟨a0, a1, a2, a3, a4, a5, a6⟩ := nb_cells hA8
       obtain ⟨t0', t1', t2', t3', t4', t5', t6'⟩ := nb_cells HF8.out.2.1
       obtain ⟨W9, HW9⟩ : ∃ W9, Hid (W9 = W8.alloc (nb (ncs yk yt yvt yvn yn (.slice yo yln yc) ya))) := ⟨_, show _ = _ from rfl⟩
       have ka : Kept No W8 W9 := by rw [HW9.out]; exact (Kept.refl No W8).alloc _
       have hz8 := hp_lt HF8.out.2.1
       have hz9 := ka.size
       have HF9 : Hid (Sx w c V q1 (.mk 0 ⟨#[]⟩ 0 0 0 [] 0) nz W9 ∧ W9.heap[T]? = some (nb (ncs 22 ⟨#[]⟩ 0 0 0 sv ap)) ∧ BldZ (fun b => b = T) B W9 sv D) := ⟨HF8.out.1.no ka, ka.heap HF8.out.2.1 id, HF8.out.2.2.go (ka.mono (fun b hb => hb.elim))⟩
       have HZ9 : Hid (BldZ (fun b => b = T) B W9 sv D) := HF9.out.2.2
       have hol : ∀ k, sv.ownBlock = some k → B ≤ k ∧ k < W8.heap.size := HF8.out.2.2.own_lt
       have HM9 : Hid (ListIs (OutZ (fun b => b = T) B sv) W9 [.mk yk yt yvt yvn yn yx ya] (.slice (some ⟨W8.heap.size, 0, none⟩) 1 1)) := by
        rw [HW9.out]
        refine one_list HY8.out ?_
        rintro ((hb | hb) | hb)
        ·omega
        ·have := hol _ hb; omega
        ·omega
       obtain ⟨so0, sn0, sc0, rfl⟩ := slice_of HZ9.out.list
       unfold nb ncs at HW9
       clear ka hA8 HF8
       go_wp2_with (first | rw [← HW9.out] | (at_builtin; refine wpList_app_listZ rfl _ _ rfl rfl rfl HZ9.out HM9.out ?qa ?qb ?qc ?qd ?_))
       case qa => omega
       case qb => simp
       case qc => omega
       case qd => intro b hb; omega
       intro v' X5 hB5 hg5 vo vln vc hv5
       subst hv5
       have HW5x : Hid (X5.heap[T]? = some (nb (ncs 22 ⟨#[]⟩ 0 0 0 (.slice so0 sn0 sc0) ap))) := (hg5.block T (by omega) (fun e => HZ9.out.out T e.symm rfl)).trans HF9.out.2.1
       have HK5 : Hid (Kept (fun b => b = c) w X5) := HF9.out.1.kept.grown hg5 (fun k e => .inr (by have := (hol k e).1; omega))
       have HP5 : Hid (Ps X5 c V q1) := HF9.out.1.ps.low (fun k hk => hg5.block k (Nat.lt_of_le_of_lt hk HF9.out.1.ps.lt) (fun e => by have := (hol k e.symm).1; omega))
       have HB5 : Hid (X5.heap[w.heap.size]? = some (nb nz)) := (hg5.block w.heap.size (hp_lt HF9.out.1.box) (fun e => by have := (hol w.heap.size e.symm).1; omega)).trans HF9.out.1.box
       have HL5 : Hid (BldZ (fun b => b = T) B X5 (.slice vo vln vc) (D ++ [.mk yk yt yvt yvn yn yx ya])) := hB5
       obtain ⟨t0', t1', t2', t3', t4', t5', t6'⟩ := nb_cells HW5x.out
       have tf := fun o => nb_frozen HW5x.out o
       clear hB5 hg5 hol HF9 HZ9 HM9 HY8 HW9 a0 a1 a2 a3 a4 a5 a6
       have kw : Kept (fun b => b = T) X5 (X5.setCell ⟨T, 5, none⟩ (.slice vo vln vc)) := Kept.set (Kept.refl _ _) _ _ _ (Or.inl rfl)
       have hT6 := set_same HW5x.out 5 (.slice vo vln vc)
       obtain ⟨X6, HX6⟩ : ∃ X6, Hid (X6 = X5.setCell ⟨T, 5, none⟩ (.slice vo vln vc)) := ⟨_, show _ = _ from rfl⟩
       rw [← HX6.out] at kw hT6
       have HF6 : Hid (Sx w c V q1 (.mk 0 ⟨#[]⟩ 0 0 0 [] 0) nz X6 ∧ X6.heap[T]? = some (nb (ncs 22 ⟨#[]⟩ 0 0 0 (.slice vo vln vc) ap)) ∧ BldZ (fun b => b = T) B X6 (.slice vo vln vc) (D ++ [.mk yk yt yvt yvn yn yx ya])) := ⟨⟨HK5.out.trans' kw (fun i e => .inr (by omega)), HP5.out.low (fun j hj => kw.block j (Nat.lt_of_le_of_lt hj HP5.out.lt) (by omega)), kw.heap HB5.out (by omega), leaf_is _ _ _ _ _ _ _ _⟩, hT6, HL5.out.go (kw.mono (fun b hb => .inr hb))⟩
       clear kw hT6 HK5 HP5 HB5 HL5
       go_wp2_with (first | rw [← HX6.out])
       try rw [← HX6.out]
       go_roundw
       case rel => exact ⟨D ++ [.mk yk yt yvt yvn yn yx ya], q1, f', _, by omega, by rw [List.length_append]; show D.length + 1 ≤ _; omega, by omega, HR1, HF6⟩
       case measure =>
        rw [hpq, HF6.out.1.ps.pos]
        omega
    | false =>
     rw [if_neg (by decide)] at HR0 HF5
     have HRR : Hid (RR = caN V G ap D q) := by show _ = _; rw [HRf.out, HR0.out]; rfl
     clear HRf HR0 Hb3 HGs HSu
     obtain ⟨ls, hls⟩ : ∃ ls, ls = D := ⟨_, rfl⟩
     subst hls
     obtain ⟨nl, hnl⟩ : ∃ nl, ls.length = nl := ⟨_, rfl⟩
     obtain ⟨so, sc, rfl⟩ : ∃ so sc, sv = .slice so nl sc := by
      rcases HF5.out.2.2.list with ⟨h1, h2⟩ | ⟨b, o, cap, h1, _⟩
      ·exact ⟨none, 0, by rw [h2, ← hnl, h1]; rfl⟩
      ·exact ⟨_, _, by rw [h1, hnl]⟩
     have hll : ls.length ≤ 10000 := by omega
     obtain ⟨g0, g1, g2, g3, g4, g5, g6⟩ := nb_cells HF5.out.2.1
     have gf := fun o => nb_frozen HF5.out.2.1 o
     have kw : Kept (fun b => b = T) W5 (W5.setCell ⟨T, 4, none⟩ (.int .i64 (nl : Int))) := Kept.set (Kept.refl _ _) _ _ _ (Or.inl rfl)
     obtain ⟨W6, HW6⟩ : ∃ W6, Hid (W6 = W5.setCell ⟨T, 4, none⟩ (.int .i64 (nl : Int))) := ⟨_, show _ = _ from rfl⟩
     have HT6 : Hid (W6.heap[T]? = some (nb (ncs 22 ⟨#[]⟩ 0 0 (nl : Int) (.slice so nl sc) ap))) := by show _ = _; rw [HW6.out]; exact set_same HF5.out.2.1 4 (.int .i64 (nl : Int))
     rw [← HW6.out] at kw
     have HS6 : Hid (Sx w c V q (.mk 0 ⟨#[]⟩ 0 0 0 [] 0) nz W6) := ⟨HF5.out.1.kept.trans' kw (fun i e => .inr (by omega)), HF5.out.1.ps.low (fun j hj => kw.block j (Nat.lt_of_le_of_lt hj HF5.out.1.ps.lt) (by omega)), kw.heap HF5.out.1.box (by omega), leaf_is _ _ _ _ _ _ _ _⟩
     have HZ6 : Hid (BldZ (fun b => b = T) B W6 (.slice so nl sc) ls) := HF5.out.2.2.go (kw.mono (fun b hb => .inr hb))
     clear kw HF5
     obtain ⟨bn, Hbn⟩ : ∃ bn, Hid (V.is [61] q = bn) := ⟨_, show _ = _ from rfl⟩
     cases bn with
     | false =>
      have HN : Hid (Calls Tryz.prog 166 #[.pointer (some ⟨c, 0, none⟩), .string ⟨#[61]⟩] W6 fun r w' => r = stopW (V.at q) 6 ∧ Kept (fun b => b = c) W6 w') := need_bad HS6.out.ps ⟨#[61]⟩ (by decide) Hbn.out
      have HRe : Hid (RR = .error (V.at q, 6)) := by show _ = _; rw [HRR.out]; unfold caN Env.need Env.wrong; rw [Hbn.out]; rfl
      go_wp2_with (first | rw [← HW6.out])
      refine Calls.mono HN.out ?_
      rintro r W7 ⟨rfl, hk7⟩
      have HK7 : Hid (Kept (fun b => b = c) w W7) := HS6.out.kept.trans hk7
      clear hk7 HN HS6 HT6 HZ6
      go_wp2_with fail
      refine ⟨rfl, ?_⟩
      show PRes c V w RR _ _
      rw [HRe.out]
      exact ⟨HK7.out, rfl⟩
     | true =>
      have HN : Hid (Calls Tryz.prog 166 #[.pointer (some ⟨c, 0, none⟩), .string ⟨#[61]⟩] W6 fun r w' => r = .returned (.tuple #[]) ∧ Kept (fun b => b = c) W6 w' ∧ Ps w' c V (q + 1)) := need_ok HS6.out.ps ⟨#[61]⟩ (by decide) Hbn.out
      have HRf : Hid (RR = match listE V G (q + 1) with | .error e => .error e | .ok (m, r) => .ok (.mk 22 ⟨#[]⟩ 0 0 (nl : Int) (ls ++ m) ap, r)) := by
       show _ = _; rw [HRR.out]; unfold caN Env.need; rw [Hbn.out, ← hnl]; rfl
      clear HRR Hbn
      go_wp2_with (first | rw [← HW6.out])
      clear HW6 g0 g1 g2 g3 g4 g5 g6 gf
      refine Calls.mono HN.out ?_
      rintro r W6' ⟨rfl, hk6, hp6⟩
      have HTb : Hid (W6'.heap[T]? = some (nb (ncs 22 ⟨#[]⟩ 0 0 (nl : Int) (.slice so nl sc) ap))) := hk6.heap HT6.out (show ¬ T = c by omega)
      have HSb : Hid (Sx w c V (q + 1) (.mk 0 ⟨#[]⟩ 0 0 0 [] 0) nz W6') := HS6.out.go hcl hk6 hp6
      have HZb : Hid (BldZ (fun b => b = T) B W6' (.slice so nl sc) ls) := HZ6.out.go (hk6.mono (fun b (hb : b = c) => by left; omega))
      clear HS6 HT6 HZ6 hk6 hp6 HN
      go_wp2_with fail
      refine regionU (fun X => X.cell? ⟨T, 5, none⟩ = some (.slice so nl sc)) 8 ((nb_cells (show W6'.drew.heap[T]? = _ from HTb.out)).2.2.2.2.2.1) (fun hSS => ?_)
      have HS7 : Hid (Sx w c V (q + 1) (.mk 0 ⟨#[]⟩ 0 0 0 [] 0) nz W6'.drew) := HSb.out.no (Kept.refl No W6').drew
      have HT7 : Hid (W6'.drew.heap[T]? = some (nb (ncs 22 ⟨#[]⟩ 0 0 (nl : Int) (.slice so nl sc) ap))) := HTb.out
      have HZ7 : Hid (BldZ (fun b => b = T) B W6'.drew (.slice so nl sc) ls) := HZb.out.go (Kept.refl No W6').drew.no
      generalize W6'.drew = W7 at hSS HS7 HT7 HZ7 ⊢
      clear HSb HTb HZb
      have HLc : Hid _ := HLi.out HS7.out.ps
      clear HLi
      refine tkU 0 (.pointer (some ⟨T, 5, none⟩)) rfl hSS ?_
      try simp only [Act.put, setIfInBounds_toArray, set_cons_zero, set_cons_succ, getElem_toArray, getElem_cons_zero, getElem_cons_succ]
      refine tkU 1 (.slice so nl sc) rfl hSS ?_
      try simp only [Act.put, setIfInBounds_toArray, set_cons_zero, set_cons_succ, getElem_toArray, getElem_cons_zero, getElem_cons_succ]
      refine tkU 2 (.pointer (some ⟨c, 0, none⟩)) rfl hSS ?_
      try simp only [Act.put, setIfInBounds_toArray, set_cons_zero, set_cons_succ, getElem_toArray, getElem_cons_zero, getElem_cons_succ]
      refine tkU 3 (.int .i64 (l : Int)) rfl hSS ?_
      try simp only [Act.put, setIfInBounds_toArray, set_cons_zero, set_cons_succ, getElem_toArray, getElem_cons_zero, getElem_cons_succ]
      refine tkU 4 (.int .i64 ((l : Int) + 1)) rfl hSS ?_
      try simp only [Act.put, setIfInBounds_toArray, set_cons_zero, set_cons_succ, getElem_toArray, getElem_cons_zero, getElem_cons_succ]
      refine rdU 5 rfl (fun K hK => ?_)
      go_simp
      cases hab : listE V G (q + 1) with
      | error e =>
       obtain ⟨ea, ex⟩ := e
       rw [hab] at HLc
       have HRe : Hid (RR = .error (ea, ex)) := by show _ = _; rw [HRf.out, hab]
       clear hab HRf
       refine Calls.mono HLc.out ?_
       rintro r W9 ⟨hk9, rfl⟩
       have HF : Hid (Kept (fun b => b = c) w W9) := HS7.out.kept.trans hk9
       clear hk9 HLc HS7
       try go_wp2_with fail
       refine ⟨rfl, ?_⟩
       show PRes c V w RR _ _
       rw [HRe.out]
       exact ⟨HF.out, rfl⟩
      | ok z =>
       obtain ⟨ms, q'⟩ := z
       have hml : ms.length ≤ 10000 := HLf.out _ _ _ hab
       rw [hab] at HLc
       have HRe : Hid (RR = .ok (.mk 22 ⟨#[]⟩ 0 0 (nl : Int) (ls ++ ms) ap, q')) := by show _ = _; rw [HRf.out, hab]
       clear hab HRf HLf
       refine Calls.mono HLc.out ?_
       rintro r W8 ⟨hk8, ⟨mv, rfl, hm8⟩, hp8⟩
       obtain ⟨mo, mn, mc, rfl⟩ := slice_of hm8
       have HT8 : Hid (W8.heap[T]? = some (nb (ncs 22 ⟨#[]⟩ 0 0 (nl : Int) (.slice so nl sc) ap))) := hk8.heap HT7.out (show ¬ T = c by omega)
       have HS8 : Hid (Sx w c V q' (.mk 0 ⟨#[]⟩ 0 0 0 [] 0) nz W8) := HS7.out.go hcl hk8 hp8
       have HZ8 : Hid (BldZ (fun b => b = T) B W8 (.slice so nl sc) ls) := HZ7.out.go (hk8.mono (fun b (hb : b = c) => by left; omega))
       have hz7 := hp_lt HT7.out
       have hz8 := hk8.size
       have hol : ∀ k, (Value.slice so nl sc).ownBlock = some k → B ≤ k ∧ k < W7.heap.size := HZ7.out.own_lt
       have HM8 : Hid (ListIs (OutZ (fun b => b = T) B (.slice so nl sc)) W8 ms (.slice mo mn mc)) := by
        refine ListIs.mono ?_ hm8
        rintro b ((hb | hb) | hb)
        ·show b < _; omega
        ·have := hol b hb; show b < _; omega
        ·show b < _; omega
       refine hK.out _ _ (fun _ => (nb_cells HT8.out).2.2.2.2.2.1) ?_
       clear hK K HLc hk8 hm8 hp8 HS7 HZ7 HT7
       try simp only [Act.put, setIfInBounds_toArray, set_cons_zero, set_cons_succ, getElem_toArray, getElem_cons_zero, getElem_cons_succ]
       refine rdU 6 rfl (fun K hK => ?_)
       try rw [if_pos (by rfl)]
       refine app_listZ _ _ rfl rfl rfl HZ8.out HM8.out hll hml (by omega) (fun b hb => by omega) (fun v' X5 hB5 hg5 hv5 => ?_)
       obtain ⟨vo, vln, vc, rfl⟩ := hv5
       have hT5 : X5.heap[T]? = some (nb (ncs 22 ⟨#[]⟩ 0 0 (nl : Int) (.slice so nl sc) ap)) := (hg5.block T (by omega) (fun e => HZ8.out.out T e.symm rfl)).trans HT8.out
       have HK5 : Hid (Kept (fun b => b = c) w X5) := HS8.out.kept.grown hg5 (fun k e => .inr (by have := (hol k e).1; omega))
       have HP5 : Hid (Ps X5 c V q') := HS8.out.ps.low (fun k hk => hg5.block k (Nat.lt_of_le_of_lt hk HS8.out.ps.lt) (fun e => by have := (hol k e.symm).1; omega))
       have HB5 : Hid (X5.heap[w.heap.size]? = some (nb nz)) := (hg5.block w.heap.size (hp_lt HS8.out.box) (fun e => by have := (hol w.heap.size e.symm).1; omega)).trans HS8.out.box
       have HL5 : Hid (BldZ (fun b => b = T) B X5 (.slice vo vln vc) (ls ++ ms)) := hB5
       refine hK.out _ _ (fun _ => (nb_cells hT5).2.2.2.2.2.1) ?_
       clear hK K hB5 hg5 hol HS8 HZ8 HM8 HT8
       try simp only [Act.put, setIfInBounds_toArray, set_cons_zero, set_cons_succ, getElem_toArray, getElem_cons_zero, getElem_cons_succ]
       have hSS := (nb_cells hT5).2.2.2.2.2.1
       refine tkU 7 (.pointer (some ⟨T, 5, none⟩)) rfl hSS ?_
       try simp only [Act.put, setIfInBounds_toArray, set_cons_zero, set_cons_succ, getElem_toArray, getElem_cons_zero, getElem_cons_succ]
       refine rdU 8 rfl (fun K hK => ?_)
       obtain ⟨g0, g1, g2, g3, g4, g5, g6⟩ := nb_cells hT5
       have gf := fun o => nb_frozen hT5 o
       go_simp
       try go_wp2_with fail
       refine hK.out _ _ (fun e => absurd rfl e) ?_
       clear hK K g0 g1 g2 g3 g4 g5 g6 gf
       have kw : Kept (fun b => b = T) X5 (X5.setCell ⟨T, 5, none⟩ (.slice vo vln vc)) := Kept.set (Kept.refl _ _) _ _ _ (Or.inl rfl)
       have hT6 := set_same hT5 5 (.slice vo vln vc)
       generalize X5.setCell ⟨T, 5, none⟩ (.slice vo vln vc) = X6 at kw hT6 ⊢
       have HS6 : Hid (Sx w c V q' (.mk 0 ⟨#[]⟩ 0 0 0 [] 0) nz X6) := ⟨HK5.out.trans' kw (fun i e => .inr (by omega)), HP5.out.low (fun j hj => kw.block j (Nat.lt_of_le_of_lt hj HP5.out.lt) (by omega)), kw.heap HB5.out (by omega), leaf_is _ _ _ _ _ _ _ _⟩
       have HL6 : Hid (ListIs (fun b => b ≤ w.heap.size) X6 (ls ++ ms) (.slice vo vln vc)) := ListIs.mono (fun b (hb : b ≤ w.heap.size) => by left; omega) (HL5.out.go (kw.mono (fun b hb => .inr hb))).list
       have HT6 : Hid (X6.heap[T]? = some (nb (ncs 22 ⟨#[]⟩ 0 0 (nl : Int) (.slice vo vln vc) ap))) := hT6
       clear HK5 HP5 HB5 HL5 hT5 hT6 kw
       try simp only [Act.put, setIfInBounds_toArray, set_cons_zero, set_cons_succ, getElem_toArray, getElem_cons_zero, getElem_cons_succ]
       refine dnU ?_ (by kernel_rfl) _
       obtain ⟨g0, g1, g2, g3, g4, g5, g6⟩ := nb_cells HT6.out
       obtain ⟨r0, r1, r2, r3, r4, r5, r6⟩ := nb_cells HS6.out.box
       have rf := fun o => nb_frozen HS6.out.box o
       go_wp2_with fail
       refine bodyPost_ret (v := .agg (ncs 22 ⟨#[]⟩ 0 0 (nl : Int) (.slice vo vln vc) ap).toArray) (by simp [results, Tryz.results141, go_sem, ncs, r0, r1, r2, r3, r4, r5, r6]) rfl ?_
       show PRes c V w RR _ _
       rw [HRe.out]
       have HS8 := Sx.put (k := 22) (t := ⟨#[]⟩) (vt := 0) (vn := 0) (m := (nl : Int)) (a := ap) hcl HS6.out.kept HS6.out.ps HS6.out.box rfl HL6.out rfl
       exact ⟨HS8.kept, ⟨_, rfl, NodeIs.mono (fun b (hb : b < w.heap.size) => Nat.le_of_lt hb) _ _ HS8.node⟩, HS8.ps⟩
end Go.Proofs.YtgkgpjbbmnfnmaaGreatDoor

/- Every level of the parser; a fault that is caught. -/
namespace Go.Proofs.YtgkgpjbbmnfnmaaGreatDoor
open Go.RowKit
open List (setIfInBounds_toArray set_cons_zero set_cons_succ getElem_toArray getElem_cons_zero getElem_cons_succ)
set_option linter.unusedSimpArgs false
set_option linter.unusedVariables false

/-- Every level does what is said of it. -/
theorem levels (V : Env) (n : Nat) (hn : n ≤ 40) : LevIs V (lev V n) (41 - n) :=
 lev_is (fun hG hl _ _ _ h hp => choice_any hG hl h hp) (fun hG hl _ _ _ h hp => count_any hG hl h hp) (fun hG hl _ _ _ h => callOrAssign_any hG hl h) n hn
theorem block_is {w : World} {c : Nat} {V : Env} {p : Nat} (h : Ps w c V p) : Calls Tryz.prog 60 #[.pointer (some ⟨c, 0, none⟩), .int .i64 1] w (PRes c V w ((lev V 40).block p)) :=
 (levels V 40 (by omega)).block h

/-- A variable of a fault. -/
def fz (a e : Int) : Obj := .cells #[.int .i64 a, .int .i64 e] 115 (0, 0)
theorem ta_nil (w : World) : (Instr.typeAssert .nilIface 20 115 true).run Tryz.prog w = .ok (.tuple #[.agg #[.int .i64 0, .int .i64 0], .bool false]) w := by kernel_rfl
theorem ta_fault (a e : Int) (w : World) : (Instr.typeAssert (.iface 115 (.agg #[.int .i64 a, .int .i64 e])) 20 115 true).run Tryz.prog w = .ok (.tuple #[.agg #[.int .i64 a, .int .i64 e], .bool true]) w := by kernel_rfl
set_option maxRecDepth 20000 in
/-- Nothing to catch. -/
theorem catch_idle (R A E : Nat) (w : World) :
  CallsD Tryz.prog 59 #[.pointer (some ⟨R, 0, none⟩), .pointer (some ⟨A, 0, none⟩), .pointer (some ⟨E, 0, none⟩)] .returning w fun e u' w' => e = .returned (.tuple #[]) ∧ u' = .returning ∧ Kept No w w' := by
 refine callsD_of_wpS Tryz.func59 rfl fun c₀ cs hu => ?_
 rw [Tryz.ntmps59]
 simp only [List.size_toArray, List.length_cons, List.length_nil, Nat.reduceAdd, Nat.reduceSub, Array.replicate, List.replicate, List.append_toArray, List.cons_append, List.nil_append]
 apply wpS_seq
 apply wpS_region
 simp [wpOpsS, go_sem, recoverD, hu, Exit.thenS, ta_nil]
 refine wpS_of_wp ?_
 have hk : Kept No w (w.alloc (Obj.cells #[Value.int IntKind.i64 0, Value.int IntKind.i64 0] 115)) := (Kept.refl No w).alloc _
 have hc : c₀ = { c₀ with mode := FrameMode.returning } := by rw [← hu]
 go_wp2_with fail
 exact ⟨rfl, .returning, by rw [← hc], _, by simp [results, Tryz.results59, go_sem], rfl, rfl, hk⟩
set_option maxRecDepth 20000 in
set_option maxHeartbeats 4000000 in
/-- A fault is caught. -/
theorem catch_fault {R A E : Nat} {w : World} {k : Int} {t : ByteArray} {vt vn n : Int} {sv : Value} {na x y : Int} (a e : Int) (hR : w.heap[R]? = some (nb (ncs k t vt vn n sv na))) (hA : w.heap[A]? = some (.cells #[.int .i64 x] 3 (0, 0))) (hE : w.heap[E]? = some (.cells #[.int .i64 y] 23 (0, 0))) (hRA : R < A) (hAE : A < E) (older : List PanicEntry) :
  CallsD Tryz.prog 59 #[.pointer (some ⟨R, 0, none⟩), .pointer (some ⟨A, 0, none⟩), .pointer (some ⟨E, 0, none⟩)] (.panicking ({ v := .iface 115 (.agg #[.int .i64 a, .int .i64 e]), recovered := false } :: older)) w fun r u' w' =>
   r = .returned (.tuple #[]) ∧ u' = .panicking ({ v := .iface 115 (.agg #[.int .i64 a, .int .i64 e]), recovered := true } :: older) ∧ w'.heap[R]? = some (nb nz) ∧ w'.heap[A]? = some (.cells #[.int .i64 a] 3 (0, 0)) ∧ w'.heap[E]? = some (.cells #[.int .i64 e] 23 (0, 0)) ∧ Kept (fun b => b = R ∨ b = A ∨ b = E) w w' := by
 have hEl := hp_lt hE
 refine callsD_of_wpS Tryz.func59 rfl fun c₀ cs hu => ?_
 rw [Tryz.ntmps59]
 simp only [List.size_toArray, List.length_cons, List.length_nil, Nat.reduceAdd, Nat.reduceSub, Array.replicate, List.replicate, List.append_toArray, List.cons_append, List.nil_append]
 apply wpS_seq
 apply wpS_region
 simp [wpOpsS, go_sem, recoverD, hu, Exit.thenS, ta_fault]
 refine wpS_of_wp ?_
 have kn : Kept No w (w.alloc (Obj.cells #[Value.int IntKind.i64 a, Value.int IntKind.i64 e] 115)) := (Kept.refl No w).alloc _
 have hF : (w.alloc (Obj.cells #[Value.int IntKind.i64 a, Value.int IntKind.i64 e] 115)).heap[w.heap.size]? = some (fz a e) := World.alloc_heap_new w _
 obtain ⟨F, HF⟩ : ∃ F, Hid (w.heap.size = F) := ⟨_, show _ = _ from rfl⟩
 have hEF : E < F := by rw [← HF.out]; exact hEl
 obtain ⟨W0, HW0⟩ : ∃ W0, Hid (w.alloc (Obj.cells #[Value.int IntKind.i64 a, Value.int IntKind.i64 e] 115) = W0) := ⟨_, show _ = _ from rfl⟩
 try rw [HW0.out]
 rw [HW0.out] at kn hF
 rw [HF.out] at hF
 try rw [HF.out]
 have HR0 : Hid _ := kn.heap hR id
 have HA0 : Hid _ := kn.heap hA id
 have HE0 : Hid _ := kn.heap hE id
 have HK0 : Hid _ := kn
 have HF0 : Hid _ := hF
 clear hR hA hE kn hF HW0 HF hEl
 go_upto_region 2 with fail
 refine wp_region_held_drew (S := fun W => W.heap[F]? = some (fz a e)) (by kernel_rfl) HF0.out (fun hSS => ?_)
 have HR1 : Hid (W0.drew.heap[R]? = some (nb (ncs k t vt vn n sv na))) := HR0.out
 have HA1 : Hid (W0.drew.heap[A]? = some (.cells #[.int .i64 x] 3 (0, 0))) := HA0.out
 have HE1 : Hid (W0.drew.heap[E]? = some (.cells #[.int .i64 y] 23 (0, 0))) := HE0.out
 have HK1 : Hid (Kept (fun b => b = R ∨ b = A ∨ b = E) w W0.drew) := (HK0.out.mono (fun b hb => hb.elim)).drew
 generalize W0.drew = W1 at HR1 HA1 HE1 HK1 hSS ⊢
 clear HR0 HA0 HE0 HK0 HF0
 refine tk1 0 (.agg #[.int .i64 0, .string ⟨#[]⟩, .int .i64 0, .int .i64 0, .int .i64 0, .slice none 0 0, .int .i64 0]) rfl hSS ?_
 try simp only [Act.put, setIfInBounds_toArray, set_cons_zero, set_cons_succ, getElem_toArray, getElem_cons_zero, getElem_cons_succ]
 refine tk1 1 (.pointer (some ⟨F, 0, none⟩)) rfl hSS ?_
 try simp only [Act.put, setIfInBounds_toArray, set_cons_zero, set_cons_succ, getElem_toArray, getElem_cons_zero, getElem_cons_succ]
 refine wpAnyH_take (i := 2) (v := .int .i64 a) rfl (by kernel_rfl) (by kernel_rfl) (by kernel_rfl) (fun _ _ _ h => h) (Or.inl ⟨by rfl, by intro w' hw; have g0 := cell_of (show w'.heap[F]? = some (.cells #[.int .i64 a, .int .i64 e] 115 (0, 0)) from hw) 0; have g1 := cell_of (show w'.heap[F]? = some (.cells #[.int .i64 a, .int .i64 e] 115 (0, 0)) from hw) 1; go_simp⟩) hSS ?_
 try simp only [Act.put, setIfInBounds_toArray, set_cons_zero, set_cons_succ, getElem_toArray, getElem_cons_zero, getElem_cons_succ]
 refine tk1 3 (.pointer (some ⟨F, 1, none⟩)) rfl hSS ?_
 try simp only [Act.put, setIfInBounds_toArray, set_cons_zero, set_cons_succ, getElem_toArray, getElem_cons_zero, getElem_cons_succ]
 refine wpAnyH_take (i := 4) (v := .int .i64 e) rfl (by kernel_rfl) (by kernel_rfl) (by kernel_rfl) (fun _ _ _ h => h) (Or.inl ⟨by rfl, by intro w' hw; have g0 := cell_of (show w'.heap[F]? = some (.cells #[.int .i64 a, .int .i64 e] 115 (0, 0)) from hw) 0; have g1 := cell_of (show w'.heap[F]? = some (.cells #[.int .i64 a, .int .i64 e] 115 (0, 0)) from hw) 1; go_simp⟩) hSS ?_
 try simp only [Act.put, setIfInBounds_toArray, set_cons_zero, set_cons_succ, getElem_toArray, getElem_cons_zero, getElem_cons_succ]
 refine rd1 5 rfl (fun K hK => ?_)
 obtain ⟨r0, r1, r2, r3, r4, r5, r6⟩ := nb_cells HR1.out
 have rf := fun o => nb_frozen HR1.out o
 go_simp
 try go_wp2_with fail
 have ks : Kept (fun b => b = R) W1 (((((((W1.setCell ⟨R, 0, none⟩ (.int .i64 0)).setCell ⟨R, 1, none⟩ (.string ⟨#[]⟩)).setCell ⟨R, 2, none⟩ (.int .i64 0)).setCell ⟨R, 3, none⟩ (.int .i64 0)).setCell ⟨R, 4, none⟩ (.int .i64 0)).setCell ⟨R, 5, none⟩ (.slice none 0 0)).setCell ⟨R, 6, none⟩ (.int .i64 0)) := by
  repeat refine Kept.set ?_ _ _ _ (Or.inl rfl)
  exact Kept.refl _ _
 have HR2 : Hid ((((((((W1.setCell ⟨R, 0, none⟩ (.int .i64 0)).setCell ⟨R, 1, none⟩ (.string ⟨#[]⟩)).setCell ⟨R, 2, none⟩ (.int .i64 0)).setCell ⟨R, 3, none⟩ (.int .i64 0)).setCell ⟨R, 4, none⟩ (.int .i64 0)).setCell ⟨R, 5, none⟩ (.slice none 0 0)).setCell ⟨R, 6, none⟩ (.int .i64 0)).heap[R]? = some (nb nz)) := by
  have := set_same (set_same (set_same (set_same (set_same (set_same (set_same HR1.out 0 (.int .i64 0)) 1 (.string ⟨#[]⟩)) 2 (.int .i64 0)) 3 (.int .i64 0)) 4 (.int .i64 0)) 5 (.slice none 0 0)) 6 (.int .i64 0)
  exact this
 refine hK.out _ _ (ks.heap hSS (by omega)) (fun hSS => ?_)
 generalize (((((((W1.setCell ⟨R, 0, none⟩ (.int .i64 0)).setCell ⟨R, 1, none⟩ (.string ⟨#[]⟩)).setCell ⟨R, 2, none⟩ (.int .i64 0)).setCell ⟨R, 3, none⟩ (.int .i64 0)).setCell ⟨R, 4, none⟩ (.int .i64 0)).setCell ⟨R, 5, none⟩ (.slice none 0 0)).setCell ⟨R, 6, none⟩ (.int .i64 0)) = W2 at ks HR2 hSS ⊢
 have HA2 : Hid (W2.heap[A]? = some (.cells #[.int .i64 x] 3 (0, 0))) := ks.heap HA1.out (by omega)
 have HE2 : Hid (W2.heap[E]? = some (.cells #[.int .i64 y] 23 (0, 0))) := ks.heap HE1.out (by omega)
 have HK2 : Hid (Kept (fun b => b = R ∨ b = A ∨ b = E) w W2) := HK1.out.trans (ks.mono (fun b hb => .inl hb))
 clear hK K r0 r1 r2 r3 r4 r5 r6 rf ks HR1 HA1 HE1 HK1
 try simp only [Act.put, setIfInBounds_toArray, set_cons_zero, set_cons_succ, getElem_toArray, getElem_cons_zero, getElem_cons_succ]
 refine rd1 6 rfl (fun K hK => ?_)
 have a0 := cell_of HA2.out 0
 have af := frozen_of HA2.out 0
 go_simp
 try go_wp2_with fail
 have ks : Kept (fun b => b = A) W2 (W2.setCell ⟨A, 0, none⟩ (.int .i64 a)) := Kept.set (Kept.refl _ _) _ _ _ (Or.inl rfl)
 have HA3 : Hid ((W2.setCell ⟨A, 0, none⟩ (.int .i64 a)).heap[A]? = some (.cells #[.int .i64 a] 3 (0, 0))) := set_same HA2.out 0 (.int .i64 a)
 refine hK.out _ _ (ks.heap hSS (by omega)) (fun hSS => ?_)
 generalize W2.setCell ⟨A, 0, none⟩ (.int .i64 a) = W3 at ks HA3 hSS ⊢
 have HR3 : Hid (W3.heap[R]? = some (nb nz)) := ks.heap HR2.out (by omega)
 have HE3 : Hid (W3.heap[E]? = some (.cells #[.int .i64 y] 23 (0, 0))) := ks.heap HE2.out (by omega)
 have HK3 : Hid (Kept (fun b => b = R ∨ b = A ∨ b = E) w W3) := HK2.out.trans (ks.mono (fun b hb => .inr (.inl hb)))
 clear hK K a0 af ks HR2 HA2 HE2 HK2
 try simp only [Act.put, setIfInBounds_toArray, set_cons_zero, set_cons_succ, getElem_toArray, getElem_cons_zero, getElem_cons_succ]
 refine rd1 7 rfl (fun K hK => ?_)
 have e0 := cell_of HE3.out 0
 have ef := frozen_of HE3.out 0
 go_simp
 try go_wp2_with fail
 have ks : Kept (fun b => b = E) W3 (W3.setCell ⟨E, 0, none⟩ (.int .i64 e)) := Kept.set (Kept.refl _ _) _ _ _ (Or.inl rfl)
 have HE4 : Hid ((W3.setCell ⟨E, 0, none⟩ (.int .i64 e)).heap[E]? = some (.cells #[.int .i64 e] 23 (0, 0))) := set_same HE3.out 0 (.int .i64 e)
 refine hK.out _ _ (ks.heap hSS (by omega)) (fun hSS => ?_)
 generalize W3.setCell ⟨E, 0, none⟩ (.int .i64 e) = W4 at ks HE4 hSS ⊢
 have HR4 : Hid (W4.heap[R]? = some (nb nz)) := ks.heap HR3.out (by omega)
 have HA4 : Hid (W4.heap[A]? = some (.cells #[.int .i64 a] 3 (0, 0))) := ks.heap HA3.out (by omega)
 have HK4 : Hid (Kept (fun b => b = R ∨ b = A ∨ b = E) w W4) := HK3.out.trans (ks.mono (fun b hb => .inr (.inr hb)))
 clear hK K e0 ef ks HR3 HA3 HE3 HK3
 try simp only [Act.put, setIfInBounds_toArray, set_cons_zero, set_cons_succ, getElem_toArray, getElem_cons_zero, getElem_cons_succ]
 refine wpAnyH_done (by kernel_rfl) ?_ _
 go_wp2_with fail
 exact ⟨rfl, _, rfl, _, by simp [results, Tryz.results59, go_sem], rfl, rfl, HR4.out, HA4.out, HE4.out, HK4.out⟩
end Go.Proofs.YtgkgpjbbmnfnmaaGreatDoor

/- The whole source. -/
namespace Go.Proofs.YtgkgpjbbmnfnmaaGreatDoor
open Go.RowKit
open List (setIfInBounds_toArray set_cons_zero set_cons_succ getElem_toArray getElem_cons_zero getElem_cons_succ)
set_option linter.unusedSimpArgs false
set_option linter.unusedVariables false
/-- What the whole gives. -/
def WRes (w : World) (R : Except (Int × Int) Tr) (r : Ending) (w' : World) : Prop := Kept No w w' ∧ match R with
 | .ok x => ∃ cs, r = .returned (.tuple #[.agg cs.toArray, .int .i64 0, .int .i64 0]) ∧ NodeIs (fun b => b < w.heap.size) w' x cs
 | .error (a, e) => r = .returned (.tuple #[.agg nz.toArray, .int .i64 a, .int .i64 e])
theorem Ps.box {w w' : World} {R c : Nat} {V : Env} {p : Nat} (h : Ps w c V p) {k : Int} {t : ByteArray} {vt vn n : Int} {sv : Value} {na : Int} (hR : w.heap[R]? = some (nb (ncs k t vt vn n sv na))) (hk : Kept (fun b => b = R) w w') (hcR : c ≠ R) : Ps w' c V p := by
 obtain ⟨ao, cap, h1, h2⟩ := h.ex
 refine ⟨⟨ao, cap, hk.heap h1 hcR, fun j hj => ?_⟩, h.len, h.le⟩
 obtain ⟨g, o, e, hg, hc⟩ := h2 j hj
 refine ⟨g, o, e, hg, fun i hi => ?_⟩
 have hgR : g ≠ R := by
  rintro rfl
  have c6 := hc 6 (by omega)
  have c4 := hc 4 (by omega)
  rw [cell_of hR] at c6 c4
  simp only [tc, List.getElem?_cons_succ, List.getElem?_cons_zero, List.getElem?_toArray] at c6 c4
  have hl : o + j * 7 + 6 < 7 := by
   rcases Nat.lt_or_ge (o + j * 7 + 6) 7 with h' | h'
   ·exact h'
   ·rw [List.getElem?_eq_none (by simp [ncs]; omega)] at c6; cases c6
  have e4 : o + j * 7 + 4 = 4 := by omega
  rw [e4] at c4
  simp [ncs] at c4
 have := hc i hi
 rw [List.getElem?_eq_getElem (show i < (tc V.L[j]).length by simp [tc]; omega)] at this ⊢
 exact kept_cell hk hgR this
theorem fault_end {w W6 W7 : World} {T : Nat} {a x : Int} (ht : w.heap.size = T) (h6 : Kept No w W6) (hk : Kept (fun b => b = T + 1 ∨ b = T + 2 ∨ b = T + 3) W6 W7) (hR : W7.heap[T + 1]? = some (nb nz)) (hA : W7.heap[T + 2]? = some (.cells #[.int .i64 a] 3 (0, 0))) (hE : W7.heap[T + 3]? = some (.cells #[.int .i64 x] 23 (0, 0))) {tm : Array Value} (h2 : tm[2]? = some (.pointer (some ⟨T + 1, 0, none⟩))) (h3 : tm[3]? = some (.pointer (some ⟨T + 1 + 1, 0, none⟩))) (h4 : tm[4]? = some (.pointer (some ⟨T + 1 + 1 + 1, 0, none⟩))) :
  Leaves Tryz.prog Tryz.f33 tm (WRes w (.error (a, x))) [] (settle (.panicking [{ v := .iface 115 (.agg #[.int .i64 a, .int .i64 x]), recovered := true }])) W7 := by
 have HK7 : Kept No w W7 := h6.trans' hk (fun b hb => .inr (by rw [ht]; omega))
 obtain ⟨r0, r1, r2, r3, r4, r5, r6⟩ := nb_cells hR
 have a0 := cell_of hA 0
 have e0 := cell_of hE 0
 simp only [List.getElem?_toArray, List.getElem?_cons_zero] at a0 e0
 simp [Leaves, settle, results, Tryz.results33, go_sem, h2, h3, h4, r0, r1, r2, r3, r4, r5, r6, a0, e0]
 exact ⟨HK7, rfl⟩
theorem ok_end {w W9 : World} {T : Nat} {k : Int} {t : ByteArray} {vt vn n : Int} {l : List Tr} {na : Int} {sv : Value} (ht : w.heap.size = T) (h9 : Kept No w W9) (hN : NodeIs (fun b => b < T + 5) W9 (.mk k t vt vn n l na) (ncs k t vt vn n sv na)) (hR : W9.heap[T + 1]? = some (nb (ncs k t vt vn n sv na))) (hA : W9.heap[T + 2]? = some (.cells #[.int .i64 0] 3 (0, 0))) (hE : W9.heap[T + 3]? = some (.cells #[.int .i64 0] 23 (0, 0))) {tm : Array Value} (h2 : tm[2]? = some (.pointer (some ⟨T + 1, 0, none⟩))) (h3 : tm[3]? = some (.pointer (some ⟨T + 1 + 1, 0, none⟩))) (h4 : tm[4]? = some (.pointer (some ⟨T + 1 + 1 + 1, 0, none⟩))) :
  Leaves Tryz.prog Tryz.f33 tm (WRes w (.ok (.mk k t vt vn n l na))) [] (settle .returning) W9 := by
 obtain ⟨r0, r1, r2, r3, r4, r5, r6⟩ := nb_cells hR
 have a0 := cell_of hA 0
 have e0 := cell_of hE 0
 simp only [List.getElem?_toArray, List.getElem?_cons_zero] at a0 e0
 simp [Leaves, settle, results, Tryz.results33, go_sem, h2, h3, h4, r0, r1, r2, r3, r4, r5, r6, a0, e0]
 exact ⟨h9, _, rfl, NodeIs.mono (fun b hb => by show b < T + 5; have : b < w.heap.size := hb; omega) _ _ hN⟩
set_option maxRecDepth 20000 in
set_option maxHeartbeats 4000000 in
theorem whole_any {w : World} {V : Env} {ao : Option Addr} {cap : Nat} (hlen : V.L.length ≤ 8192)
  (hT : ∀ j (hj : j < V.L.length), ∃ g o, ao = some ⟨g, o, none⟩ ∧ g < w.heap.size ∧ ∀ i, i < 7 → w.cell? ⟨g, o + j * 7 + i, none⟩ = (tc V.L[j])[i]?) :
  Calls Tryz.prog 33 #[.agg #[.slice ao V.L.length cap, .int .i64 0, .int .i64 V.E]] w (WRes w (whole V)) := by
 have hmf : ∀ (fn : Fn) (first cap : Array Value) (w : World), (Instr.makeFunc fn first cap).run Tryz.prog w = .ok (.func fn first cap) w := fun _ _ _ _ => rfl
 obtain ⟨T, HTz⟩ : ∃ T, Hid (w.heap.size = T) := ⟨_, show _ = _ from rfl⟩
 obtain ⟨W1, HW1⟩ : ∃ W1, Hid (w.alloc (.cells #[.slice ao V.L.length cap, .int .i64 0, .int .i64 V.E] 85) = W1) := ⟨_, show _ = _ from rfl⟩
 obtain ⟨W2, HW2⟩ : ∃ W2, Hid (W1.alloc (.cells #[.int .i64 0, .string ⟨#[]⟩, .int .i64 0, .int .i64 0, .int .i64 0, .slice none 0 0, .int .i64 0] 43) = W2) := ⟨_, show _ = _ from rfl⟩
 obtain ⟨W3, HW3⟩ : ∃ W3, Hid (W2.alloc (.cells #[.int .i64 0] 3) = W3) := ⟨_, show _ = _ from rfl⟩
 obtain ⟨W4, HW4⟩ : ∃ W4, Hid (W3.alloc (.cells #[.int .i64 0] 23) = W4) := ⟨_, show _ = _ from rfl⟩
 obtain ⟨W5, HW5⟩ : ∃ W5, Hid (W4.alloc (.cells #[.slice ao V.L.length cap, .int .i64 0, .int .i64 V.E] 119) = W5) := ⟨_, show _ = _ from rfl⟩
 have k1 : Kept No w W1 := by rw [← HW1.out]; exact (Kept.refl No w).alloc _
 have k2 : Kept No W1 W2 := by rw [← HW2.out]; exact (Kept.refl No _).alloc _
 have k3 : Kept No W2 W3 := by rw [← HW3.out]; exact (Kept.refl No _).alloc _
 have k4 : Kept No W3 W4 := by rw [← HW4.out]; exact (Kept.refl No _).alloc _
 have k5 : Kept No W4 W5 := by rw [← HW5.out]; exact (Kept.refl No _).alloc _
 have s1 : W1.heap.size = T + 1 := by rw [← HW1.out, ← HTz.out]; simp
 have s2 : W2.heap.size = T + 2 := by rw [← HW2.out]; simp [s1]
 have s3 : W3.heap.size = T + 3 := by rw [← HW3.out]; simp [s2]
 have s4 : W4.heap.size = T + 4 := by rw [← HW4.out]; simp [s3]
 have e5 : W5.heap.size = T + 5 := by rw [← HW5.out]; simp [s4]
 have HK5 : Hid (Kept No w W5) := (((k1.trans k2).trans k3).trans k4).trans k5
 have HR5 : Hid (W5.heap[T + 1]? = some (nb nz)) := ((k3.trans k4).trans k5).heap (by rw [← HW2.out, ← s1]; exact World.alloc_heap_new W1 _) id
 have HA5 : Hid (W5.heap[T + 2]? = some (.cells #[.int .i64 0] 3 (0, 0))) := (k4.trans k5).heap (by rw [← HW3.out, ← s2]; exact World.alloc_heap_new W2 _) id
 have HE5 : Hid (W5.heap[T + 3]? = some (.cells #[.int .i64 0] 23 (0, 0))) := k5.heap (by rw [← HW4.out, ← s3]; exact World.alloc_heap_new W3 _) id
 have HC5 : Hid (W5.heap[T + 4]? = some (.cells #[.slice ao V.L.length cap, .int .i64 ((0 : Nat) : Int), .int .i64 V.E] 119 (0, 0))) := by
  show _ = _
  rw [← HW5.out, ← s4]; exact World.alloc_heap_new W4 _
 have hP : Ps W5 (T + 4) V 0 := by
  refine ⟨⟨ao, cap, HC5.out, fun j hj => ?_⟩, hlen, Nat.zero_le _⟩
  obtain ⟨g, o, e, hg, hc⟩ := hT j hj
  refine ⟨g, o, e, by rw [← HTz.out]; omega, fun i hi => ?_⟩
  have := hc i hi
  rw [List.getElem?_eq_getElem (show i < (tc V.L[j]).length by simp [tc]; omega)] at this ⊢
  exact kept_cell HK5.out id this
 have HB : Hid _ := block_is hP
 clear hP HC5 hT k1 k2 k3 k4 k5 s1 s2 s3 s4
 have ew : whole V = match (lev V 40).block 0 with
  | .error e => .error e
  | .ok (n, q) => if V.ended q then .ok n else .error (V.at q, 6) := rfl
 rw [ew]
 clear ew
 cases hb : (lev V 40).block 0 with
 | error e =>
  obtain ⟨a, x⟩ := e
  rw [hb] at HB
  clear hb
  go_enter_defers Tryz.func33, Tryz.ntmps33
  go_wp2_with fail
  rw [HW1.out, HW2.out, HW3.out, HW4.out, HW5.out, HTz.out]
  refine Calls.mono HB.out ?_
  rintro r W6 ⟨hk, rfl⟩
  have HR6 : W6.heap[T + 1]? = some (nb nz) := hk.heap HR5.out (by omega)
  have HA6 : W6.heap[T + 2]? = some (.cells #[.int .i64 0] 3 (0, 0)) := hk.heap HA5.out (by omega)
  have HE6 : W6.heap[T + 3]? = some (.cells #[.int .i64 0] 23 (0, 0)) := hk.heap HE5.out (by omega)
  have HK6 : Hid (Kept No w W6) := HK5.out.trans' hk (fun b hb => .inr (by rw [HTz.out]; omega))
  clear hk HB HR5 HA5 HE5 HK5 HW1 HW2 HW3 HW4 HW5 e5
  go_wp2_with fail
  refine leaves_cons (f := 59) (args := #[.pointer (some ⟨T + 1, 0, none⟩), .pointer (some ⟨T + 1 + 1, 0, none⟩), .pointer (some ⟨T + 1 + 1 + 1, 0, none⟩)]) (by simp) (by simp [go_sem]) ?_
  refine (catch_fault a x HR6 HA6 HE6 (by omega) (by omega) []).mono ?_
  rintro e u' W7 ⟨rfl, rfl, hR, hA, hE, hk⟩
  exact fault_end HTz.out HK6.out hk hR hA hE rfl rfl rfl
 | ok y =>
  obtain ⟨⟨k, t, vt, vn, n, l, na⟩, q⟩ := y
  rw [hb] at HB
  dsimp only
  clear hb
  cases hend : V.ended q with
  | true =>
   rw [if_pos rfl]
   go_enter_defers Tryz.func33, Tryz.ntmps33
   go_wp2_with fail
   rw [HW1.out, HW2.out, HW3.out, HW4.out, HW5.out, HTz.out]
   refine Calls.mono HB.out ?_
   rintro r W6 ⟨hk, ⟨cs, rfl, hN⟩, hP6⟩
   obtain ⟨sv, rfl, hl⟩ := NodeIs.cs.1 hN
   obtain ⟨ao', ln, cp, rfl⟩ := slice_of hl
   have HR6 : Hid (W6.heap[T + 1]? = some (nb nz)) := hk.heap HR5.out (by omega)
   have HA6 : Hid (W6.heap[T + 2]? = some (.cells #[.int .i64 0] 3 (0, 0))) := hk.heap HA5.out (by omega)
   have HE6 : Hid (W6.heap[T + 3]? = some (.cells #[.int .i64 0] 23 (0, 0))) := hk.heap HE5.out (by omega)
   have HK6 : Hid (Kept No w W6) := HK5.out.trans' hk (fun b hb => .inr (by rw [HTz.out]; omega))
   have HN6 : Hid (NodeIs (fun b => b < T + 5) W6 (.mk k t vt vn n l na) (ncs k t vt vn n (.slice ao' ln cp) na)) := by
    show NodeIs _ _ _ _
    rw [← e5]; exact hN
   have HP6 : Hid _ := hP6
   obtain ⟨r0, r1, r2, r3, r4, r5, r6⟩ := nb_cells HR6.out
   have rf := fun o => nb_frozen HR6.out o
   clear hk HB HR5 HA5 HE5 HK5 HW1 HW2 HW3 HW4 HW5 e5 hl hN hP6
   unfold ncs
   go_wp2_with fail
   have ks : Kept (fun b => b = T + 1) W6 (((((((W6.setCell ⟨T + 1, 0, none⟩ (.int .i64 k)).setCell ⟨T + 1, 1, none⟩ (.string t)).setCell ⟨T + 1, 2, none⟩ (.int .i64 vt)).setCell ⟨T + 1, 3, none⟩ (.int .i64 vn)).setCell ⟨T + 1, 4, none⟩ (.int .i64 n)).setCell ⟨T + 1, 5, none⟩ (.slice ao' ln cp)).setCell ⟨T + 1, 6, none⟩ (.int .i64 na)) := by
    repeat refine Kept.set ?_ _ _ _ (Or.inl rfl)
    exact Kept.refl _ _
   have HR7 : Hid ((((((((W6.setCell ⟨T + 1, 0, none⟩ (.int .i64 k)).setCell ⟨T + 1, 1, none⟩ (.string t)).setCell ⟨T + 1, 2, none⟩ (.int .i64 vt)).setCell ⟨T + 1, 3, none⟩ (.int .i64 vn)).setCell ⟨T + 1, 4, none⟩ (.int .i64 n)).setCell ⟨T + 1, 5, none⟩ (.slice ao' ln cp)).setCell ⟨T + 1, 6, none⟩ (.int .i64 na)).heap[T + 1]? = some (nb (ncs k t vt vn n (.slice ao' ln cp) na))) := by
    have := set_same (set_same (set_same (set_same (set_same (set_same (set_same HR6.out 0 (.int .i64 k)) 1 (.string t)) 2 (.int .i64 vt)) 3 (.int .i64 vn)) 4 (.int .i64 n)) 5 (.slice ao' ln cp)) 6 (.int .i64 na)
    exact this
   have HP7 : Hid (Ps (((((((W6.setCell ⟨T + 1, 0, none⟩ (.int .i64 k)).setCell ⟨T + 1, 1, none⟩ (.string t)).setCell ⟨T + 1, 2, none⟩ (.int .i64 vt)).setCell ⟨T + 1, 3, none⟩ (.int .i64 vn)).setCell ⟨T + 1, 4, none⟩ (.int .i64 n)).setCell ⟨T + 1, 5, none⟩ (.slice ao' ln cp)).setCell ⟨T + 1, 6, none⟩ (.int .i64 na)) (T + 4) V q) := HP6.out.box HR6.out ks (by omega)
   generalize (((((((W6.setCell ⟨T + 1, 0, none⟩ (.int .i64 k)).setCell ⟨T + 1, 1, none⟩ (.string t)).setCell ⟨T + 1, 2, none⟩ (.int .i64 vt)).setCell ⟨T + 1, 3, none⟩ (.int .i64 vn)).setCell ⟨T + 1, 4, none⟩ (.int .i64 n)).setCell ⟨T + 1, 5, none⟩ (.slice ao' ln cp)).setCell ⟨T + 1, 6, none⟩ (.int .i64 na)) = W7 at ks HR7 HP7 ⊢
   have HA7 : Hid (W7.heap[T + 2]? = some (.cells #[.int .i64 0] 3 (0, 0))) := ks.heap HA6.out (by omega)
   have HE7 : Hid (W7.heap[T + 3]? = some (.cells #[.int .i64 0] 23 (0, 0))) := ks.heap HE6.out (by omega)
   have HK7 : Hid (Kept No w W7) := HK6.out.trans' ks (fun b hb => .inr (by rw [HTz.out]; omega))
   have HN7 : Hid (NodeIs (fun b => b < T + 5) W7 (.mk k t vt vn n l na) (ncs k t vt vn n (.slice ao' ln cp) na)) := NodeIs.kept (ks.mono (fun b (hb : b = T + 1) => show b < T + 5 by omega)) _ _ HN6.out
   clear ks r0 r1 r2 r3 r4 r5 r6 rf HR6 HA6 HE6 HK6 HP6 HN6
   have HD : Hid _ := ended_any HP7.out
   rw [hend] at HD
   refine Calls.mono HD.out ?_
   rintro r W8 ⟨rfl, hk⟩
   have HR8 : Hid (W8.heap[T + 1]? = some (nb (ncs k t vt vn n (.slice ao' ln cp) na))) := hk.heap HR7.out id
   have HA8 : Hid (W8.heap[T + 2]? = some (.cells #[.int .i64 0] 3 (0, 0))) := hk.heap HA7.out id
   have HE8 : Hid (W8.heap[T + 3]? = some (.cells #[.int .i64 0] 23 (0, 0))) := hk.heap HE7.out id
   have HK8 : Hid (Kept No w W8) := HK7.out.trans hk
   have HN8 : Hid (NodeIs (fun b => b < T + 5) W8 (.mk k t vt vn n l na) (ncs k t vt vn n (.slice ao' ln cp) na)) := NodeIs.kept hk.no _ _ HN7.out
   have HP8 : Hid _ := HP7.out.no hk
   clear hk HD HR7 HA7 HE7 HK7 HN7 HP7
   obtain ⟨r0, r1, r2, r3, r4, r5, r6⟩ := nb_cells HR8.out
   have rf := fun o => nb_frozen HR8.out o
   have a0 := cell_of HA8.out 0
   have af := frozen_of HA8.out 0
   have e0 := cell_of HE8.out 0
   have ef := frozen_of HE8.out 0
   go_wp2_with fail
   have ks : Kept (fun b => b = T + 1 ∨ b = T + 2 ∨ b = T + 3) W8 (((((((((W8.setCell ⟨T + 1, 0, none⟩ (.int .i64 k)).setCell ⟨T + 1, 1, none⟩ (.string t)).setCell ⟨T + 1, 2, none⟩ (.int .i64 vt)).setCell ⟨T + 1, 3, none⟩ (.int .i64 vn)).setCell ⟨T + 1, 4, none⟩ (.int .i64 n)).setCell ⟨T + 1, 5, none⟩ (.slice ao' ln cp)).setCell ⟨T + 1, 6, none⟩ (.int .i64 na)).setCell ⟨T + 1 + 1, 0, none⟩ (.int .i64 0)).setCell ⟨T + 1 + 1 + 1, 0, none⟩ (.int .i64 0)) := by
    refine Kept.set ?_ _ _ _ (Or.inl (.inr (.inr rfl)))
    refine Kept.set ?_ _ _ _ (Or.inl (.inr (.inl rfl)))
    repeat refine Kept.set ?_ _ _ _ (Or.inl (.inl rfl))
    exact Kept.refl _ _
   have HR9 : Hid ((((((((((W8.setCell ⟨T + 1, 0, none⟩ (.int .i64 k)).setCell ⟨T + 1, 1, none⟩ (.string t)).setCell ⟨T + 1, 2, none⟩ (.int .i64 vt)).setCell ⟨T + 1, 3, none⟩ (.int .i64 vn)).setCell ⟨T + 1, 4, none⟩ (.int .i64 n)).setCell ⟨T + 1, 5, none⟩ (.slice ao' ln cp)).setCell ⟨T + 1, 6, none⟩ (.int .i64 na)).setCell ⟨T + 1 + 1, 0, none⟩ (.int .i64 0)).setCell ⟨T + 1 + 1 + 1, 0, none⟩ (.int .i64 0)).heap[T + 1]? = some (nb (ncs k t vt vn n (.slice ao' ln cp) na))) := by
    refine set_other (set_other ?_ _ _ (by omega)) _ _ (by omega)
    have := set_same (set_same (set_same (set_same (set_same (set_same (set_same HR8.out 0 (.int .i64 k)) 1 (.string t)) 2 (.int .i64 vt)) 3 (.int .i64 vn)) 4 (.int .i64 n)) 5 (.slice ao' ln cp)) 6 (.int .i64 na)
    exact this
   have HA9 : Hid ((((((((((W8.setCell ⟨T + 1, 0, none⟩ (.int .i64 k)).setCell ⟨T + 1, 1, none⟩ (.string t)).setCell ⟨T + 1, 2, none⟩ (.int .i64 vt)).setCell ⟨T + 1, 3, none⟩ (.int .i64 vn)).setCell ⟨T + 1, 4, none⟩ (.int .i64 n)).setCell ⟨T + 1, 5, none⟩ (.slice ao' ln cp)).setCell ⟨T + 1, 6, none⟩ (.int .i64 na)).setCell ⟨T + 1 + 1, 0, none⟩ (.int .i64 0)).setCell ⟨T + 1 + 1 + 1, 0, none⟩ (.int .i64 0)).heap[T + 2]? = some (.cells #[.int .i64 0] 3 (0, 0))) := by
    refine set_other (set_same (c := #[.int .i64 0]) ?_ 0 (.int .i64 0)) _ _ (by omega)
    repeat refine set_other ?_ _ _ (by omega)
    exact HA8.out
   have HE9 : Hid ((((((((((W8.setCell ⟨T + 1, 0, none⟩ (.int .i64 k)).setCell ⟨T + 1, 1, none⟩ (.string t)).setCell ⟨T + 1, 2, none⟩ (.int .i64 vt)).setCell ⟨T + 1, 3, none⟩ (.int .i64 vn)).setCell ⟨T + 1, 4, none⟩ (.int .i64 n)).setCell ⟨T + 1, 5, none⟩ (.slice ao' ln cp)).setCell ⟨T + 1, 6, none⟩ (.int .i64 na)).setCell ⟨T + 1 + 1, 0, none⟩ (.int .i64 0)).setCell ⟨T + 1 + 1 + 1, 0, none⟩ (.int .i64 0)).heap[T + 3]? = some (.cells #[.int .i64 0] 23 (0, 0))) := by
    refine set_same (c := #[.int .i64 0]) ?_ 0 (.int .i64 0)
    repeat refine set_other ?_ _ _ (by omega)
    exact HE8.out
   generalize (((((((((W8.setCell ⟨T + 1, 0, none⟩ (.int .i64 k)).setCell ⟨T + 1, 1, none⟩ (.string t)).setCell ⟨T + 1, 2, none⟩ (.int .i64 vt)).setCell ⟨T + 1, 3, none⟩ (.int .i64 vn)).setCell ⟨T + 1, 4, none⟩ (.int .i64 n)).setCell ⟨T + 1, 5, none⟩ (.slice ao' ln cp)).setCell ⟨T + 1, 6, none⟩ (.int .i64 na)).setCell ⟨T + 1 + 1, 0, none⟩ (.int .i64 0)).setCell ⟨T + 1 + 1 + 1, 0, none⟩ (.int .i64 0)) = W9 at ks HR9 HA9 HE9 ⊢
   have HK9 : Hid (Kept No w W9) := HK8.out.trans' ks (fun b hb => .inr (by rw [HTz.out]; omega))
   have HN9 : Hid (NodeIs (fun b => b < T + 5) W9 (.mk k t vt vn n l na) (ncs k t vt vn n (.slice ao' ln cp) na)) := NodeIs.kept (ks.mono (fun b (hb : b = T + 1 ∨ b = T + 2 ∨ b = T + 3) => show b < T + 5 by omega)) _ _ HN8.out
   clear ks r0 r1 r2 r3 r4 r5 r6 rf a0 af e0 ef HR8 HA8 HE8 HK8 HN8 HP8
   refine leaves_cons (f := 59) (args := #[.pointer (some ⟨T + 1, 0, none⟩), .pointer (some ⟨T + 1 + 1, 0, none⟩), .pointer (some ⟨T + 1 + 1 + 1, 0, none⟩)]) (by simp) (by simp [go_sem]) ?_
   refine (catch_idle (T + 1) (T + 1 + 1) (T + 1 + 1 + 1) W9).mono ?_
   rintro e u' W10 ⟨rfl, rfl, hk⟩
   exact ok_end HTz.out (HK9.out.trans hk) (NodeIs.kept hk.no _ _ HN9.out) (hk.heap HR9.out id) (hk.heap HA9.out id) (hk.heap HE9.out id) rfl rfl rfl
  | false =>
   rw [if_neg (by decide)]
   go_enter_defers Tryz.func33, Tryz.ntmps33
   go_wp2_with fail
   rw [HW1.out, HW2.out, HW3.out, HW4.out, HW5.out, HTz.out]
   refine Calls.mono HB.out ?_
   rintro r W6 ⟨hk, ⟨cs, rfl, hN⟩, hP6⟩
   obtain ⟨sv, rfl, hl⟩ := NodeIs.cs.1 hN
   obtain ⟨ao', ln, cp, rfl⟩ := slice_of hl
   have HR6 : Hid (W6.heap[T + 1]? = some (nb nz)) := hk.heap HR5.out (by omega)
   have HA6 : Hid (W6.heap[T + 2]? = some (.cells #[.int .i64 0] 3 (0, 0))) := hk.heap HA5.out (by omega)
   have HE6 : Hid (W6.heap[T + 3]? = some (.cells #[.int .i64 0] 23 (0, 0))) := hk.heap HE5.out (by omega)
   have HK6 : Hid (Kept No w W6) := HK5.out.trans' hk (fun b hb => .inr (by rw [HTz.out]; omega))
   have HN6 : Hid (NodeIs (fun b => b < T + 5) W6 (.mk k t vt vn n l na) (ncs k t vt vn n (.slice ao' ln cp) na)) := by
    show NodeIs _ _ _ _
    rw [← e5]; exact hN
   have HP6 : Hid _ := hP6
   obtain ⟨r0, r1, r2, r3, r4, r5, r6⟩ := nb_cells HR6.out
   have rf := fun o => nb_frozen HR6.out o
   clear hk HB HR5 HA5 HE5 HK5 HW1 HW2 HW3 HW4 HW5 e5 hl hN hP6
   unfold ncs
   go_wp2_with fail
   have ks : Kept (fun b => b = T + 1) W6 (((((((W6.setCell ⟨T + 1, 0, none⟩ (.int .i64 k)).setCell ⟨T + 1, 1, none⟩ (.string t)).setCell ⟨T + 1, 2, none⟩ (.int .i64 vt)).setCell ⟨T + 1, 3, none⟩ (.int .i64 vn)).setCell ⟨T + 1, 4, none⟩ (.int .i64 n)).setCell ⟨T + 1, 5, none⟩ (.slice ao' ln cp)).setCell ⟨T + 1, 6, none⟩ (.int .i64 na)) := by
    repeat refine Kept.set ?_ _ _ _ (Or.inl rfl)
    exact Kept.refl _ _
   have HR7 : Hid ((((((((W6.setCell ⟨T + 1, 0, none⟩ (.int .i64 k)).setCell ⟨T + 1, 1, none⟩ (.string t)).setCell ⟨T + 1, 2, none⟩ (.int .i64 vt)).setCell ⟨T + 1, 3, none⟩ (.int .i64 vn)).setCell ⟨T + 1, 4, none⟩ (.int .i64 n)).setCell ⟨T + 1, 5, none⟩ (.slice ao' ln cp)).setCell ⟨T + 1, 6, none⟩ (.int .i64 na)).heap[T + 1]? = some (nb (ncs k t vt vn n (.slice ao' ln cp) na))) := by
    have := set_same (set_same (set_same (set_same (set_same (set_same (set_same HR6.out 0 (.int .i64 k)) 1 (.string t)) 2 (.int .i64 vt)) 3 (.int .i64 vn)) 4 (.int .i64 n)) 5 (.slice ao' ln cp)) 6 (.int .i64 na)
    exact this
   have HP7 : Hid (Ps (((((((W6.setCell ⟨T + 1, 0, none⟩ (.int .i64 k)).setCell ⟨T + 1, 1, none⟩ (.string t)).setCell ⟨T + 1, 2, none⟩ (.int .i64 vt)).setCell ⟨T + 1, 3, none⟩ (.int .i64 vn)).setCell ⟨T + 1, 4, none⟩ (.int .i64 n)).setCell ⟨T + 1, 5, none⟩ (.slice ao' ln cp)).setCell ⟨T + 1, 6, none⟩ (.int .i64 na)) (T + 4) V q) := HP6.out.box HR6.out ks (by omega)
   generalize (((((((W6.setCell ⟨T + 1, 0, none⟩ (.int .i64 k)).setCell ⟨T + 1, 1, none⟩ (.string t)).setCell ⟨T + 1, 2, none⟩ (.int .i64 vt)).setCell ⟨T + 1, 3, none⟩ (.int .i64 vn)).setCell ⟨T + 1, 4, none⟩ (.int .i64 n)).setCell ⟨T + 1, 5, none⟩ (.slice ao' ln cp)).setCell ⟨T + 1, 6, none⟩ (.int .i64 na)) = W7 at ks HR7 HP7 ⊢
   have HA7 : Hid (W7.heap[T + 2]? = some (.cells #[.int .i64 0] 3 (0, 0))) := ks.heap HA6.out (by omega)
   have HE7 : Hid (W7.heap[T + 3]? = some (.cells #[.int .i64 0] 23 (0, 0))) := ks.heap HE6.out (by omega)
   have HK7 : Hid (Kept No w W7) := HK6.out.trans' ks (fun b hb => .inr (by rw [HTz.out]; omega))
   have HN7 : Hid (NodeIs (fun b => b < T + 5) W7 (.mk k t vt vn n l na) (ncs k t vt vn n (.slice ao' ln cp) na)) := NodeIs.kept (ks.mono (fun b (hb : b = T + 1) => show b < T + 5 by omega)) _ _ HN6.out
   clear ks r0 r1 r2 r3 r4 r5 r6 rf HR6 HA6 HE6 HK6 HP6 HN6
   have HD : Hid _ := ended_any HP7.out
   rw [hend] at HD
   refine Calls.mono HD.out ?_
   rintro r W8 ⟨rfl, hk⟩
   have HR8 : Hid (W8.heap[T + 1]? = some (nb (ncs k t vt vn n (.slice ao' ln cp) na))) := hk.heap HR7.out id
   have HA8 : Hid (W8.heap[T + 2]? = some (.cells #[.int .i64 0] 3 (0, 0))) := hk.heap HA7.out id
   have HE8 : Hid (W8.heap[T + 3]? = some (.cells #[.int .i64 0] 23 (0, 0))) := hk.heap HE7.out id
   have HK8 : Hid (Kept No w W8) := HK7.out.trans hk
   have HN8 : Hid (NodeIs (fun b => b < T + 5) W8 (.mk k t vt vn n l na) (ncs k t vt vn n (.slice ao' ln cp) na)) := NodeIs.kept hk.no _ _ HN7.out
   have HP8 : Hid _ := HP7.out.no hk
   clear hk HD HR7 HA7 HE7 HK7 HN7 HP7
   have HWr : Hid _ := wrong_any HP8.out
   go_wp2_with fail
   refine Calls.mono HWr.out ?_
   rintro r W9 ⟨rfl, hk⟩
   have HR9 := hk.heap HR8.out id
   have HA9 := hk.heap HA8.out id
   have HE9 := hk.heap HE8.out id
   have HK9 : Hid (Kept No w W9) := HK8.out.trans hk
   clear hk HWr HR8 HA8 HE8 HK8 HN8 HP8
   go_wp2_with fail
   refine leaves_cons (f := 59) (args := #[.pointer (some ⟨T + 1, 0, none⟩), .pointer (some ⟨T + 1 + 1, 0, none⟩), .pointer (some ⟨T + 1 + 1 + 1, 0, none⟩)]) (by simp) (by simp [go_sem]) ?_
   refine (catch_fault (V.at q) 6 HR9 HA9 HE9 (by omega) (by omega) []).mono ?_
   rintro e u' W7 ⟨rfl, rfl, hR, hA, hE, hk⟩
   exact fault_end HTz.out HK9.out hk hR hA hE rfl rfl rfl
end Go.Proofs.YtgkgpjbbmnfnmaaGreatDoor

/- Parse. -/
namespace Go.Proofs.YtgkgpjbbmnfnmaaGreatDoor
open Go.RowKit
open List (setIfInBounds_toArray set_cons_zero set_cons_succ getElem_toArray getElem_cons_zero getElem_cons_succ)
set_option linter.unusedSimpArgs false
set_option linter.unusedVariables false

theorem Lx.len {s : ByteArray} {hs : s.size ≤ 8192} {k : Nat} {e : Option (Nat × Int)} {L : List Tk} (h : Lx s hs k e L) : L.length ≤ s.size - k := by
 induction h with
 | done k hk => simp
 | bad k x hk hx h0 => simp
 | more k E X e L hk h1 h2 h3 h4 h5 h6 ih =>
  simp only [List.length_cons]
  omega
theorem fl_at (L : List Tk) (j : Nat) (hj : j < L.length) (i : Nat) (hi : i < 7) : (fl L)[j * 7 + i]? = (tc L[j])[i]? := by
 have h1 : fl L = (L.map tc).flatten := by unfold fl; rw [List.flatMap_def]
 rw [h1, flat_at (L.map tc) (fun cs hcs => by obtain ⟨x, _, rfl⟩ := List.mem_map.1 hcs; rfl) j (by simpa using hj) i hi]
 simp
theorem TRow.read {w : World} {B : Nat} {v : Value} {L : List Tk} (h : TRow w B v L) : ∃ ao cap, v = .slice ao L.length cap ∧ ∀ j (hj : j < L.length), ∃ g o, ao = some ⟨g, o, none⟩ ∧ g < w.heap.size ∧ ∀ i, i < 7 → w.cell? ⟨g, o + j * 7 + i, none⟩ = (tc L[j])[i]? := by
 obtain ⟨o1, o2⟩ := h
 rcases o2 with ⟨h2, h3⟩ | ⟨g, cap, cur, h3, h4, h5, h6, h7, h8, h9⟩
 ·have : L = [] := List.length_eq_zero_iff.1 h3
  subst this
  exact ⟨none, 0, h2, fun j hj => by simp at hj⟩
 ·have hlt : g < w.heap.size := (Array.getElem?_eq_some_iff.1 h5).1
  refine ⟨some ⟨g, 0, none⟩, cap, h3, fun j hj => ⟨g, 0, rfl, hlt, fun i hi => ?_⟩⟩
  rw [cell_of h5, ← fl_at L j hj i hi, ← h9, List.getElem?_take, if_pos (by omega), Array.getElem?_toList]
  congr 1
  omega
/-- What Parse makes of a source. -/
def PsR (s : ByteArray) (R : Except (Int × Int) Tr) : Prop :=
 (¬ s.size ≤ 8192 ∧ R = .error (0, 3)) ∨ ∃ (hs : s.size ≤ 8192) (e : Option (Nat × Int)) (L : List Tk), Lx s hs (skipB false (bl s)) e L ∧ R = match e with
  | some (k, x) => .error ((k : Int), x)
  | none => whole ⟨L, (s.size : Int)⟩
theorem PsR.all (s : ByteArray) : ∃ R, PsR s R := by
 by_cases hs : s.size ≤ 8192
 ·obtain ⟨e, L, h⟩ := Lx.all s hs (s.size - skipB false (bl s)) (skipB false (bl s)) (Nat.le_refl _)
  exact ⟨_, .inr ⟨hs, e, L, h, rfl⟩⟩
 ·exact ⟨_, .inl ⟨hs, rfl⟩⟩
theorem Lx.err {s : ByteArray} {hs : s.size ≤ 8192} {k : Nat} {e : Option (Nat × Int)} {L : List Tk} (h : Lx s hs k e L) : ∀ a x, e = some (a, x) → x ≠ 0 ∧ a ≤ s.size := by
 induction h with
 | done k hk => intro a x e; cases e
 | bad k x hk hx h0 =>
  intro a y e
  simp only [Option.some.injEq, Prod.mk.injEq] at e
  exact ⟨by rw [← e.2]; exact h0, by omega⟩
 | more k E X e L hk h1 h2 h3 h4 h5 h6 ih => exact ih

set_option maxRecDepth 20000 in
set_option maxHeartbeats 4000000 in
theorem parse_bad (s : ByteArray) (w : World) (a x : Int) (hx : x ≠ 0)
  (hL : ∀ W, Kept No w W → Calls Tryz.prog 10 #[.string s] W fun r w' => r = .returned (.tuple #[.slice none 0 0, .int .i64 a, .int .i64 x]) ∧ Kept No W w') :
  Calls Tryz.prog 18 #[.string s] w (WRes w (.error (a, x))) := by
 obtain ⟨W0, HW0⟩ : ∃ W0, Hid (w.alloc (nb nz) = W0) := ⟨_, show _ = _ from rfl⟩
 have HK0 : Hid (Kept No w W0) := by show Kept _ _ _; rw [← HW0.out]; exact (Kept.refl No w).alloc _
 have HT0 : Hid (W0.heap[w.heap.size]? = some (nb nz)) := by show _ = _; rw [← HW0.out]; exact World.alloc_heap_new w _
 have HA : Hid _ := hL W0 HK0.out
 unfold nb nz ncs at HW0
 have qx : (x == 0) = false := by simpa using hx
 clear hL hx
 go_enter Tryz.func18, Tryz.ntmps18
 go_wp2_with fail
 rw [HW0.out]
 refine Calls.mono HA.out ?_
 rintro r W1 ⟨rfl, hk1⟩
 have hR1 : W1.heap[w.heap.size]? = some (nb nz) := hk1.heap HT0.out id
 have HK1 : Hid (Kept No w W1) := HK0.out.trans hk1
 obtain ⟨r0, r1, r2, r3, r4, r5, r6⟩ := nb_cells hR1
 have rf := fun o => nb_frozen hR1 o
 clear hk1 HA HW0 HT0 HK0 hR1
 go_wp2_with fail
 refine bodyPost_ret (v := .tuple #[.agg nz.toArray, .int .i64 a, .int .i64 x]) (by simp [results, Tryz.results18, go_sem, nz, ncs, r0, r1, r2, r3, r4, r5, r6]) rfl ⟨?_, rfl⟩
 repeat refine Kept.set ?_ _ _ _ (Or.inr (Nat.le_refl _))
 exact HK1.out

set_option maxRecDepth 20000 in
set_option maxHeartbeats 4000000 in
theorem parse_ok (s : ByteArray) (w : World) (he : ErrIs w) (hg : SgIs w) (hs : s.size ≤ 8192) {L : List Tk} (hL : Lx s hs (skipB false (bl s)) none L) :
  Calls Tryz.prog 18 #[.string s] w (WRes w (whole ⟨L, (s.size : Int)⟩)) := by
 have hlen : L.length ≤ 8192 := Nat.le_trans hL.len (by omega)
 obtain ⟨W0, HW0⟩ : ∃ W0, Hid (w.alloc (nb nz) = W0) := ⟨_, show _ = _ from rfl⟩
 have HK0 : Hid (Kept No w W0) := by show Kept _ _ _; rw [← HW0.out]; exact (Kept.refl No w).alloc _
 have HT0 : Hid (W0.heap[w.heap.size]? = some (nb nz)) := by show _ = _; rw [← HW0.out]; exact World.alloc_heap_new w _
 have HS0 : Hid (W0.heap.size = w.heap.size + 1) := by show _ = _; rw [← HW0.out]; simp
 have HA : Hid _ := Lex_is s W0 (he.no HK0.out) (hg.no HK0.out) hs hL
 unfold nb nz ncs at HW0
 clear hL he hg
 cases hR : whole ⟨L, (s.size : Int)⟩ with
 | error e =>
  obtain ⟨a, x⟩ := e
  go_enter Tryz.func18, Tryz.ntmps18
  go_wp2_with fail
  rw [HW0.out]
  refine Calls.mono HA.out ?_
  rintro r W1 ⟨⟨v, rfl, hT⟩, hk1⟩
  obtain ⟨ao, cap, rfl, hc⟩ := hT.read
  have HA1 : Hid (Calls Tryz.prog 33 #[.agg #[.slice ao L.length cap, .int .i64 0, .int .i64 (s.size : Int)]] W1 (WRes W1 (.error (a, x)))) := by
   have := whole_any (V := ⟨L, (s.size : Int)⟩) (w := W1) (ao := ao) (cap := cap) hlen hc
   rw [hR] at this
   exact this
  have HT1 : Hid (W1.heap[w.heap.size]? = some (nb nz)) := hk1.heap HT0.out id
  have HK1 : Hid (Kept No w W1) := HK0.out.trans hk1
  clear hk1 HA HW0 HT0 HK0 hT hc hR HS0
  go_wp2_with fail
  refine Calls.mono HA1.out ?_
  rintro r W2 ⟨hk2, rfl⟩
  have hR2 : W2.heap[w.heap.size]? = some (nb nz) := hk2.heap HT1.out id
  have HK2 : Hid (Kept No w W2) := HK1.out.trans hk2
  obtain ⟨r0, r1, r2, r3, r4, r5, r6⟩ := nb_cells hR2
  have rf := fun o => nb_frozen hR2 o
  clear hk2 HA1 HT1 HK1 hR2
  unfold nz ncs
  go_wp2_with fail
  refine bodyPost_ret (v := .tuple #[.agg nz.toArray, .int .i64 a, .int .i64 x]) (by simp [results, Tryz.results18, go_sem, nz, ncs, r0, r1, r2, r3, r4, r5, r6]) rfl ⟨?_, rfl⟩
  repeat refine Kept.set ?_ _ _ _ (Or.inr (Nat.le_refl _))
  exact HK2.out
 | ok y =>
  obtain ⟨k, t, vt, vn, n, l, na⟩ := y
  go_enter Tryz.func18, Tryz.ntmps18
  go_wp2_with fail
  rw [HW0.out]
  refine Calls.mono HA.out ?_
  rintro r W1 ⟨⟨v, rfl, hT⟩, hk1⟩
  obtain ⟨ao, cap, rfl, hc⟩ := hT.read
  have HA1 : Hid (Calls Tryz.prog 33 #[.agg #[.slice ao L.length cap, .int .i64 0, .int .i64 (s.size : Int)]] W1 (WRes W1 (.ok (.mk k t vt vn n l na)))) := by
   have := whole_any (V := ⟨L, (s.size : Int)⟩) (w := W1) (ao := ao) (cap := cap) hlen hc
   rw [hR] at this
   exact this
  have HT1 : Hid (W1.heap[w.heap.size]? = some (nb nz)) := hk1.heap HT0.out id
  have HK1 : Hid (Kept No w W1 ∧ w.heap.size < W1.heap.size) := ⟨HK0.out.trans hk1, by have := hk1.size; have := HS0.out; omega⟩
  clear hk1 HA HW0 HT0 HK0 hT hc hR HS0
  go_wp2_with fail
  refine Calls.mono HA1.out ?_
  rintro r W2 ⟨hk2, cs, rfl, hN⟩
  obtain ⟨sv, rfl, hl⟩ := NodeIs.cs.1 hN
  obtain ⟨ao', ln, cp, rfl⟩ := slice_of hl
  have hR2 : W2.heap[w.heap.size]? = some (nb nz) := hk2.heap HT1.out id
  have HK2 : Hid (Kept No w W2) := HK1.out.1.trans hk2
  have HN2 : Hid (NodeIs (fun b => b < w.heap.size + 1) W2 (.mk k t vt vn n l na) (ncs k t vt vn n (.slice ao' ln cp) na)) := NodeIs.mono (fun b (hb : b < w.heap.size + 1) => show b < W1.heap.size by have := HK1.out.2; omega) _ _ hN
  obtain ⟨r0, r1, r2, r3, r4, r5, r6⟩ := nb_cells hR2
  have rf := fun o => nb_frozen hR2 o
  clear hk2 HA1 HT1 HK1 hR2 hl hN
  unfold ncs
  go_wp2_with fail
  refine bodyPost_ret (v := .tuple #[.agg (ncs k t vt vn n (.slice ao' ln cp) na).toArray, .int .i64 0, .int .i64 0]) (by simp [results, Tryz.results18, go_sem, nz, ncs, r0, r1, r2, r3, r4, r5, r6]) rfl ⟨?_, _, rfl, NodeIs.mono (fun b (hb : b < w.heap.size) => Nat.lt_succ_of_lt hb) _ _ (NodeIs.kept ?_ _ _ HN2.out)⟩
  ·repeat refine Kept.set ?_ _ _ _ (Or.inr (Nat.le_refl _))
   exact HK2.out
  ·repeat refine Kept.set ?_ _ _ _ (Or.inl (Nat.lt_succ_self _))
   exact Kept.refl _ _
/-- Parse does what is said. -/
theorem Parse_any (s : ByteArray) (w : World) (he : ErrIs w) (hg : SgIs w) {R : Except (Int × Int) Tr} (h : PsR s R) : Calls Tryz.prog 18 #[.string s] w (WRes w R) := by
 rcases h with ⟨hs, rfl⟩ | ⟨hs, e, L, hL, rfl⟩
 ·exact parse_bad s w 0 3 (by decide) (fun W hk => Lex_long s W hs)
 ·cases e with
  | some e =>
   obtain ⟨k, x⟩ := e
   refine parse_bad s w k x (hL.err k x rfl).1 (fun W hk => Calls.mono (Lex_is s W (he.no hk) (hg.no hk) hs hL) ?_)
   rintro r w' ⟨rfl, hk⟩
   exact ⟨rfl, hk⟩
  | none => exact parse_ok s w he hg hs hL
end Go.Proofs.YtgkgpjbbmnfnmaaGreatDoor
