/- Joined: TQ TR TS TT. -/
import Derived.Test.YtgkgpjbbmnfnmaaGreatDoorRV
import Derived.Test.YtgkgpjbbmnfnmaaGreatDoorGA
import Derived.Test.YtgkgpjbbmnfnmaaGreatDoorGJ
import Derived.Test.YtgkgpjbbmnfnmaaGreatDoorGH
/- local. -/
namespace Go.Proofs.YtgkgpjbbmnfnmaaGreatDoor
open Go.RowKit
set_option linter.unusedSimpArgs false
set_option linter.unusedVariables false

theorem BldZ.own_lt {Z : Nat → Prop} {B : Nat} {w : World} {v : Value} {l : List Tr} (h : BldZ Z B w v l) : ∀ k, v.ownBlock = some k → B ≤ k ∧ k < w.heap.size := by
 obtain ⟨css, _, ho, _⟩ := h.ex
 exact ho.lt

set_option maxRecDepth 20000 in
set_option maxHeartbeats 8000000 in
theorem local_any {w : World} {c : Nat} {V : Env} {p : Nat} {G : Lev} {l : Nat} (hG : LevIs V G (l + 1)) (h : Ps w c V p) (hp : p < V.L.length) :
  Calls Tryz.prog 135 #[.pointer (some ⟨c, 0, none⟩), .int .i64 (l : Int)] w (PRes c V w (localS V G p)) := by
 obtain ⟨W0, HW0⟩ : ∃ W0, Hid (w.alloc (nb nz) = W0) := ⟨_, show _ = _ from rfl⟩
 have HS0 : Hid (Sx w c V p (.mk 0 ⟨#[]⟩ 0 0 0 [] 0) nz W0) := by
  have ka : Kept No w W0 := by rw [← HW0.out]; exact (Kept.refl No w).alloc _
  exact ⟨ka.no, h.no ka, by rw [← HW0.out]; exact World.alloc_heap_new w _, leaf_is _ _ _ _ _ _ _ _⟩
 have hcl := h.lt
 have hle := hG.le
 have hlen := h.len
 have HLi : Hid (∀ {w' : World} {q : Nat}, Ps w' c V q → Calls Tryz.prog 134 #[.pointer (some ⟨c, 0, none⟩), .int .i64 ((l : Int) + 1)] w' (PResL c V w' (listE V G q))) := fun hq => by
  have := list_any hG hq
  rw [show ((l + 1 : Nat) : Int) = (l : Int) + 1 by omega] at this
  exact this
 have HNa : Hid (∀ {w' : World} {q : Nat}, Ps w' c V q → Calls Tryz.prog 164 #[.pointer (some ⟨c, 0, none⟩), .int .i64 ((l : Int) + 1)] w' (PResP c V w' (namedS V G q))) := fun hq => by
  have := named_any hG hq
  rw [show ((l + 1 : Nat) : Int) = (l : Int) + 1 by omega] at this
  exact this
 have HLf : Hid (∀ p l q, listE V G p = .ok (l, q) → l.length ≤ 10000) := fun p l q h => by
  have h1 := sep_le (hG.go.above 0) _ _ _ _ h
  have h2 := (listE_go hG.go _ _ _ h).2
  omega
 obtain ⟨ap, Hap⟩ : ∃ ap, Hid (V.at p = ap) := ⟨_, show _ = _ from rfl⟩
 obtain ⟨RR, HR⟩ : ∃ RR, Hid (localS V G p = RR) := ⟨_, show _ = _ from rfl⟩
 rw [HR.out]
 have HTk : Hid _ := take_any HS0.out.ps hp
 obtain ⟨x, HX⟩ : ∃ x, Hid (V.tk p = x) := ⟨_, show _ = _ from rfl⟩
 have ea : ap = x.a := by rw [← Hap.out]; unfold Env.at; rw [HX.out]
 rw [HX.out] at HTk
 have fa := fun w => fd45a x w
 obtain ⟨b1, Hb1⟩ : ∃ b1, Hid (V.is sFunction (p + 1) = b1) := ⟨_, show _ = _ from rfl⟩
 have HRf : Hid (RR = if b1 then match namedS V G (p + 1) with | .error e => .error e | .ok ((n, f), q) => .ok (nd 29 [n, f] ap, q) else match V.names (p + 1) with | .error e => .error e | .ok (l, q) => if V.is [61] q then match listE V G (q + 1) with | .error e => .error e | .ok (m, r) => .ok (.mk 21 ⟨#[]⟩ 0 0 (l.length : Int) (l ++ m) ap, r) else .ok (.mk 21 ⟨#[]⟩ 0 0 (l.length : Int) l ap, q)) := by
  show _ = _
  rw [← HR.out]; unfold localS; rw [Hap.out, Hb1.out]
  rfl
 have u1 : IntKind.i64.wrap ((l : Int) + 1) = (l : Int) + 1 := by rw [IntKind.wrap_i64]; omega
 obtain ⟨zk, zt, zvt, zvn, zsy, za, ze⟩ := x
 dsimp only at fa ea
 subst ea
 unfold nb nz ncs at HW0
 clear h hG HR
 go_enter Tryz.func135, Tryz.ntmps135
 go_wp2_with fail
 rw [HW0.out]
 clear HW0
 refine Calls.mono HTk.out ?_
 rintro r W1 ⟨rfl, hk1, hp1⟩
 have HS1 : Hid (Sx w c V (p + 1) (.mk 0 ⟨#[]⟩ 0 0 0 [] 0) nz W1) := HS0.out.go hcl hk1 hp1
 have HIs : Hid (Calls Tryz.prog 99 #[.pointer (some ⟨c, 0, none⟩), .string ⟨#[102, 117, 110, 99, 116, 105, 111, 110]⟩] W1 fun r w' => r = .returned (.bool b1) ∧ Kept No W1 w') := by
  have := is_any HS1.out.ps ⟨#[102, 117, 110, 99, 116, 105, 111, 110]⟩
  rw [show V.is (⟨#[102, 117, 110, 99, 116, 105, 111, 110]⟩ : ByteArray).data.toList (p + 1) = b1 from Hb1.out] at this
  exact this
 clear hk1 hp1 HTk HS0
 unfold tv
 dsimp only
 go_wp2_with fail
 refine Calls.mono HIs.out ?_
 rintro r W2 ⟨rfl, hk2⟩
 have HS2 : Hid (Sx w c V (p + 1) (.mk 0 ⟨#[]⟩ 0 0 0 [] 0) nz W2) := HS1.out.no hk2
 clear HS1 hk2 HIs
 cases b1 with
 | true =>
  rw [if_pos rfl] at HRf
  clear HLi HLf Hb1
  have HE : Hid _ := HNa.out HS2.out.ps
  go_wp2_with fail
  cases hab : namedS V G (p + 1) with
  | error e =>
   obtain ⟨ea, ex⟩ := e
   rw [hab] at HE
   have HRe : Hid (RR = .error (ea, ex)) := by show _ = _; rw [HRf.out, hab]
   clear hab HRf
   refine Calls.mono HE.out ?_
   rintro r W9 ⟨hk9, rfl⟩
   have HF : Hid (Kept (fun b => b = c) w W9) := HS2.out.kept.trans hk9
   clear hk9 HE HS2
   try go_wp2_with fail
   refine ⟨rfl, ?_⟩
   show PRes c V w RR _ _
   rw [HRe.out]
   exact ⟨HF.out, rfl⟩
  | ok z =>
   obtain ⟨⟨⟨nk, nt, nvt, nvn, nn, nl, na⟩, ⟨yk, yt, yvt, yvn, yn, yl, ya⟩⟩, q⟩ := z
   rw [hab] at HE
   have HRe : Hid (RR = .ok (nd 29 [.mk nk nt nvt nvn nn nl na, .mk yk yt yvt yvn yn yl ya] ap, q)) := by show _ = _; rw [HRf.out, hab]
   clear hab HRf
   refine Calls.mono HE.out ?_
   rintro r W3 ⟨hk3, ⟨cs, ds, rfl, hx, hy⟩, hp3⟩
   obtain ⟨sv, rfl, hls⟩ := NodeIs.cs.1 hx
   obtain ⟨no, nln, nc, rfl⟩ := slice_of hls
   obtain ⟨sv, rfl, hls'⟩ := NodeIs.cs.1 hy
   obtain ⟨yo, yln, yc, rfl⟩ := slice_of hls'
   obtain ⟨W4, HW4⟩ : ∃ W4, Hid (W4 = (W3.alloc (nb (ncs nk nt nvt nvn nn (.slice no nln nc) na))).alloc (nb (ncs yk yt yvt yvn yn (.slice yo yln yc) ya))) := ⟨_, show _ = _ from rfl⟩
   have ka : Kept No W3 W4 := by rw [HW4.out]; exact ((Kept.refl No W3).alloc _).alloc _
   have hz1 := hp_lt HS2.out.box
   have hz2 := hk3.size
   have HS4 : Hid (Sx w c V q (.mk 0 ⟨#[]⟩ 0 0 0 [] 0) nz W4) := (HS2.out.go hcl hk3 hp3).no ka
   have hT4 : W4.heap[W3.heap.size]? = some (nb (ncs nk nt nvt nvn nn (.slice no nln nc) na)) ∧ W4.heap[W3.heap.size + 1]? = some (nb (ncs yk yt yvt yvn yn (.slice yo yln yc) ya)) := by
    rw [HW4.out]
    refine ⟨((Kept.refl No (W3.alloc (nb (ncs nk nt nvt nvn nn (.slice no nln nc) na)))).alloc (nb (ncs yk yt yvt yvn yn (.slice yo yln yc) ya))).heap (World.alloc_heap_new W3 _) id, ?_⟩
    have := World.alloc_heap_new (W3.alloc (nb (ncs nk nt nvt nvn nn (.slice no nln nc) na))) (nb (ncs yk yt yvt yvn yn (.slice yo yln yc) ya))
    rw [show (W3.alloc (nb (ncs nk nt nvt nvn nn (.slice no nln nc) na))).heap.size = W3.heap.size + 1 by simp] at this
    exact this
   have hm : ∀ x cs, NodeIs (fun b => b < W2.heap.size) W3 x cs → NodeIs (fun b => b ≤ w.heap.size) W4 x cs := fun x cs hx => NodeIs.kept ka.no _ _ (NodeIs.mono (fun b (hb : b ≤ w.heap.size) => by show b < _; omega) _ _ hx)
   have HN4 : Hid (NodeIs (fun b => b ≤ w.heap.size) W4 (.mk nk nt nvt nvn nn nl na) (ncs nk nt nvt nvn nn (.slice no nln nc) na)) := hm _ _ hx
   have HY4 : Hid (NodeIs (fun b => b ≤ w.heap.size) W4 (.mk yk yt yvt yvn yn yl ya) (ncs yk yt yvt yvn yn (.slice yo yln yc) ya)) := hm _ _ hy
   obtain ⟨g0, g1, g2, g3, g4, g5, g6⟩ := nb_cells hT4.1
   obtain ⟨k0, k1, k2, k3, k4, k5, k6⟩ := nb_cells hT4.2
   obtain ⟨W6, HW6⟩ : ∃ W6, Hid (W6 = W4.alloc (nb (ncs nk nt nvt nvn nn (.slice no nln nc) na ++ ncs yk yt yvt yvn yn (.slice yo yln yc) ya))) := ⟨_, show _ = _ from rfl⟩
   have kb : Kept No W4 W6 := by rw [HW6.out]; exact (Kept.refl No W4).alloc _
   have hz3 := hp_lt HS4.out.box
   have HL6 : Hid _ := pair_list HN4.out HY4.out (show ¬ W4.heap.size ≤ w.heap.size by omega)
   rw [← HW6.out] at HL6
   have HK6 : Hid _ := HS4.out.kept.trans kb.no
   have HP6 : Hid _ := HS4.out.ps.no kb
   have HB6 : Hid _ := kb.heap HS4.out.box id
   obtain ⟨r0, r1, r2, r3, r4, r5, r6⟩ := nb_cells HB6.out
   have rf := fun o => nb_frozen HB6.out o
   unfold nb ncs at HW4 HW6
   simp only [List.cons_append, List.nil_append] at HW6
   clear hk3 hx hy hm hp3 hls hls' ka HE HS2 hT4 HS4 HN4 HY4 kb hz3
   unfold ncs
   go_wp2_with (first | rw [← HW4.out] | rw [← HW6.out])
   refine bodyPost_ret (v := .agg (ncs 29 ⟨#[]⟩ 0 0 0 (.slice (some ⟨W4.heap.size, 0, none⟩) 2 2) ap).toArray) (by simp [results, Tryz.results135, go_sem, ncs, r0, r1, r2, r3, r4, r5, r6]) rfl ?_
   show PRes c V w RR _ _
   rw [HRe.out]
   have HS7 := Sx.put (k := 29) (t := ⟨#[]⟩) (vt := 0) (vn := 0) (m := 0) (a := ap) hcl HK6.out HP6.out HB6.out rfl HL6.out rfl
   exact ⟨HS7.kept, ⟨_, rfl, NodeIs.mono (fun b (hb : b < w.heap.size) => Nat.le_of_lt hb) _ _ HS7.node⟩, HS7.ps⟩
 | false =>
  rw [if_neg (by decide)] at HRf
  clear HNa Hb1
  have HE : Hid _ := names_bld HS2.out.ps
  go_wp2_with fail
  cases hab : V.names (p + 1) with
  | error e =>
   obtain ⟨ea, ex⟩ := e
   rw [hab] at HE
   have HRe : Hid (RR = .error (ea, ex)) := by show _ = _; rw [HRf.out, hab]
   clear hab HRf
   refine Calls.mono HE.out ?_
   rintro r W9 ⟨hk9, rfl⟩
   have HF : Hid (Kept (fun b => b = c) w W9) := HS2.out.kept.trans hk9
   clear hk9 HE HS2
   try go_wp2_with fail
   refine ⟨rfl, ?_⟩
   show PRes c V w RR _ _
   rw [HRe.out]
   exact ⟨HF.out, rfl⟩
  | ok z =>
   obtain ⟨ls, q⟩ := z
   rw [hab] at HE
   have HRg : Hid (RR = if V.is [61] q then match listE V G (q + 1) with | .error e => .error e | .ok (m, r) => .ok (.mk 21 ⟨#[]⟩ 0 0 (ls.length : Int) (ls ++ m) ap, r) else .ok (.mk 21 ⟨#[]⟩ 0 0 (ls.length : Int) ls ap, q)) := by show _ = _; rw [HRf.out, hab]
   clear hab HRf
   refine Calls.mono HE.out ?_
   rintro r W3 ⟨hk3, ⟨sv, rfl, hb3⟩, hp3, hln⟩
   obtain ⟨nl, hnl⟩ : ∃ nl, ls.length = nl := ⟨_, rfl⟩
   obtain ⟨so, sc, rfl⟩ : ∃ so sc, sv = .slice so nl sc := by
    rcases hb3.list with ⟨h1, h2⟩ | ⟨b, o, cap, h1, _⟩
    ·exact ⟨none, 0, by rw [h2, ← hnl, h1]; rfl⟩
    ·exact ⟨_, _, by rw [h1, hnl]⟩
   rw [hnl] at HRg hln
   have hll : ls.length ≤ 10000 := by omega
   obtain ⟨B, hB⟩ : ∃ B, W2.heap.size = B := ⟨_, rfl⟩
   rw [hB] at hb3
   obtain ⟨W4, HW4⟩ : ∃ W4, Hid (W4 = W3.alloc (nb (ncs 21 ⟨#[]⟩ 0 0 0 (.slice so nl sc) ap))) := ⟨_, show _ = _ from rfl⟩
   have ka : Kept No W3 W4 := by rw [HW4.out]; exact (Kept.refl No W3).alloc _
   obtain ⟨T, HT⟩ : ∃ T, Hid (W3.heap.size = T) := ⟨_, show _ = _ from rfl⟩
   have hz1 := hp_lt HS2.out.box
   have hz2 := hk3.size
   have hBw : w.heap.size < B := by omega
   have hBT : B ≤ T := by have := HT.out; omega
   have hS3 := (HS2.out.go hcl hk3 hp3).no ka
   have hT4 : W4.heap[T]? = some (nb (ncs 21 ⟨#[]⟩ 0 0 0 (.slice so nl sc) ap)) := by rw [HW4.out, ← HT.out]; exact World.alloc_heap_new W3 _
   have hZ4 : BldZ (fun b => b = T) B W4 (.slice so nl sc) ls := by rw [HW4.out, ← HT.out]; exact hb3.box _
   have kw : Kept (fun b => b = T) W4 (W4.setCell ⟨T, 4, none⟩ (.int .i64 (nl : Int))) := Kept.set (Kept.refl _ _) _ _ _ (Or.inl rfl)
   obtain ⟨W5, HW5⟩ : ∃ W5, Hid (W5 = W4.setCell ⟨T, 4, none⟩ (.int .i64 (nl : Int))) := ⟨_, show _ = _ from rfl⟩
   have HT5 : Hid (W5.heap[T]? = some (nb (ncs 21 ⟨#[]⟩ 0 0 (nl : Int) (.slice so nl sc) ap))) := by show _ = _; rw [HW5.out]; exact set_same hT4 4 (.int .i64 (nl : Int))
   rw [← HW5.out] at kw
   have HS5 : Hid (Sx w c V q (.mk 0 ⟨#[]⟩ 0 0 0 [] 0) nz W5) := ⟨hS3.kept.trans' kw (fun i e => .inr (by omega)), hS3.ps.low (fun j hj => kw.block j (Nat.lt_of_le_of_lt hj hS3.ps.lt) (by omega)), kw.heap hS3.box (by omega), leaf_is _ _ _ _ _ _ _ _⟩
   have HZ5 : Hid (BldZ (fun b => b = T) B W5 (.slice so nl sc) ls) := hZ4.go (kw.mono (fun b hb => .inr hb))
   have HTo : Hid (Calls Tryz.prog 98 #[.pointer (some ⟨c, 0, none⟩), .string ⟨#[61]⟩] _ _) := took_any HS5.out.ps ⟨#[61]⟩ (by decide)
   have hT4' := hT4
   obtain ⟨g0, g1, g2, g3, g4, g5, g6⟩ := nb_cells hT4
   have gf := fun o => nb_frozen hT4 o
   have eT := HT.out
   clear HT
   subst eT
   unfold nb ncs at HW4
   clear hk3 hb3 hp3 ka HE HS2 hS3 hT4 hT4' hZ4 kw hz1 hz2 hB
   try unfold ncs
   go_wp2_with (first | rw [← HW4.out] | rw [← HW5.out])
   clear HW4 HW5 g0 g1 g2 g3 g4 g5 g6 gf
   obtain ⟨T, hT⟩ : ∃ T, W3.heap.size = T := ⟨_, rfl⟩
   rw [hT] at HT5 HZ5 hBT ⊢
   clear hT
   obtain ⟨b3, Hb3⟩ : ∃ b3, Hid (V.is [61] q = b3) := ⟨_, show _ = _ from rfl⟩
   rw [Hb3.out] at HRg
   refine Calls.mono HTo.out ?_
   rintro r W6 ⟨rfl, hk6, hp6⟩
   rw [show V.is (⟨#[61]⟩ : ByteArray).data.toList q = b3 from Hb3.out] at hp6 ⊢
   have HT6 : Hid (W6.heap[T]? = some (nb (ncs 21 ⟨#[]⟩ 0 0 (nl : Int) (.slice so nl sc) ap))) := hk6.heap HT5.out (show ¬ T = c by omega)
   have hS6 := HS5.out.go hcl hk6 hp6
   have HZ6 : Hid (BldZ (fun b => b = T) B W6 (.slice so nl sc) ls) := HZ5.out.go (hk6.mono (fun b (hb : b = c) => by left; omega))
   clear HS5 HT5 HZ5 hk6 hp6 HTo Hb3
   cases b3 with
   | false =>
    have HS6 : Hid (Sx w c V q (.mk 0 ⟨#[]⟩ 0 0 0 [] 0) nz W6) := hS6
    have HRe : Hid (RR = .ok (.mk 21 ⟨#[]⟩ 0 0 (nl : Int) ls ap, q)) := by show _ = _; rw [HRg.out]; rfl
    have HL6 : Hid (ListIs (fun b => b ≤ w.heap.size) W6 ls (.slice so nl sc)) := ListIs.mono (fun b (hb : b ≤ w.heap.size) => by left; omega) HZ6.out.list
    clear hS6 HRg HZ6
    obtain ⟨g0, g1, g2, g3, g4, g5, g6⟩ := nb_cells HT6.out
    obtain ⟨r0, r1, r2, r3, r4, r5, r6⟩ := nb_cells HS6.out.box
    have rf := fun o => nb_frozen HS6.out.box o
    go_wp2_with fail
    refine bodyPost_ret (v := .agg (ncs 21 ⟨#[]⟩ 0 0 (nl : Int) (.slice so nl sc) ap).toArray) (by simp [results, Tryz.results135, go_sem, ncs, r0, r1, r2, r3, r4, r5, r6]) rfl ?_
    show PRes c V w RR _ _
    rw [HRe.out]
    have HS8 := Sx.put (k := 21) (t := ⟨#[]⟩) (vt := 0) (vn := 0) (m := (nl : Int)) (a := ap) hcl HS6.out.kept HS6.out.ps HS6.out.box rfl HL6.out rfl
    exact ⟨HS8.kept, ⟨_, rfl, NodeIs.mono (fun b (hb : b < w.heap.size) => Nat.le_of_lt hb) _ _ HS8.node⟩, HS8.ps⟩
   | true =>
    have HRf : Hid (RR = match listE V G (q + 1) with | .error e => .error e | .ok (m, r) => .ok (.mk 21 ⟨#[]⟩ 0 0 (nl : Int) (ls ++ m) ap, r)) := by show _ = _; rw [HRg.out]; rfl
    have HS6 : Hid (Sx w c V (q + 1) (.mk 0 ⟨#[]⟩ 0 0 0 [] 0) nz W6) := hS6
    clear hS6 HRg
    go_wp2_with fail
    refine regionU (fun X => X.cell? ⟨T, 5, none⟩ = some (.slice so nl sc)) 8 ((nb_cells (show W6.drew.heap[T]? = _ from HT6.out)).2.2.2.2.2.1) (fun hSS => ?_)
    have HS7 : Hid (Sx w c V (q + 1) (.mk 0 ⟨#[]⟩ 0 0 0 [] 0) nz W6.drew) := HS6.out.no (Kept.refl No W6).drew
    have HT7 : Hid (W6.drew.heap[T]? = some (nb (ncs 21 ⟨#[]⟩ 0 0 (nl : Int) (.slice so nl sc) ap))) := HT6.out
    have HZ7 : Hid (BldZ (fun b => b = T) B W6.drew (.slice so nl sc) ls) := HZ6.out.go (Kept.refl No W6).drew.no
    generalize W6.drew = W7 at hSS HS7 HT7 HZ7 ⊢
    clear HS6 HT6 HZ6
    have HLc : Hid _ := HLi.out HS7.out.ps
    clear HLi
    refine tkU 0 (.pointer (some ⟨T, 5, none⟩)) rfl hSS ?_
    try simp only [sm]
    refine tkU 1 (.slice so nl sc) rfl hSS ?_
    try simp only [sm]
    refine tkU 2 (.pointer (some ⟨c, 0, none⟩)) rfl hSS ?_
    try simp only [sm]
    refine tkU 3 (.int .i64 (l : Int)) rfl hSS ?_
    try simp only [sm]
    refine tkU 4 (.int .i64 ((l : Int) + 1)) rfl hSS ?_
    try simp only [sm]
    refine rdU 5 rfl (fun K hK => ?_)
    go_simp
    cases hab : listE V G (q + 1) with
    | error e =>
     obtain ⟨ea, ex⟩ := e
     rw [hab] at HLc
     have HRe : Hid (RR = .error (ea, ex)) := by show _ = _; rw [HRf.out, hab]
     clear hab HRf
     refine Calls.mono HLc.out ?_
     rintro r W9 ⟨hk9, rfl⟩
     have HF : Hid (Kept (fun b => b = c) w W9) := HS7.out.kept.trans hk9
     clear hk9 HLc HS7
     try go_wp2_with fail
     refine ⟨rfl, ?_⟩
     show PRes c V w RR _ _
     rw [HRe.out]
     exact ⟨HF.out, rfl⟩
    | ok z =>
     obtain ⟨ms, q'⟩ := z
     have hml : ms.length ≤ 10000 := HLf.out _ _ _ hab
     rw [hab] at HLc
     have HRe : Hid (RR = .ok (.mk 21 ⟨#[]⟩ 0 0 (nl : Int) (ls ++ ms) ap, q')) := by show _ = _; rw [HRf.out, hab]
     clear hab HRf HLf
     refine Calls.mono HLc.out ?_
     rintro r W8 ⟨hk8, ⟨mv, rfl, hm8⟩, hp8⟩
     obtain ⟨mo, mn, mc, rfl⟩ := slice_of hm8
     have HT8 : Hid (W8.heap[T]? = some (nb (ncs 21 ⟨#[]⟩ 0 0 (nl : Int) (.slice so nl sc) ap))) := hk8.heap HT7.out (show ¬ T = c by omega)
     have HS8 : Hid (Sx w c V q' (.mk 0 ⟨#[]⟩ 0 0 0 [] 0) nz W8) := HS7.out.go hcl hk8 hp8
     have HZ8 : Hid (BldZ (fun b => b = T) B W8 (.slice so nl sc) ls) := HZ7.out.go (hk8.mono (fun b (hb : b = c) => by left; omega))
     have hz7 := hp_lt HT7.out
     have hz8 := hk8.size
     have hol : ∀ k, (Value.slice so nl sc).ownBlock = some k → B ≤ k ∧ k < W7.heap.size := HZ7.out.own_lt
     have HM8 : Hid (ListIs (OutZ (fun b => b = T) B (.slice so nl sc)) W8 ms (.slice mo mn mc)) := by
      refine ListIs.mono ?_ hm8
      rintro b ((hb | hb) | hb)
      ·show b < _; omega
      ·have := hol b hb; show b < _; omega
      ·show b < _; omega
     refine hK.out _ _ (fun _ => (nb_cells HT8.out).2.2.2.2.2.1) ?_
     clear hK K HLc hk8 hm8 hp8 HS7 HZ7 HT7
     try simp only [sm]
     refine rdU 6 rfl (fun K hK => ?_)
     try rw [if_pos (by rfl)]
     refine app_listZ _ _ rfl rfl rfl HZ8.out HM8.out hll hml (by omega) (fun b hb => by omega) (fun v' X5 hB5 hg5 hv5 => ?_)
     obtain ⟨vo, vln, vc, rfl⟩ := hv5
     have hT5 : X5.heap[T]? = some (nb (ncs 21 ⟨#[]⟩ 0 0 (nl : Int) (.slice so nl sc) ap)) := (hg5.block T (by omega) (fun e => HZ8.out.out T e.symm rfl)).trans HT8.out
     have HK5 : Hid (Kept (fun b => b = c) w X5) := HS8.out.kept.grown hg5 (fun k e => .inr (by have := (hol k e).1; omega))
     have HP5 : Hid (Ps X5 c V q') := HS8.out.ps.low (fun k hk => hg5.block k (Nat.lt_of_le_of_lt hk HS8.out.ps.lt) (fun e => by have := (hol k e.symm).1; omega))
     have HB5 : Hid (X5.heap[w.heap.size]? = some (nb nz)) := (hg5.block w.heap.size (hp_lt HS8.out.box) (fun e => by have := (hol w.heap.size e.symm).1; omega)).trans HS8.out.box
     have HL5 : Hid (BldZ (fun b => b = T) B X5 (.slice vo vln vc) (ls ++ ms)) := hB5
     refine hK.out _ _ (fun _ => (nb_cells hT5).2.2.2.2.2.1) ?_
     clear hK K hB5 hg5 hol HS8 HZ8 HM8 HT8
     try simp only [sm]
     have hSS := (nb_cells hT5).2.2.2.2.2.1
     refine tkU 7 (.pointer (some ⟨T, 5, none⟩)) rfl hSS ?_
     try simp only [sm]
     refine rdU 8 rfl (fun K hK => ?_)
     obtain ⟨g0, g1, g2, g3, g4, g5, g6⟩ := nb_cells hT5
     have gf := fun o => nb_frozen hT5 o
     go_simp
     try go_wp2_with fail
     refine hK.out _ _ (fun e => absurd rfl e) ?_
     clear hK K g0 g1 g2 g3 g4 g5 g6 gf
     have kw : Kept (fun b => b = T) X5 (X5.setCell ⟨T, 5, none⟩ (.slice vo vln vc)) := Kept.set (Kept.refl _ _) _ _ _ (Or.inl rfl)
     have hT6 := set_same hT5 5 (.slice vo vln vc)
     generalize X5.setCell ⟨T, 5, none⟩ (.slice vo vln vc) = X6 at kw hT6 ⊢
     have HS6 : Hid (Sx w c V q' (.mk 0 ⟨#[]⟩ 0 0 0 [] 0) nz X6) := ⟨HK5.out.trans' kw (fun i e => .inr (by omega)), HP5.out.low (fun j hj => kw.block j (Nat.lt_of_le_of_lt hj HP5.out.lt) (by omega)), kw.heap HB5.out (by omega), leaf_is _ _ _ _ _ _ _ _⟩
     have HL6 : Hid (ListIs (fun b => b ≤ w.heap.size) X6 (ls ++ ms) (.slice vo vln vc)) := ListIs.mono (fun b (hb : b ≤ w.heap.size) => by left; omega) (HL5.out.go (kw.mono (fun b hb => .inr hb))).list
     have HT6 : Hid (X6.heap[T]? = some (nb (ncs 21 ⟨#[]⟩ 0 0 (nl : Int) (.slice vo vln vc) ap))) := hT6
     clear HK5 HP5 HB5 HL5 hT5 hT6 kw
     try simp only [sm]
     refine dnU ?_ (by kernel_rfl) _
     obtain ⟨g0, g1, g2, g3, g4, g5, g6⟩ := nb_cells HT6.out
     obtain ⟨r0, r1, r2, r3, r4, r5, r6⟩ := nb_cells HS6.out.box
     have rf := fun o => nb_frozen HS6.out.box o
     go_wp2_with fail
     refine bodyPost_ret (v := .agg (ncs 21 ⟨#[]⟩ 0 0 (nl : Int) (.slice vo vln vc) ap).toArray) (by simp [results, Tryz.results135, go_sem, ncs, r0, r1, r2, r3, r4, r5, r6]) rfl ?_
     show PRes c V w RR _ _
     rw [HRe.out]
     have HS8 := Sx.put (k := 21) (t := ⟨#[]⟩) (vt := 0) (vn := 0) (m := (nl : Int)) (a := ap) hcl HS6.out.kept HS6.out.ps HS6.out.box rfl HL6.out rfl
     exact ⟨HS8.kept, ⟨_, rfl, NodeIs.mono (fun b (hb : b < w.heap.size) => Nat.le_of_lt hb) _ _ HS8.node⟩, HS8.ps⟩
end Go.Proofs.YtgkgpjbbmnfnmaaGreatDoor

/- statement. -/
namespace Go.Proofs.YtgkgpjbbmnfnmaaGreatDoor
open Go.RowKit
set_option linter.unusedSimpArgs false
set_option linter.unusedVariables false

set_option maxRecDepth 20000 in
set_option maxHeartbeats 16000000 in
theorem statement_any {w : World} {c : Nat} {V : Env} {p : Nat} {G : Lev} {l : Nat} (hG : LevIs V G (l + 1)) (h : Ps w c V p)
  (hCh : V.is sIf p = true → ∀ {w' : World}, Ps w' c V p → Calls Tryz.prog 137 #[.pointer (some ⟨c, 0, none⟩), .int .i64 (l : Int)] w' (PRes c V w' (choiceS V G p))) (hCo : V.is sFor p = true → ∀ {w' : World}, Ps w' c V p → Calls Tryz.prog 139 #[.pointer (some ⟨c, 0, none⟩), .int .i64 (l : Int)] w' (PRes c V w' (countS V G p))) (hCa : ∀ {w' : World}, Ps w' c V p → Calls Tryz.prog 141 #[.pointer (some ⟨c, 0, none⟩), .int .i64 (l : Int)] w' (PRes c V w' (callOrAssignS V G p))) :
  Calls Tryz.prog 101 #[.pointer (some ⟨c, 0, none⟩), .int .i64 (l : Int)] w (PRes c V w (statementS V G p)) := by
 obtain ⟨W0, HW0⟩ : ∃ W0, Hid (w.alloc (nb nz) = W0) := ⟨_, show _ = _ from rfl⟩
 have HS0 : Hid (Sx w c V p (.mk 0 ⟨#[]⟩ 0 0 0 [] 0) nz W0) := by
  have ka : Kept No w W0 := by rw [← HW0.out]; exact (Kept.refl No w).alloc _
  exact ⟨ka.no, h.no ka, by rw [← HW0.out]; exact World.alloc_heap_new w _, leaf_is _ _ _ _ _ _ _ _⟩
 have hcl := h.lt
 have hle := hG.le
 have HG : Hid (LevIs V G (l + 1)) := hG
 have HDo : Hid (∀ {w' : World}, Ps w' c V p → Calls Tryz.prog 140 #[.pointer (some ⟨c, 0, none⟩), .int .i64 (l : Int)] w' (PRes c V w' (doS V G p))) := fun hq => doBlock_any hG hq
 have HCh0 : Hid (V.is sIf p = true → ∀ {w' : World}, Ps w' c V p → Calls Tryz.prog 137 #[.pointer (some ⟨c, 0, none⟩), .int .i64 (l : Int)] w' (PRes c V w' (choiceS V G p))) := hCh
 have HCo0 : Hid (V.is sFor p = true → ∀ {w' : World}, Ps w' c V p → Calls Tryz.prog 139 #[.pointer (some ⟨c, 0, none⟩), .int .i64 (l : Int)] w' (PRes c V w' (countS V G p))) := hCo
 have HCa : Hid (∀ {w' : World}, Ps w' c V p → Calls Tryz.prog 141 #[.pointer (some ⟨c, 0, none⟩), .int .i64 (l : Int)] w' (PRes c V w' (callOrAssignS V G p))) := hCa
 have HLk : Hid _ := look_any HS0.out.ps
 obtain ⟨x, HX⟩ : ∃ x, Hid (V.tk p = x) := ⟨_, show _ = _ from rfl⟩
 rw [HX.out] at HLk
 obtain ⟨ap, Hap⟩ : ∃ ap, Hid (V.at p = ap) := ⟨_, show _ = _ from rfl⟩
 have ea : ap = x.a := by rw [← Hap.out]; unfold Env.at; rw [HX.out]
 obtain ⟨RR, HRd⟩ : ∃ RR, Hid (statementS V G p = RR) := ⟨_, show _ = _ from rfl⟩
 rw [HRd.out]
 unfold nb nz ncs at HW0
 clear h hG hCh hCo hCa
 have ft := fun w => fd45t x w
 have fa := fun w => fd45a x w
 obtain ⟨xk, xt, xvt, xvn, xsy, xa, xe⟩ := x
 dsimp only at ft fa ea
 subst ea
 go_enter Tryz.func101, Tryz.ntmps101
 go_wp2_with fail
 rw [HW0.out]
 clear HW0
 refine Calls.mono HLk.out ?_
 rintro r W1 ⟨rfl, hk1⟩
 have HS1 : Hid (Sx w c V p (.mk 0 ⟨#[]⟩ 0 0 0 [] 0) nz W1) := HS0.out.no hk1
 clear hk1 HLk HS0
 unfold tv
 dsimp only
 have HQ : Hid (∀ s, V.is s p = (xt.toList == s)) := fun s => by unfold Env.is; rw [HX.out, ByteArray.toList_eq]
 cases q1 : (xt.toList == [108, 111, 99, 97, 108]) with
 | true =>
  have HRf : Hid (RR = localS V G p) := by show _ = _; rw [← HRd.out]; unfold statementS; rw [Hap.out]; simp only [HQ.out, sLocal, sFunction, sIf, sWhile, sFor, sDo, sBreak, q1]; rfl
  clear HRd
  have HLt : p < V.L.length := is_lt (show V.is _ p = true by rw [HQ.out]; exact q1) (by decide)
  have HP : Hid (∀ {w' : World}, Ps w' c V p → Calls Tryz.prog 135 #[.pointer (some ⟨c, 0, none⟩), .int .i64 (l : Int)] w' (PRes c V w' (localS V G p))) := fun hq => local_any HG.out hq HLt
  have HC : Hid _ := HP.out HS1.out.ps
  go_wp2_with fail
  cases hab : localS V G p with
  | error e =>
   obtain ⟨ea, ex⟩ := e
   rw [hab] at HC
   have HRe : Hid (RR = .error (ea, ex)) := by show _ = _; rw [HRf.out, hab]
   clear hab HRf
   refine Calls.mono HC.out ?_
   rintro r W9 ⟨hk9, rfl⟩
   have HF : Hid (Kept (fun b => b = c) w W9) := HS1.out.kept.trans hk9
   clear hk9 HC HS1
   go_wp2_with fail
   refine ⟨rfl, ?_⟩
   show PRes c V w RR _ _
   rw [HRe.out]
   exact ⟨HF.out, rfl⟩
  | ok z =>
   obtain ⟨⟨yk, yt, yvt, yvn, yn, yl, ya⟩, q⟩ := z
   rw [hab] at HC
   have HRe : Hid (RR = .ok (.mk yk yt yvt yvn yn yl ya, q)) := by show _ = _; rw [HRf.out, hab]
   clear hab HRf
   refine Calls.mono HC.out ?_
   rintro r W3 ⟨hk3, ⟨cs, rfl, hx⟩, hp3⟩
   obtain ⟨sv, rfl, hls⟩ := NodeIs.cs.1 hx
   obtain ⟨yo, yln, yc, rfl⟩ := slice_of hls
   have hz1 := hp_lt HS1.out.box
   have HS3 : Hid (Sx w c V q (.mk 0 ⟨#[]⟩ 0 0 0 [] 0) nz W3) := HS1.out.go hcl hk3 hp3
   have HL3 : Hid (ListIs (fun b => b ≤ w.heap.size) W3 yl (.slice yo yln yc)) := ListIs.mono (fun b (hb : b ≤ w.heap.size) => by show b < _; omega) hls
   obtain ⟨r0, r1, r2, r3, r4, r5, r6⟩ := nb_cells HS3.out.box
   have rf := fun o => nb_frozen HS3.out.box o
   clear hk3 hx hls hp3 HC HS1 hz1
   unfold ncs
   go_wp2_with fail
   refine bodyPost_ret (v := .agg (ncs yk yt yvt yvn yn (.slice yo yln yc) ya).toArray) (by simp [results, Tryz.results101, go_sem, ncs, r0, r1, r2, r3, r4, r5, r6]) rfl ?_
   show PRes c V w RR _ _
   rw [HRe.out]
   have HS7 := Sx.put (k := yk) (t := yt) (vt := yvt) (vn := yvn) (m := yn) (a := ya) hcl HS3.out.kept HS3.out.ps HS3.out.box rfl HL3.out rfl
   exact ⟨HS7.kept, ⟨_, rfl, NodeIs.mono (fun b (hb : b < w.heap.size) => Nat.le_of_lt hb) _ _ HS7.node⟩, HS7.ps⟩
 | false =>
  cases q2 : (xt.toList == [102, 117, 110, 99, 116, 105, 111, 110]) with
  | true =>
   have HRf : Hid (RR = functionS V G p) := by show _ = _; rw [← HRd.out]; unfold statementS; rw [Hap.out]; simp only [HQ.out, sLocal, sFunction, sIf, sWhile, sFor, sDo, sBreak, q1, q2]; rfl
   clear HRd
   have HP : Hid (∀ {w' : World}, Ps w' c V p → Calls Tryz.prog 136 #[.pointer (some ⟨c, 0, none⟩), .int .i64 (l : Int)] w' (PRes c V w' (functionS V G p))) := fun hq => function_any HG.out hq
   have HC : Hid _ := HP.out HS1.out.ps
   go_wp2_with fail
   cases hab : functionS V G p with
   | error e =>
    obtain ⟨ea, ex⟩ := e
    rw [hab] at HC
    have HRe : Hid (RR = .error (ea, ex)) := by show _ = _; rw [HRf.out, hab]
    clear hab HRf
    refine Calls.mono HC.out ?_
    rintro r W9 ⟨hk9, rfl⟩
    have HF : Hid (Kept (fun b => b = c) w W9) := HS1.out.kept.trans hk9
    clear hk9 HC HS1
    go_wp2_with fail
    refine ⟨rfl, ?_⟩
    show PRes c V w RR _ _
    rw [HRe.out]
    exact ⟨HF.out, rfl⟩
   | ok z =>
    obtain ⟨⟨yk, yt, yvt, yvn, yn, yl, ya⟩, q⟩ := z
    rw [hab] at HC
    have HRe : Hid (RR = .ok (.mk yk yt yvt yvn yn yl ya, q)) := by show _ = _; rw [HRf.out, hab]
    clear hab HRf
    refine Calls.mono HC.out ?_
    rintro r W3 ⟨hk3, ⟨cs, rfl, hx⟩, hp3⟩
    obtain ⟨sv, rfl, hls⟩ := NodeIs.cs.1 hx
    obtain ⟨yo, yln, yc, rfl⟩ := slice_of hls
    have hz1 := hp_lt HS1.out.box
    have HS3 : Hid (Sx w c V q (.mk 0 ⟨#[]⟩ 0 0 0 [] 0) nz W3) := HS1.out.go hcl hk3 hp3
    have HL3 : Hid (ListIs (fun b => b ≤ w.heap.size) W3 yl (.slice yo yln yc)) := ListIs.mono (fun b (hb : b ≤ w.heap.size) => by show b < _; omega) hls
    obtain ⟨r0, r1, r2, r3, r4, r5, r6⟩ := nb_cells HS3.out.box
    have rf := fun o => nb_frozen HS3.out.box o
    clear hk3 hx hls hp3 HC HS1 hz1
    unfold ncs
    go_wp2_with fail
    refine bodyPost_ret (v := .agg (ncs yk yt yvt yvn yn (.slice yo yln yc) ya).toArray) (by simp [results, Tryz.results101, go_sem, ncs, r0, r1, r2, r3, r4, r5, r6]) rfl ?_
    show PRes c V w RR _ _
    rw [HRe.out]
    have HS7 := Sx.put (k := yk) (t := yt) (vt := yvt) (vn := yvn) (m := yn) (a := ya) hcl HS3.out.kept HS3.out.ps HS3.out.box rfl HL3.out rfl
    exact ⟨HS7.kept, ⟨_, rfl, NodeIs.mono (fun b (hb : b < w.heap.size) => Nat.le_of_lt hb) _ _ HS7.node⟩, HS7.ps⟩
  | false =>
   cases q3 : (xt.toList == [105, 102]) with
   | true =>
    have HRf : Hid (RR = choiceS V G p) := by show _ = _; rw [← HRd.out]; unfold statementS; rw [Hap.out]; simp only [HQ.out, sLocal, sFunction, sIf, sWhile, sFor, sDo, sBreak, q1, q2, q3]; rfl
    clear HRd
    have HC : Hid _ := HCh0.out (by rw [HQ.out]; exact q3) HS1.out.ps
    go_wp2_with fail
    cases hab : choiceS V G p with
    | error e =>
     obtain ⟨ea, ex⟩ := e
     rw [hab] at HC
     have HRe : Hid (RR = .error (ea, ex)) := by show _ = _; rw [HRf.out, hab]
     clear hab HRf
     refine Calls.mono HC.out ?_
     rintro r W9 ⟨hk9, rfl⟩
     have HF : Hid (Kept (fun b => b = c) w W9) := HS1.out.kept.trans hk9
     clear hk9 HC HS1
     go_wp2_with fail
     refine ⟨rfl, ?_⟩
     show PRes c V w RR _ _
     rw [HRe.out]
     exact ⟨HF.out, rfl⟩
    | ok z =>
     obtain ⟨⟨yk, yt, yvt, yvn, yn, yl, ya⟩, q⟩ := z
     rw [hab] at HC
     have HRe : Hid (RR = .ok (.mk yk yt yvt yvn yn yl ya, q)) := by show _ = _; rw [HRf.out, hab]
     clear hab HRf
     refine Calls.mono HC.out ?_
     rintro r W3 ⟨hk3, ⟨cs, rfl, hx⟩, hp3⟩
     obtain ⟨sv, rfl, hls⟩ := NodeIs.cs.1 hx
     obtain ⟨yo, yln, yc, rfl⟩ := slice_of hls
     have hz1 := hp_lt HS1.out.box
     have HS3 : Hid (Sx w c V q (.mk 0 ⟨#[]⟩ 0 0 0 [] 0) nz W3) := HS1.out.go hcl hk3 hp3
     have HL3 : Hid (ListIs (fun b => b ≤ w.heap.size) W3 yl (.slice yo yln yc)) := ListIs.mono (fun b (hb : b ≤ w.heap.size) => by show b < _; omega) hls
     obtain ⟨r0, r1, r2, r3, r4, r5, r6⟩ := nb_cells HS3.out.box
     have rf := fun o => nb_frozen HS3.out.box o
     clear hk3 hx hls hp3 HC HS1 hz1
     unfold ncs
     go_wp2_with fail
     refine bodyPost_ret (v := .agg (ncs yk yt yvt yvn yn (.slice yo yln yc) ya).toArray) (by simp [results, Tryz.results101, go_sem, ncs, r0, r1, r2, r3, r4, r5, r6]) rfl ?_
     show PRes c V w RR _ _
     rw [HRe.out]
     have HS7 := Sx.put (k := yk) (t := yt) (vt := yvt) (vn := yvn) (m := yn) (a := ya) hcl HS3.out.kept HS3.out.ps HS3.out.box rfl HL3.out rfl
     exact ⟨HS7.kept, ⟨_, rfl, NodeIs.mono (fun b (hb : b < w.heap.size) => Nat.le_of_lt hb) _ _ HS7.node⟩, HS7.ps⟩
   | false =>
    cases q4 : (xt.toList == [119, 104, 105, 108, 101]) with
    | true =>
     have HRf : Hid (RR = whileS V G p) := by show _ = _; rw [← HRd.out]; unfold statementS; rw [Hap.out]; simp only [HQ.out, sLocal, sFunction, sIf, sWhile, sFor, sDo, sBreak, q1, q2, q3, q4]; rfl
     clear HRd
     have HLt : p < V.L.length := is_lt (show V.is _ p = true by rw [HQ.out]; exact q4) (by decide)
     have HP : Hid (∀ {w' : World}, Ps w' c V p → Calls Tryz.prog 138 #[.pointer (some ⟨c, 0, none⟩), .int .i64 (l : Int)] w' (PRes c V w' (whileS V G p))) := fun hq => while_any HG.out hq HLt
     have HC : Hid _ := HP.out HS1.out.ps
     go_wp2_with fail
     cases hab : whileS V G p with
     | error e =>
      obtain ⟨ea, ex⟩ := e
      rw [hab] at HC
      have HRe : Hid (RR = .error (ea, ex)) := by show _ = _; rw [HRf.out, hab]
      clear hab HRf
      refine Calls.mono HC.out ?_
      rintro r W9 ⟨hk9, rfl⟩
      have HF : Hid (Kept (fun b => b = c) w W9) := HS1.out.kept.trans hk9
      clear hk9 HC HS1
      go_wp2_with fail
      refine ⟨rfl, ?_⟩
      show PRes c V w RR _ _
      rw [HRe.out]
      exact ⟨HF.out, rfl⟩
     | ok z =>
      obtain ⟨⟨yk, yt, yvt, yvn, yn, yl, ya⟩, q⟩ := z
      rw [hab] at HC
      have HRe : Hid (RR = .ok (.mk yk yt yvt yvn yn yl ya, q)) := by show _ = _; rw [HRf.out, hab]
      clear hab HRf
      refine Calls.mono HC.out ?_
      rintro r W3 ⟨hk3, ⟨cs, rfl, hx⟩, hp3⟩
      obtain ⟨sv, rfl, hls⟩ := NodeIs.cs.1 hx
      obtain ⟨yo, yln, yc, rfl⟩ := slice_of hls
      have hz1 := hp_lt HS1.out.box
      have HS3 : Hid (Sx w c V q (.mk 0 ⟨#[]⟩ 0 0 0 [] 0) nz W3) := HS1.out.go hcl hk3 hp3
      have HL3 : Hid (ListIs (fun b => b ≤ w.heap.size) W3 yl (.slice yo yln yc)) := ListIs.mono (fun b (hb : b ≤ w.heap.size) => by show b < _; omega) hls
      obtain ⟨r0, r1, r2, r3, r4, r5, r6⟩ := nb_cells HS3.out.box
      have rf := fun o => nb_frozen HS3.out.box o
      clear hk3 hx hls hp3 HC HS1 hz1
      unfold ncs
      go_wp2_with fail
      refine bodyPost_ret (v := .agg (ncs yk yt yvt yvn yn (.slice yo yln yc) ya).toArray) (by simp [results, Tryz.results101, go_sem, ncs, r0, r1, r2, r3, r4, r5, r6]) rfl ?_
      show PRes c V w RR _ _
      rw [HRe.out]
      have HS7 := Sx.put (k := yk) (t := yt) (vt := yvt) (vn := yvn) (m := yn) (a := ya) hcl HS3.out.kept HS3.out.ps HS3.out.box rfl HL3.out rfl
      exact ⟨HS7.kept, ⟨_, rfl, NodeIs.mono (fun b (hb : b < w.heap.size) => Nat.le_of_lt hb) _ _ HS7.node⟩, HS7.ps⟩
    | false =>
     cases q5 : (xt.toList == [102, 111, 114]) with
     | true =>
      have HRf : Hid (RR = countS V G p) := by show _ = _; rw [← HRd.out]; unfold statementS; rw [Hap.out]; simp only [HQ.out, sLocal, sFunction, sIf, sWhile, sFor, sDo, sBreak, q1, q2, q3, q4, q5]; rfl
      clear HRd
      have HC : Hid _ := HCo0.out (by rw [HQ.out]; exact q5) HS1.out.ps
      go_wp2_with fail
      cases hab : countS V G p with
      | error e =>
       obtain ⟨ea, ex⟩ := e
       rw [hab] at HC
       have HRe : Hid (RR = .error (ea, ex)) := by show _ = _; rw [HRf.out, hab]
       clear hab HRf
       refine Calls.mono HC.out ?_
       rintro r W9 ⟨hk9, rfl⟩
       have HF : Hid (Kept (fun b => b = c) w W9) := HS1.out.kept.trans hk9
       clear hk9 HC HS1
       go_wp2_with fail
       refine ⟨rfl, ?_⟩
       show PRes c V w RR _ _
       rw [HRe.out]
       exact ⟨HF.out, rfl⟩
      | ok z =>
       obtain ⟨⟨yk, yt, yvt, yvn, yn, yl, ya⟩, q⟩ := z
       rw [hab] at HC
       have HRe : Hid (RR = .ok (.mk yk yt yvt yvn yn yl ya, q)) := by show _ = _; rw [HRf.out, hab]
       clear hab HRf
       refine Calls.mono HC.out ?_
       rintro r W3 ⟨hk3, ⟨cs, rfl, hx⟩, hp3⟩
       obtain ⟨sv, rfl, hls⟩ := NodeIs.cs.1 hx
       obtain ⟨yo, yln, yc, rfl⟩ := slice_of hls
       have hz1 := hp_lt HS1.out.box
       have HS3 : Hid (Sx w c V q (.mk 0 ⟨#[]⟩ 0 0 0 [] 0) nz W3) := HS1.out.go hcl hk3 hp3
       have HL3 : Hid (ListIs (fun b => b ≤ w.heap.size) W3 yl (.slice yo yln yc)) := ListIs.mono (fun b (hb : b ≤ w.heap.size) => by show b < _; omega) hls
       obtain ⟨r0, r1, r2, r3, r4, r5, r6⟩ := nb_cells HS3.out.box
       have rf := fun o => nb_frozen HS3.out.box o
       clear hk3 hx hls hp3 HC HS1 hz1
       unfold ncs
       go_wp2_with fail
       refine bodyPost_ret (v := .agg (ncs yk yt yvt yvn yn (.slice yo yln yc) ya).toArray) (by simp [results, Tryz.results101, go_sem, ncs, r0, r1, r2, r3, r4, r5, r6]) rfl ?_
       show PRes c V w RR _ _
       rw [HRe.out]
       have HS7 := Sx.put (k := yk) (t := yt) (vt := yvt) (vn := yvn) (m := yn) (a := ya) hcl HS3.out.kept HS3.out.ps HS3.out.box rfl HL3.out rfl
       exact ⟨HS7.kept, ⟨_, rfl, NodeIs.mono (fun b (hb : b < w.heap.size) => Nat.le_of_lt hb) _ _ HS7.node⟩, HS7.ps⟩
     | false =>
      cases q6 : (xt.toList == [100, 111]) with
      | true =>
       have HRf : Hid (RR = match doS V G p with | .error e => .error e | .ok (b, q) => .ok (nd 30 [b] ap, q)) := by show _ = _; rw [← HRd.out]; unfold statementS; rw [Hap.out]; simp only [HQ.out, sLocal, sFunction, sIf, sWhile, sFor, sDo, sBreak, q1, q2, q3, q4, q5, q6]; rfl
       clear HRd
       have HAt : Hid _ := at_any HS1.out.ps
       rw [Hap.out] at HAt
       go_wp2_with fail
       refine Calls.mono HAt.out ?_
       rintro r W2 ⟨rfl, hk2⟩
       have HS2 : Hid (Sx w c V p (.mk 0 ⟨#[]⟩ 0 0 0 [] 0) nz W2) := HS1.out.no hk2
       clear HS1 hk2 HAt
       have HC : Hid _ := HDo.out HS2.out.ps
       go_wp2_with fail
       cases hab : doS V G p with
       | error e =>
        obtain ⟨ea, ex⟩ := e
        rw [hab] at HC
        have HRe : Hid (RR = .error (ea, ex)) := by show _ = _; rw [HRf.out, hab]
        clear hab HRf
        refine Calls.mono HC.out ?_
        rintro r W9 ⟨hk9, rfl⟩
        have HF : Hid (Kept (fun b => b = c) w W9) := HS2.out.kept.trans hk9
        clear hk9 HC HS2
        go_wp2_with fail
        refine ⟨rfl, ?_⟩
        show PRes c V w RR _ _
        rw [HRe.out]
        exact ⟨HF.out, rfl⟩
       | ok z =>
        obtain ⟨⟨yk, yt, yvt, yvn, yn, yl, ya⟩, q⟩ := z
        rw [hab] at HC
        have HRe : Hid (RR = .ok (nd 30 [.mk yk yt yvt yvn yn yl ya] ap, q)) := by show _ = _; rw [HRf.out, hab]
        clear hab HRf
        refine Calls.mono HC.out ?_
        rintro r W3 ⟨hk3, ⟨cs, rfl, hx⟩, hp3⟩
        obtain ⟨sv, rfl, hls⟩ := NodeIs.cs.1 hx
        obtain ⟨yo, yln, yc, rfl⟩ := slice_of hls
        have hz1 := hp_lt HS2.out.box
        have hz2 := hk3.size
        have HS3 : Hid (Sx w c V q (.mk 0 ⟨#[]⟩ 0 0 0 [] 0) nz W3) := HS2.out.go hcl hk3 hp3
        obtain ⟨W4, HW4⟩ : ∃ W4, Hid (W4 = W3.alloc (nb (ncs yk yt yvt yvn yn (.slice yo yln yc) ya))) := ⟨_, show _ = _ from rfl⟩
        have HS4 : Hid (Sx w c V q (.mk 0 ⟨#[]⟩ 0 0 0 [] 0) nz W4) := HS3.out.no (by rw [HW4.out]; exact (Kept.refl No W3).alloc _)
        have HL4 : Hid (ListIs (fun b => b ≤ w.heap.size) W4 [.mk yk yt yvt yvn yn yl ya] (.slice (some ⟨W3.heap.size, 0, none⟩) 1 1)) := by
         rw [HW4.out]
         exact ListIs.mono (fun b (hb : b ≤ w.heap.size) => by show b < w.heap.size + 1; omega) (Bld.one (B := w.heap.size + 1) (by omega) (NodeIs.mono (fun b (hb : b < w.heap.size + 1) => by show b < _; omega) _ _ hx)).list
        obtain ⟨r0, r1, r2, r3, r4, r5, r6⟩ := nb_cells HS4.out.box
        have rf := fun o => nb_frozen HS4.out.box o
        unfold nb ncs at HW4
        clear hk3 hx hls hp3 HC HS2 HS3 hz1 hz2
        unfold ncs
        go_wp2_with (first | rw [← HW4.out])
        refine bodyPost_ret (v := .agg (ncs 30 ⟨#[]⟩ 0 0 0 (.slice (some ⟨W3.heap.size, 0, none⟩) 1 1) ap).toArray) (by simp [results, Tryz.results101, go_sem, ncs, r0, r1, r2, r3, r4, r5, r6]) rfl ?_
        show PRes c V w RR _ _
        rw [HRe.out]
        have HS7 := Sx.put (k := 30) (t := ⟨#[]⟩) (vt := 0) (vn := 0) (m := 0) (a := ap) hcl HS4.out.kept HS4.out.ps HS4.out.box rfl HL4.out rfl
        exact ⟨HS7.kept, ⟨_, rfl, NodeIs.mono (fun b (hb : b < w.heap.size) => Nat.le_of_lt hb) _ _ HS7.node⟩, HS7.ps⟩
      | false =>
       cases q7 : (xt.toList == [98, 114, 101, 97, 107]) with
       | true =>
        have HRf : Hid (RR = .ok (nd 28 [] ap, p + 1)) := by show _ = _; rw [← HRd.out]; unfold statementS; rw [Hap.out]; simp only [HQ.out, sLocal, sFunction, sIf, sWhile, sFor, sDo, sBreak, q1, q2, q3, q4, q5, q6, q7]; rfl
        clear HRd
        have HLt : p < V.L.length := is_lt (show V.is _ p = true by rw [HQ.out]; exact q7) (by decide)
        have HTk : Hid _ := take_any HS1.out.ps HLt
        rw [HX.out] at HTk
        go_wp2_with fail
        refine Calls.mono HTk.out ?_
        rintro r W3 ⟨rfl, hk3, hp3⟩
        have HS3 : Hid (Sx w c V (p + 1) (.mk 0 ⟨#[]⟩ 0 0 0 [] 0) nz W3) := HS1.out.go hcl hk3 hp3
        unfold tv
        dsimp only
        obtain ⟨r0, r1, r2, r3, r4, r5, r6⟩ := nb_cells HS3.out.box
        have rf := fun o => nb_frozen HS3.out.box o
        have HRe : Hid (RR = .ok (nd 28 [] ap, p + 1)) := HRf.out
        clear hk3 hp3 HTk HS1 HRf
        go_wp2_with fail
        refine bodyPost_ret (v := .agg (ncs 28 ⟨#[]⟩ 0 0 0 (.slice none 0 0) ap).toArray) (by simp [results, Tryz.results101, go_sem, ncs, r0, r1, r2, r3, r4, r5, r6]) rfl ?_
        show PRes c V w RR _ _
        rw [HRe.out]
        have HS7 := Sx.put (k := 28) (t := ⟨#[]⟩) (vt := 0) (vn := 0) (m := 0) (a := ap) (l := []) (sv := .slice none 0 0) hcl HS3.out.kept HS3.out.ps HS3.out.box rfl (.inl ⟨rfl, rfl⟩) rfl
        exact ⟨HS7.kept, ⟨_, rfl, NodeIs.mono (fun b (hb : b < w.heap.size) => Nat.le_of_lt hb) _ _ HS7.node⟩, HS7.ps⟩
       | false =>
        have HRf : Hid (RR = callOrAssignS V G p) := by show _ = _; rw [← HRd.out]; unfold statementS; simp only [HQ.out, sLocal, sFunction, sIf, sWhile, sFor, sDo, sBreak, q1, q2, q3, q4, q5, q6, q7]; rfl
        clear HRd
        have HC : Hid _ := HCa.out HS1.out.ps
        go_wp2_with fail
        cases hab : callOrAssignS V G p with
        | error e =>
         obtain ⟨ea, ex⟩ := e
         rw [hab] at HC
         have HRe : Hid (RR = .error (ea, ex)) := by show _ = _; rw [HRf.out, hab]
         clear hab HRf
         refine Calls.mono HC.out ?_
         rintro r W9 ⟨hk9, rfl⟩
         have HF : Hid (Kept (fun b => b = c) w W9) := HS1.out.kept.trans hk9
         clear hk9 HC HS1
         go_wp2_with fail
         refine ⟨rfl, ?_⟩
         show PRes c V w RR _ _
         rw [HRe.out]
         exact ⟨HF.out, rfl⟩
        | ok z =>
         obtain ⟨⟨yk, yt, yvt, yvn, yn, yl, ya⟩, q⟩ := z
         rw [hab] at HC
         have HRe : Hid (RR = .ok (.mk yk yt yvt yvn yn yl ya, q)) := by show _ = _; rw [HRf.out, hab]
         clear hab HRf
         refine Calls.mono HC.out ?_
         rintro r W3 ⟨hk3, ⟨cs, rfl, hx⟩, hp3⟩
         obtain ⟨sv, rfl, hls⟩ := NodeIs.cs.1 hx
         obtain ⟨yo, yln, yc, rfl⟩ := slice_of hls
         have hz1 := hp_lt HS1.out.box
         have HS3 : Hid (Sx w c V q (.mk 0 ⟨#[]⟩ 0 0 0 [] 0) nz W3) := HS1.out.go hcl hk3 hp3
         have HL3 : Hid (ListIs (fun b => b ≤ w.heap.size) W3 yl (.slice yo yln yc)) := ListIs.mono (fun b (hb : b ≤ w.heap.size) => by show b < _; omega) hls
         obtain ⟨r0, r1, r2, r3, r4, r5, r6⟩ := nb_cells HS3.out.box
         have rf := fun o => nb_frozen HS3.out.box o
         clear hk3 hx hls hp3 HC HS1 hz1
         unfold ncs
         go_wp2_with fail
         refine bodyPost_ret (v := .agg (ncs yk yt yvt yvn yn (.slice yo yln yc) ya).toArray) (by simp [results, Tryz.results101, go_sem, ncs, r0, r1, r2, r3, r4, r5, r6]) rfl ?_
         show PRes c V w RR _ _
         rw [HRe.out]
         have HS7 := Sx.put (k := yk) (t := yt) (vt := yvt) (vn := yvn) (m := yn) (a := ya) hcl HS3.out.kept HS3.out.ps HS3.out.box rfl HL3.out rfl
         exact ⟨HS7.kept, ⟨_, rfl, NodeIs.mono (fun b (hb : b < w.heap.size) => Nat.le_of_lt hb) _ _ HS7.node⟩, HS7.ps⟩
end Go.Proofs.YtgkgpjbbmnfnmaaGreatDoor

/- block. -/
namespace Go.Proofs.YtgkgpjbbmnfnmaaGreatDoor
open Go.RowKit
set_option linter.unusedSimpArgs false
set_option linter.unusedVariables false

/-- A block of these statements. -/
def blk (a : Int) (R : PR (List Tr)) : PR Tr := match R with
 | .error e => .error e
 | .ok (l, q) => .ok (nd 20 l a, q)
set_option maxRecDepth 20000 in
set_option maxHeartbeats 16000000 in
theorem block_any {w : World} {c : Nat} {V : Env} {p : Nat} {G : Lev} {l : Nat} (hG : LevIs V G (l + 1)) (hl : l ≤ 40) (h : Ps w c V p)
  (hSt : ∀ {w' : World} {q : Nat}, Ps w' c V q → Calls Tryz.prog 101 #[.pointer (some ⟨c, 0, none⟩), .int .i64 (l : Int)] w' (PRes c V w' (statementS V G q))) :
  Calls Tryz.prog 60 #[.pointer (some ⟨c, 0, none⟩), .int .i64 (l : Int)] w (PRes c V w (blockE V G p)) := by
 obtain ⟨W0, HW0⟩ : ∃ W0, Hid (w.alloc (nb nz) = W0) := ⟨_, show _ = _ from rfl⟩
 have HS0 : Hid (Sx w c V p (.mk 0 ⟨#[]⟩ 0 0 0 [] 0) nz W0) := by
  have ka : Kept No w W0 := by rw [← HW0.out]; exact (Kept.refl No w).alloc _
  exact ⟨ka.no, h.no ka, by rw [← HW0.out]; exact World.alloc_heap_new w _, leaf_is _ _ _ _ _ _ _ _⟩
 have hcl := h.lt
 have hlen := h.len
 have hple := h.le
 have hle := hG.le
 have HG : Hid (LevIs V G (l + 1)) := hG
 have HSt : Hid (∀ {w' : World} {q : Nat}, Ps w' c V q → Calls Tryz.prog 101 #[.pointer (some ⟨c, 0, none⟩), .int .i64 (l : Int)] w' (PRes c V w' (statementS V G q))) := hSt
 obtain ⟨ap, Hap⟩ : ∃ ap, Hid (V.at p = ap) := ⟨_, show _ = _ from rfl⟩
 have HBg : Hid _ := begin_ok HS0.out.ps l hl
 rw [Hap.out] at HBg
 obtain ⟨R0, HR0⟩ : ∃ R0, Hid (stmts V G (V.L.length + 1) p = R0) := ⟨_, show _ = _ from rfl⟩
 obtain ⟨RR, HRd⟩ : ∃ RR, Hid (blockE V G p = RR) := ⟨_, show _ = _ from rfl⟩
 rw [HRd.out]
 have HRf : Hid (RR = blk ap R0) := by
  show _ = _
  rw [← HRd.out, ← HR0.out, ← Hap.out]; unfold blockE blk
  cases stmts V G (V.L.length + 1) p with
  | error e => rfl
  | ok z => rfl
 clear HRd
 unfold nb nz ncs at HW0
 clear h hG hSt Hap
 go_enter Tryz.func60, Tryz.ntmps60
 go_wp2_with fail
 rw [HW0.out]
 clear HW0
 refine Calls.mono HBg.out ?_
 rintro r W1 ⟨rfl, hk1⟩
 have HS1 : Hid (Sx w c V p (.mk 0 ⟨#[]⟩ 0 0 0 [] 0) nz W1) := HS0.out.no hk1
 obtain ⟨W2, HW2⟩ : ∃ W2, Hid (W2 = W1.alloc (nb (ncs 20 ⟨#[]⟩ 0 0 0 (.slice none 0 0) ap))) := ⟨_, show _ = _ from rfl⟩
 have ka : Kept No W1 W2 := by rw [HW2.out]; exact (Kept.refl No W1).alloc _
 obtain ⟨T, HT⟩ : ∃ T, Hid (W1.heap.size = T) := ⟨_, show _ = _ from rfl⟩
 have hz1 := hp_lt HS1.out.box
 have hRT : w.heap.size + 1 ≤ T := by have := HT.out; omega
 have HK1 : Hid (FTs 20 ap c T V w W2 p (.slice none 0 0) []) := by
  have hT2 : W2.heap[T]? = some (nb (ncs 20 ⟨#[]⟩ 0 0 0 (.slice none 0 0) ap)) := by rw [HW2.out, ← HT.out]; exact World.alloc_heap_new W1 _
  exact ⟨hp_lt hT2, (HS1.out.no ka).kept, (HS1.out.no ka).ps, (HS1.out.no ka).box, hT2, Bld.nil _ _⟩
 unfold nb ncs at HW2
 clear hk1 HBg HS0 HS1 ka hz1
 go_wp2_with (first | rw [← HW2.out])
 try rw [HT.out]
 clear HW2 HT
 go_loopw [21, 26] (fun _ _ wr => ∃ (D : List Tr) (q f : Nat) (sv : Value), q ≤ V.L.length ∧ D.length ≤ q ∧ V.L.length < q + f ∧ Hid (R0 = prep D (stmts V G f q)) ∧ Hid (FTs 20 ap c T V w wr q sv D)) (fun _ _ wr => V.L.length - pos c wr)
 case atStart => exact ⟨[], p, V.L.length + 1, .slice none 0 0, hple, by simp, by omega, by rw [HR0.out]; cases R0 with | error e => rfl | ok z => obtain ⟨l, r⟩ := z; rfl, HK1.out⟩
 case round =>
  clear HK1 HR0
  obtain ⟨D, q, f, sv, hq, hDq, hf, HRR, HK⟩ := hrel
  obtain ⟨f', rfl⟩ : ∃ f', f = f' + 1 := ⟨f - 1, by omega⟩
  have hpq := HK.out.2.2.1.pos
  have HEn : Hid _ := endsBlock_any HK.out.2.2.1
  obtain ⟨b1, Hb1⟩ : ∃ b1, Hid (V.ends q = b1) := ⟨_, show _ = _ from rfl⟩
  rw [Hb1.out] at HEn
  go_wp2_with fail
  refine Calls.mono HEn.out ?_
  rintro r W3 ⟨rfl, hk3⟩
  have HF2 : Hid (FTs 20 ap c T V w W3 q sv D) := ⟨Nat.le_trans HK.out.1 hk3.size, HK.out.2.1.trans hk3.no, HK.out.2.2.1.no hk3, hk3.heap HK.out.2.2.2.1 id, hk3.heap HK.out.2.2.2.2.1 id, HK.out.2.2.2.2.2.go (show c < T + 1 by omega) hk3.no⟩
  clear hk3 HEn HK
  cases b1 with
  | true =>
   have HRe : Hid (R0 = .ok (D, q)) := by
    show _ = _
    rw [HRR.out, stmts, Hb1.out, if_pos rfl]; simp [prep]
   clear HRR Hb1
   have hR9 := HF2.out.2.2.2.1
   have hT9 := HF2.out.2.2.2.2.1
   have HF9 : Hid (ListIs (fun b => b < T + 1) _ D sv) := HF2.out.2.2.2.2.2.list
   obtain ⟨r0, r1, r2, r3, r4, r5, r6⟩ := nb_cells hR9
   have rf := fun o => nb_frozen hR9 o
   obtain ⟨t0', t1', t2', t3', t4', t5', t6'⟩ := nb_cells hT9
   have n1 : w.heap.size ≠ T := by omega
   obtain ⟨ao, ln, cp, hsv⟩ := slice_of HF9.out
   rw [hsv] at t5' HF9
   clear hR9 hT9 hsv
   go_wp2_with fail
   refine bodyPost_ret (v := .agg (ncs 20 ⟨#[]⟩ 0 0 0 (.slice ao ln cp) ap).toArray) (by simp [results, Tryz.results60, go_sem, ncs, r0, r1, r2, r3, r4, r5, r6, t0', t1', t2', t3', t4', t5', t6', n1]) rfl ?_
   show PRes c V w RR _ _
   rw [HRf.out, HRe.out]
   have HS7 := Sx.put (k := 20) (t := ⟨#[]⟩) (vt := 0) (vn := 0) (m := 0) (a := ap) hcl HF2.out.2.1 HF2.out.2.2.1 HF2.out.2.2.2.1 rfl (ListIs.mono (fun b (hb : b ≤ w.heap.size) => by show b < T + 1; omega) HF9.out) rfl
   exact ⟨HS7.kept, ⟨_, rfl, NodeIs.mono (fun b (hb : b < w.heap.size) => Nat.le_of_lt hb) _ _ HS7.node⟩, HS7.ps⟩
  | false =>
   have HTo : Hid (Calls Tryz.prog 98 #[.pointer (some ⟨c, 0, none⟩), .string ⟨#[59]⟩] _ _) := took_any HF2.out.2.2.1 ⟨#[59]⟩ (by decide)
   obtain ⟨b2, Hb2⟩ : ∃ b2, Hid (V.is [59] q = b2) := ⟨_, show _ = _ from rfl⟩
   go_wp2_with fail
   refine Calls.mono HTo.out ?_
   rintro r W4 ⟨rfl, hk4, hp4⟩
   rw [show V.is (⟨#[59]⟩ : ByteArray).data.toList q = b2 from Hb2.out] at hp4 ⊢
   cases b2 with
   | true =>
    rw [if_pos rfl] at hp4
    have hlt4 := is_lt Hb2.out (by decide)
    have HRe : Hid (R0 = prep D (stmts V G f' (q + 1))) := by
     show _ = _
     rw [HRR.out, stmts, Hb1.out, if_neg (by decide), Hb2.out, if_pos rfl]
    have HF4 : Hid (FTs 20 ap c T V w W4 (q + 1) sv D) := ⟨Nat.le_trans HF2.out.1 hk4.size, HF2.out.2.1.trans hk4, hp4, hk4.heap HF2.out.2.2.2.1 (show ¬ w.heap.size = c by omega), hk4.heap HF2.out.2.2.2.2.1 (show ¬ T = c by omega), HF2.out.2.2.2.2.2.go (show c < T + 1 by omega) hk4⟩
    clear hk4 hp4 HTo HF2 HRR Hb1 Hb2
    go_wp2_with fail
    refine ⟨⟨D, q + 1, f', sv, by omega, by omega, by omega, HRe.out, HF4.out⟩, ?_⟩
    rw [hpq, HF4.out.2.2.1.pos]
    omega
   | false =>
    rw [if_neg (by decide)] at hp4
    have HF3 : Hid (FTs 20 ap c T V w W4 q sv D) := ⟨Nat.le_trans HF2.out.1 hk4.size, HF2.out.2.1.trans hk4, hp4, hk4.heap HF2.out.2.2.2.1 (show ¬ w.heap.size = c by omega), hk4.heap HF2.out.2.2.2.2.1 (show ¬ T = c by omega), HF2.out.2.2.2.2.2.go (show c < T + 1 by omega) hk4⟩
    clear hk4 hp4 HTo HF2
    obtain ⟨b3, Hb3⟩ : ∃ b3, Hid (V.is sReturn q = b3) := ⟨_, show _ = _ from rfl⟩
    have HIs : Hid (Calls Tryz.prog 99 #[.pointer (some ⟨c, 0, none⟩), .string ⟨#[114, 101, 116, 117, 114, 110]⟩] W4 fun r w' => r = .returned (.bool b3) ∧ Kept No W4 w') := by
     have := is_any HF3.out.2.2.1 ⟨#[114, 101, 116, 117, 114, 110]⟩
     rw [show V.is (⟨#[114, 101, 116, 117, 114, 110]⟩ : ByteArray).data.toList q = b3 from Hb3.out] at this
     exact this
    go_wp2_with fail
    refine Calls.mono HIs.out ?_
    rintro r WX ⟨rfl, hk5⟩
    have HF4 : Hid (FTs 20 ap c T V w WX q sv D) := ⟨Nat.le_trans HF3.out.1 hk5.size, HF3.out.2.1.trans hk5.no, HF3.out.2.2.1.no hk5, hk5.heap HF3.out.2.2.2.1 id, hk5.heap HF3.out.2.2.2.2.1 id, HF3.out.2.2.2.2.2.go (show c < T + 1 by omega) hk5.no⟩
    clear hk5 HIs HF3
    obtain ⟨W4, hW4⟩ : ∃ W4, W4 = WX := ⟨_, rfl⟩
    subst hW4
    cases b3 with
    | true =>
     have hlt := is_lt Hb3.out (by decide)
     have hRe : R0 = prep D (match returnedS V G q with | .error e => .error e | .ok (x, q) => prep [x] (.ok ([], q))) := by
      rw [HRR.out, stmts, Hb1.out, if_neg (by decide), Hb2.out, if_neg (by decide), Hb3.out, if_pos rfl]
      cases returnedS V G q with
      | error e => rfl
      | ok z => obtain ⟨x, r⟩ := z; rfl
     have HIt : Hid (∀ {w' : World}, Ps w' c V q → Calls Tryz.prog 100 #[.pointer (some ⟨c, 0, none⟩), .int .i64 (l : Int)] w' (PRes c V w' (returnedS V G q))) := fun hq => returned_any HG.out hq hlt
     clear HRR Hb1 Hb2 Hb3
     have HGo : Hid (∀ (_ : Unit) (x : Tr) (r : Nat), returnedS V G q = .ok (x, r) → True) := fun _ _ _ _ => trivial
     go_wp2_with fail
     refine appS (n := 8) (ft_drew HF4.out (by omega)) (fun W4' HF3 hSS => ?_)
     have HF3 : Hid _ := HF3
     try simp only [sm]
     clear HF4
     refine tkU 2 (.pointer (some ⟨c, 0, none⟩)) rfl hSS ?_
     try simp only [sm]
     refine tkU 3 (.int .i64 (l : Int)) rfl hSS ?_
     try simp only [sm]
     have HE1 := HIt.out HF3.out.2.2.1
     refine rdU 4 rfl (fun K hK => ?_)
     go_simp
     cases hit : returnedS V G q with
     | error e =>
      obtain ⟨a, x'⟩ := e
      rw [hit] at HE1 hRe
      have HE : Hid _ := HE1
      have HRe : Hid (R0 = .error (a, x')) := hRe
      clear HE1 hRe hit
      refine Calls.mono HE.out ?_
      rintro r W5 ⟨hk5, rfl⟩
      have HK5 : Hid (Kept (fun b => b = c) w W5) := HF3.out.2.1.trans hk5
      clear hk5 HE HF3
      try go_wp2_with fail
      refine ⟨rfl, ?_⟩
      show PRes c V w RR _ _
      rw [HRf.out, HRe.out]
      exact ⟨HK5.out, rfl⟩
     | ok y =>
      obtain ⟨y0, q1⟩ := y
      have hgo := HGo.out () _ _ hit
      rw [hit] at HE1 hRe
      dsimp only at hRe
      rw [prep_prep] at hRe
      have HRe : Hid _ := hRe
      have HE : Hid _ := HE1
      clear HE1 hit hRe
      refine Calls.mono HE.out ?_
      rintro r W5 ⟨hk5, ⟨cs, rfl, hy⟩, hp5⟩
      have HF5 : Hid _ := ft_call HF3.out hk5 hp5 hy (by omega) (by omega) (by omega)
      clear hy hk5 hp5 HE HF3
      refine hK.out _ _ (fun _ => (nb_cells HF5.out.1.2.2.2.2.1).2.2.2.2.2.1) ?_
      clear hK K
      try simp only [sm]
      refine appT 5 HF5.out (by omega) (by omega) (by omega) (fun ao3 ln3 cp3 W7 HF7 => ?_)
      have HF7 : Hid _ := HF7
      clear HF5
      try simp only [sm]
      have HRe' : Hid (R0 = .ok (D ++ [y0], q1)) := by show _ = _; rw [HRe.out]; simp [prep]
      clear HRe
      have HRe : Hid _ := HRe'.out
      clear HRe'
      have hR9 := HF7.out.2.2.2.1
      have hT9 := HF7.out.2.2.2.2.1
      have HF9 : Hid (ListIs (fun b => b < T + 1) _ (D ++ [y0]) (.slice ao3 ln3 cp3)) := HF7.out.2.2.2.2.2.list
      obtain ⟨r0, r1, r2, r3, r4, r5, r6⟩ := nb_cells hR9
      have rf := fun o => nb_frozen hR9 o
      obtain ⟨t0', t1', t2', t3', t4', t5', t6'⟩ := nb_cells hT9
      have n1 : w.heap.size ≠ T := by omega
      obtain ⟨ao, ln, cp, hsv⟩ := slice_of HF9.out
      rw [hsv] at t5' HF9
      clear hR9 hT9 hsv
      go_wp2_with fail
      refine bodyPost_ret (v := .agg (ncs 20 ⟨#[]⟩ 0 0 0 (.slice ao ln cp) ap).toArray) (by simp [results, Tryz.results60, go_sem, ncs, r0, r1, r2, r3, r4, r5, r6, t0', t1', t2', t3', t4', t5', t6', n1]) rfl ?_
      show PRes c V w RR _ _
      rw [HRf.out, HRe.out]
      have HS7 := Sx.put (k := 20) (t := ⟨#[]⟩) (vt := 0) (vn := 0) (m := 0) (a := ap) hcl HF7.out.2.1 HF7.out.2.2.1 HF7.out.2.2.2.1 rfl (ListIs.mono (fun b (hb : b ≤ w.heap.size) => by show b < T + 1; omega) HF9.out) rfl
      exact ⟨HS7.kept, ⟨_, rfl, NodeIs.mono (fun b (hb : b < w.heap.size) => Nat.le_of_lt hb) _ _ HS7.node⟩, HS7.ps⟩
    | false =>
     have hRe : R0 = prep D (match statementS V G q with | .error e => .error e | .ok (x, q) => prep [x] (stmts V G f' q)) := by
      rw [HRR.out, stmts, Hb1.out, if_neg (by decide), Hb2.out, if_neg (by decide), Hb3.out, if_neg (by decide)]
      cases statementS V G q with
      | error e => rfl
      | ok z =>
       obtain ⟨x, r⟩ := z
       dsimp only
       cases stmts V G f' r with
       | error e => rfl
       | ok z => obtain ⟨m, s⟩ := z; rfl
     have HIt : Hid (∀ {w' : World}, Ps w' c V q → Calls Tryz.prog 101 #[.pointer (some ⟨c, 0, none⟩), .int .i64 (l : Int)] w' (PRes c V w' (statementS V G q))) := fun hq => HSt.out hq
     have HGo : Hid (Gos V (statementS V G)) := statementS_go HG.out.go
     clear HRR Hb1 Hb2 Hb3
     go_wp2_with fail
     refine appS (n := 8) (ft_drew HF4.out (by omega)) (fun W4' HF3 hSS => ?_)
     have HF3 : Hid _ := HF3
     try simp only [sm]
     clear HF4
     refine tkU 2 (.pointer (some ⟨c, 0, none⟩)) rfl hSS ?_
     try simp only [sm]
     refine tkU 3 (.int .i64 (l : Int)) rfl hSS ?_
     try simp only [sm]
     have HE1 := HIt.out HF3.out.2.2.1
     refine rdU 4 rfl (fun K hK => ?_)
     go_simp
     cases hit : statementS V G q with
     | error e =>
      obtain ⟨a, x'⟩ := e
      rw [hit] at HE1 hRe
      have HE : Hid _ := HE1
      have HRe : Hid (R0 = .error (a, x')) := hRe
      clear HE1 hRe hit
      refine Calls.mono HE.out ?_
      rintro r W5 ⟨hk5, rfl⟩
      have HK5 : Hid (Kept (fun b => b = c) w W5) := HF3.out.2.1.trans hk5
      clear hk5 HE HF3
      try go_wp2_with fail
      refine ⟨rfl, ?_⟩
      show PRes c V w RR _ _
      rw [HRf.out, HRe.out]
      exact ⟨HK5.out, rfl⟩
     | ok y =>
      obtain ⟨y0, q1⟩ := y
      have hgo := HGo.out _ _ _ hit
      rw [hit] at HE1 hRe
      dsimp only at hRe
      rw [prep_prep] at hRe
      have HRe : Hid _ := hRe
      have HE : Hid _ := HE1
      clear HE1 hit hRe
      refine Calls.mono HE.out ?_
      rintro r W5 ⟨hk5, ⟨cs, rfl, hy⟩, hp5⟩
      have HF5 : Hid _ := ft_call HF3.out hk5 hp5 hy (by omega) (by omega) (by omega)
      clear hy hk5 hp5 HE HF3
      refine hK.out _ _ (fun _ => (nb_cells HF5.out.1.2.2.2.2.1).2.2.2.2.2.1) ?_
      clear hK K
      try simp only [sm]
      refine appT 5 HF5.out (by omega) (by omega) (by omega) (fun ao3 ln3 cp3 W7 HF7 => ?_)
      have HF7 : Hid _ := HF7
      clear HF5
      try simp only [sm]
      go_wp2_with fail
      refine ⟨⟨D ++ [y0], q1, f', .slice ao3 ln3 cp3, by omega, by simp; omega, by omega, HRe.out, HF7.out⟩, ?_⟩
      rw [hpq, HF7.out.2.2.1.pos]
      omega
end Go.Proofs.YtgkgpjbbmnfnmaaGreatDoor

/- All the levels. -/
namespace Go.Proofs.YtgkgpjbbmnfnmaaGreatDoor
open Go.RowKit
set_option linter.unusedSimpArgs false
set_option linter.unusedVariables false

set_option maxRecDepth 20000 in
set_option maxHeartbeats 8000000 in
theorem above_bad {w : World} {c : Nat} {V : Env} {p : Nat} (bd : Nat) (h : Ps w c V p) :
  Calls Tryz.prog 187 #[.pointer (some ⟨c, 0, none⟩), .int .i64 (bd : Int), .int .i64 ((41 : Nat) : Int)] w (PRes c V w (V.deep p)) := by
 obtain ⟨W0, HW0⟩ : ∃ W0, Hid (w.alloc (nb nz) = W0) := ⟨_, show _ = _ from rfl⟩
 have HK0 : Hid (Kept No w W0) := by show Kept _ _ _; rw [← HW0.out]; exact (Kept.refl No w).alloc _
 have HBg : Hid _ := begin_bad (h.no HK0.out) 41 (by decide) (by decide)
 unfold nb nz ncs at HW0
 clear h
 go_enter Tryz.func187, Tryz.ntmps187
 go_wp2_with fail
 rw [HW0.out]
 clear HW0
 refine Calls.mono HBg.out ?_
 rintro r W1 ⟨rfl, hk1⟩
 have HF : Hid (Kept (fun b => b = c) w W1) := (HK0.out.trans hk1).no
 clear hk1 HBg HK0
 go_wp2_with fail
 refine ⟨rfl, ?_⟩
 exact ⟨HF.out, rfl⟩

set_option maxRecDepth 20000 in
set_option maxHeartbeats 8000000 in
theorem suffixed_bad {w : World} {c : Nat} {V : Env} {p : Nat} (h : Ps w c V p) :
  Calls Tryz.prog 169 #[.pointer (some ⟨c, 0, none⟩), .int .i64 ((41 : Nat) : Int)] w (PResB c V w (V.deep p)) := by
 obtain ⟨W0, HW0⟩ : ∃ W0, Hid (w.alloc (nb nz) = W0) := ⟨_, show _ = _ from rfl⟩
 have HK0 : Hid (Kept No w W0) := by show Kept _ _ _; rw [← HW0.out]; exact (Kept.refl No w).alloc _
 have HBg : Hid _ := begin_bad (h.no HK0.out) 41 (by decide) (by decide)
 unfold nb nz ncs at HW0
 clear h
 go_enter Tryz.func169, Tryz.ntmps169
 go_wp2_with fail
 rw [HW0.out]
 clear HW0
 refine Calls.mono HBg.out ?_
 rintro r W1 ⟨rfl, hk1⟩
 have HF : Hid (Kept (fun b => b = c) w W1) := (HK0.out.trans hk1).no
 clear hk1 HBg HK0
 go_wp2_with fail
 refine ⟨rfl, ?_⟩
 exact ⟨HF.out, rfl⟩

set_option maxRecDepth 20000 in
set_option maxHeartbeats 8000000 in
theorem block_bad {w : World} {c : Nat} {V : Env} {p : Nat} (h : Ps w c V p) :
  Calls Tryz.prog 60 #[.pointer (some ⟨c, 0, none⟩), .int .i64 ((41 : Nat) : Int)] w (PRes c V w (V.deep p)) := by
 obtain ⟨W0, HW0⟩ : ∃ W0, Hid (w.alloc (nb nz) = W0) := ⟨_, show _ = _ from rfl⟩
 have HK0 : Hid (Kept No w W0) := by show Kept _ _ _; rw [← HW0.out]; exact (Kept.refl No w).alloc _
 have HBg : Hid _ := begin_bad (h.no HK0.out) 41 (by decide) (by decide)
 unfold nb nz ncs at HW0
 clear h
 go_enter Tryz.func60, Tryz.ntmps60
 go_wp2_with fail
 rw [HW0.out]
 clear HW0
 refine Calls.mono HBg.out ?_
 rintro r W1 ⟨rfl, hk1⟩
 have HF : Hid (Kept (fun b => b = c) w W1) := (HK0.out.trans hk1).no
 clear hk1 HBg HK0
 go_wp2_with fail
 refine ⟨rfl, ?_⟩
 exact ⟨HF.out, rfl⟩

/-- A level out of the one above it. -/
theorem lev_step {V : Env} (hCh : ∀ {G : Lev} {l : Nat}, LevIs V G (l + 1) → l ≤ 40 → ∀ {w : World} {c p : Nat}, Ps w c V p → p < V.L.length → Calls Tryz.prog 137 #[.pointer (some ⟨c, 0, none⟩), .int .i64 (l : Int)] w (PRes c V w (choiceS V G p))) (hCo : ∀ {G : Lev} {l : Nat}, LevIs V G (l + 1) → l ≤ 40 → ∀ {w : World} {c p : Nat}, Ps w c V p → p < V.L.length → Calls Tryz.prog 139 #[.pointer (some ⟨c, 0, none⟩), .int .i64 (l : Int)] w (PRes c V w (countS V G p))) (hCa : ∀ {G : Lev} {l : Nat}, LevIs V G (l + 1) → l ≤ 40 → ∀ {w : World} {c p : Nat}, Ps w c V p → Calls Tryz.prog 141 #[.pointer (some ⟨c, 0, none⟩), .int .i64 (l : Int)] w (PRes c V w (callOrAssignS V G p)))
  {G : Lev} {l : Nat} (hG : LevIs V G (l + 1)) (hl : l ≤ 40) (h1 : 1 ≤ l) : LevIs V ⟨true, aboveE V G, suffE V G, bodyE V G, blockE V G⟩ l where
 above b hb h := above_any hG hl h b (fun h => suffixed_any hG hl h)
 suff h := suffixed_any hG hl h
 body a h _ := body_any hG a h
 block h := block_any hG hl h (fun h => statement_any hG h (fun hi => fun h => hCh hG hl h (is_lt hi (by decide))) (fun hi => fun h => hCo hG hl h (is_lt hi (by decide))) (fun h => hCa hG hl h))
 ok := by simp [hl]
 le := by omega
 go := ⟨fun b => aboveE_go hG.go b, suffE_go hG.go, fun a => bodyE_go hG.go a, fun p x q hp h => blockE_go hG.go p x q hp h⟩
/-- Every level does what is said of it. -/
theorem lev_is {V : Env} (hCh : ∀ {G : Lev} {l : Nat}, LevIs V G (l + 1) → l ≤ 40 → ∀ {w : World} {c p : Nat}, Ps w c V p → p < V.L.length → Calls Tryz.prog 137 #[.pointer (some ⟨c, 0, none⟩), .int .i64 (l : Int)] w (PRes c V w (choiceS V G p))) (hCo : ∀ {G : Lev} {l : Nat}, LevIs V G (l + 1) → l ≤ 40 → ∀ {w : World} {c p : Nat}, Ps w c V p → p < V.L.length → Calls Tryz.prog 139 #[.pointer (some ⟨c, 0, none⟩), .int .i64 (l : Int)] w (PRes c V w (countS V G p))) (hCa : ∀ {G : Lev} {l : Nat}, LevIs V G (l + 1) → l ≤ 40 → ∀ {w : World} {c p : Nat}, Ps w c V p → Calls Tryz.prog 141 #[.pointer (some ⟨c, 0, none⟩), .int .i64 (l : Int)] w (PRes c V w (callOrAssignS V G p))) :
  ∀ n, n ≤ 40 → LevIs V (lev V n) (41 - n)
 | 0, _ => ⟨fun b hb h => above_bad b h, fun h => suffixed_bad h, fun a h hl => absurd hl (by decide), fun h => block_bad h, rfl, by decide, lev_go V 0⟩
 | n + 1, hn => by
  have ih := lev_is hCh hCo hCa n (by omega)
  rw [show 41 - n = 41 - (n + 1) + 1 by omega] at ih
  exact lev_step hCh hCo hCa ih (by omega) (by omega)
end Go.Proofs.YtgkgpjbbmnfnmaaGreatDoor
