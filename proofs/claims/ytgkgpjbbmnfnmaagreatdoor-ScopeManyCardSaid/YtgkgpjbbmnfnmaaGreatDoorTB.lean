import Derived.Test.YtgkgpjbbmnfnmaaGreatDoorGA
import Derived.Test.YtgkgpjbbmnfnmaaGreatDoorGG
/- item: a key and a value. -/
namespace Go.Proofs.YtgkgpjbbmnfnmaaGreatDoor
open Go.RowKit
set_option linter.unusedSimpArgs false
set_option linter.unusedVariables false

theorem World.alloc_size' (w : World) (o : Obj) : (w.alloc o).heap.size = w.heap.size + 1 := by simp
/-- A row of two trees, just made. -/
theorem Bld.two {B : Nat} {w : World} {x y : Tr} {cs ds : List Value} (hB : B ≤ w.heap.size) (hx : NodeIs (fun b => b < B) w x cs) (hy : NodeIs (fun b => b < B) w y ds) : Bld B (w.alloc (nb (cs ++ ds))) (.slice (some ⟨w.heap.size, 0, none⟩) 2 2) [x, y] := by
 have hl := hx.len
 have hl2 := hy.len
 have key : ∀ z es, NodeIs (fun b => b < B) w z es → NodeIs (Out B (.slice (some ⟨w.heap.size, 0, none⟩) 2 2)) (w.alloc (nb (cs ++ ds))) z es := by
  intro z es hz
  have h1 := NodeIs.kept (((Kept.refl No w).alloc (nb (cs ++ ds))).no) z es (NodeIs.more z es hz)
  refine NodeIs.mono ?_ z es h1
  rintro b (hb | hb)
  ·exact .inl hb
  ·simp [Value.ownBlock] at hb
   exact .inr (by omega)
 refine ⟨⟨[cs, ds], rfl, ⟨by simp [hl, hl2], .inr ⟨w.heap.size, 2, (cs ++ ds).toArray, rfl, hB, World.alloc_heap_new w _, Nat.le_refl _, by decide, by simp [hl, hl2], by simp; exact List.take_of_length_le (by simp; omega)⟩⟩, fun j h1 h2 => ?_⟩⟩
 have e : j = 0 ∨ j = 1 := by simp at h1; omega
 rcases e with rfl | rfl
 ·exact key _ _ hx
 ·exact key _ _ hy

set_option maxRecDepth 20000 in
set_option maxHeartbeats 8000000 in
theorem item_pair {w : World} {c : Nat} {V : Env} {p : Nat} {G : Lev} {lv : Nat} (hG : LevIs V G lv) (h : Ps w c V p) (hn : V.is [91] p = true ∨ V.is [91] p = false ∧ V.isName p = true ∧ V.is [61] (p + 1) = true) :
  Calls Tryz.prog 200 #[.pointer (some ⟨c, 0, none⟩), .int .i64 (lv : Int)] w (PRes c V w (match itemKeyE V G p with
   | .error e => .error e
   | .ok (k, q) => match V.need [61] q with
    | .error e => .error e
    | .ok (_, r) => match G.above 0 r with
     | .error e => .error e
     | .ok (x, s) => .ok (nd 14 [k, x] (V.at p), s))) := by
 obtain ⟨W0, HW0⟩ : ∃ W0, Hid (w.alloc (nb nz) = W0) := ⟨_, show _ = _ from rfl⟩
 have HK0 : Hid (Kept No w W0 ∧ W0.heap.size = w.heap.size + 1) := by
  refine ⟨?_, ?_⟩
  ·rw [← HW0.out]; exact (Kept.refl No w).alloc _
  ·rw [← HW0.out]; simp
 have HT0 : Hid (W0.heap[w.heap.size]? = some (nb nz)) := by show _ = _; rw [← HW0.out]; exact World.alloc_heap_new w _
 have hcl := h.lt
 have HP0 : Hid (Ps W0 c V p) := h.no HK0.out.1
 have HAt : Hid _ := at_any HP0.out
 have HIs : Hid (∀ w', Kept No W0 w' → Calls Tryz.prog 99 #[.pointer (some ⟨c, 0, none⟩), .string ⟨#[91]⟩] w' fun r w'' => r = .returned (.bool (V.is [91] p)) ∧ Kept No w' w'') := fun w' hk => is_any (HP0.out.no hk) ⟨#[91]⟩
 have HNm : Hid (∀ w', Kept No W0 w' → Calls Tryz.prog 168 #[.pointer (some ⟨c, 0, none⟩)] w' fun r w'' => r = .returned (.bool (V.isName p)) ∧ Kept No w' w'') := fun w' hk => isName_any (HP0.out.no hk)
 have HL : Hid (∀ {w' : World} {q : Nat}, Ps w' c V q → Calls Tryz.prog 163 #[.pointer (some ⟨c, 0, none⟩), .int .i64 (lv : Int)] w' (PRes c V w' (G.above 0 q))) := fun hq => expr_any hG hq
 have HIK : Hid (∀ {w' : World}, Ps w' c V p → Calls Tryz.prog 201 #[.pointer (some ⟨c, 0, none⟩), .int .i64 (lv : Int)] w' (PRes c V w' (itemKeyE V G p))) := fun hq => itemKey_any hG hq
 obtain ⟨at', HA⟩ : ∃ a, Hid (V.at p = a) := ⟨_, show _ = _ from rfl⟩
 rw [HA.out] at HAt
 rw [HA.out]
 unfold nb nz ncs at HW0
 clear h hG
 have HAh : Hid (∀ w', Kept No W0 w' → Calls Tryz.prog 162 #[.pointer (some ⟨c, 0, none⟩), .int .i64 1] w' fun r w'' => r = .returned (tv (V.tk (p + 1))) ∧ Kept No w' w'') := fun w' hk => ahead_any (HP0.out.no hk) 1 (by omega)
 obtain ⟨x, HX⟩ : ∃ x, Hid (V.tk (p + 1) = x) := ⟨_, show _ = _ from rfl⟩
 rw [HX.out] at HAh
 have HFr : Hid (V.is [91] p = true ∨ (V.is [91] p = false ∧ V.isName p = true ∧ (x.t.toList == [61]) = true)) := by
  rcases hn with hb | ⟨hb, hm, he⟩
  ·exact .inl hb
  ·unfold Env.is at he
   rw [HX.out] at he
   exact .inr ⟨hb, hm, by rw [ByteArray.toList_eq]; exact he⟩
 obtain ⟨xk, xt, xvt, xvn, xsy, xa, xe⟩ := x
 clear hn HX
 cases hK : itemKeyE V G p with
 | error e =>
  obtain ⟨a, x'⟩ := e
  dsimp only
  go_enter Tryz.func200, Tryz.ntmps200
  go_wp2_with fail
  rw [HW0.out]
  refine Calls.mono HAt.out ?_
  rintro r W1 ⟨rfl, hk1⟩
  have HKa : Hid (Kept No W0 W1) := hk1
  clear hk1 HAt
  go_wp2_with fail
  refine Calls.mono (HIs.out _ HKa.out) ?_
  rintro r Wi ⟨rfl, hki⟩
  have HKb : Hid (Kept No W0 Wi) := HKa.out.trans hki
  clear hki HKa
  rcases HFr.out with hb | ⟨hb, hm, hxt2⟩
  case' inl =>
   rw [hb]
   have HKW : Hid (Kept No W0 Wi) := HKb.out
   clear HKb
  case' inr =>
   rw [hb]
   rw [hm] at HNm
   have hxt2 : (xt.toList == [61]) = true := hxt2
   have hxt3 : (xt.toList == (⟨#[61]⟩ : ByteArray).toList) = true := by rw [ByteArray.toList_eq ⟨#[61]⟩]; exact hxt2
   go_wp2_with fail
   refine Calls.mono (HNm.out _ HKb.out) ?_
   rintro r Wn ⟨rfl, hkn⟩
   have HKc : Hid (Kept No W0 Wn) := HKb.out.trans hkn
   clear hkn HKb
   go_wp2_with fail
   refine Calls.mono (HAh.out _ HKc.out) ?_
   rintro r Wi ⟨rfl, hkh⟩
   have HKW : Hid (Kept No W0 Wi) := HKc.out.trans hkh
   clear hkh HKc
   have fd := fun w => fd45t ⟨xk, xt, xvt, xvn, xsy, xa, xe⟩ w
   unfold tv
   dsimp only at fd ⊢
  all_goals
   have HE1 := HIK.out (HP0.out.no HKW.out)
   rw [hK] at HE1
   have HE : Hid _ := HE1
   have HK1 : Hid (Kept (fun b => b = c) w Wi ∧ Wi.heap[w.heap.size]? = some (nb nz) ∧ w.heap.size + 1 ≤ Wi.heap.size) := ⟨(HK0.out.1.trans HKW.out).no, HKW.out.heap HT0.out id, by have := HKW.out.size; have := HK0.out.2; omega⟩
   clear HKW HE1 HK0 HT0 HW0 HP0 HIK HNm HIs hK hb HAh HFr
   go_wp2_with fail
   refine Calls.mono HE.out ?_
   rintro r W2 ⟨hk2, rfl⟩
   have HK2 : Hid (Kept (fun b => b = c) w W2) := HK1.out.1.trans hk2
   clear hk2 HK1 HE
   go_wp2_with fail
   exact ⟨rfl, HK2.out, rfl⟩
 | ok y =>
  obtain ⟨⟨kk, kt, kvt, kvn, kn, kl, ka⟩, q⟩ := y
  dsimp only
  unfold Env.need
  cases hb2 : V.is [61] q with
  | false =>
   rw [if_neg (by decide)]
   unfold Env.wrong
   dsimp only
   go_enter Tryz.func200, Tryz.ntmps200
   go_wp2_with fail
   rw [HW0.out]
   refine Calls.mono HAt.out ?_
   rintro r W1 ⟨rfl, hk1⟩
   have HKa : Hid (Kept No W0 W1) := hk1
   clear hk1 HAt
   go_wp2_with fail
   refine Calls.mono (HIs.out _ HKa.out) ?_
   rintro r Wi ⟨rfl, hki⟩
   have HKb : Hid (Kept No W0 Wi) := HKa.out.trans hki
   clear hki HKa
   rcases HFr.out with hb | ⟨hb, hm, hxt2⟩
   case' inl =>
    rw [hb]
    have HKW : Hid (Kept No W0 Wi) := HKb.out
    clear HKb
   case' inr =>
    rw [hb]
    rw [hm] at HNm
    have hxt2 : (xt.toList == [61]) = true := hxt2
    have hxt3 : (xt.toList == (⟨#[61]⟩ : ByteArray).toList) = true := by rw [ByteArray.toList_eq ⟨#[61]⟩]; exact hxt2
    go_wp2_with fail
    refine Calls.mono (HNm.out _ HKb.out) ?_
    rintro r Wn ⟨rfl, hkn⟩
    have HKc : Hid (Kept No W0 Wn) := HKb.out.trans hkn
    clear hkn HKb
    go_wp2_with fail
    refine Calls.mono (HAh.out _ HKc.out) ?_
    rintro r Wi ⟨rfl, hkh⟩
    have HKW : Hid (Kept No W0 Wi) := HKc.out.trans hkh
    clear hkh HKc
    have fd := fun w => fd45t ⟨xk, xt, xvt, xvn, xsy, xa, xe⟩ w
    unfold tv
    dsimp only at fd ⊢
   all_goals
    have HE1 := HIK.out (HP0.out.no HKW.out)
    rw [hK] at HE1
    have HE : Hid _ := HE1
    have HK1 : Hid (Kept (fun b => b = c) w Wi ∧ Wi.heap[w.heap.size]? = some (nb nz) ∧ w.heap.size + 1 ≤ Wi.heap.size) := ⟨(HK0.out.1.trans HKW.out).no, HKW.out.heap HT0.out id, by have := HKW.out.size; have := HK0.out.2; omega⟩
    clear HKW HE1 HK0 HT0 HW0 HP0 HIK HNm HIs hK hb HAh HFr
    go_wp2_with fail
    refine Calls.mono HE.out ?_
    rintro r W2 ⟨hk2, ⟨cs, rfl, hy⟩, hp2⟩
    obtain ⟨sv, rfl, hl⟩ := NodeIs.cs.1 hy
    obtain ⟨ao, ln, cp, rfl⟩ := slice_of hl
    have hR1 : W2.heap[w.heap.size]? = some (nb nz) := hk2.heap HK1.out.2.1 (by omega)
    have hRT : w.heap.size + 1 ≤ W2.heap.size := Nat.le_trans HK1.out.2.2 hk2.size
    have HN : Hid (∀ o, Calls Tryz.prog 166 #[.pointer (some ⟨c, 0, none⟩), .string ⟨#[61]⟩] (W2.alloc o) fun r w' => r = stopW (V.at q) 6 ∧ Kept (fun b => b = c) (W2.alloc o) w') := fun o => need_bad (hp2.no ((Kept.refl No W2).alloc o)) ⟨#[61]⟩ (by decide) hb2
    have HF : Hid (Kept (fun b => b = c) w W2) := HK1.out.1.trans hk2
    clear hk2 hy hp2 HE hl HK1 hb2 hR1 hRT
    unfold ncs
    go_wp2_with fail
    refine Calls.mono (HN.out _) ?_
    rintro r W3 ⟨rfl, hk3⟩
    have HF3 : Hid (Kept (fun b => b = c) w W3) := (HF.out.alloc _).trans hk3
    clear hk3 HF HN
    go_wp2_with fail
    exact ⟨rfl, HF3.out, rfl⟩
  | true =>
   rw [if_pos rfl]
   dsimp only
   cases hR : G.above 0 (q + 1) with
   | error e =>
    obtain ⟨a, x'⟩ := e
    dsimp only
    go_enter Tryz.func200, Tryz.ntmps200
    go_wp2_with fail
    rw [HW0.out]
    refine Calls.mono HAt.out ?_
    rintro r W1 ⟨rfl, hk1⟩
    have HKa : Hid (Kept No W0 W1) := hk1
    clear hk1 HAt
    go_wp2_with fail
    refine Calls.mono (HIs.out _ HKa.out) ?_
    rintro r Wi ⟨rfl, hki⟩
    have HKb : Hid (Kept No W0 Wi) := HKa.out.trans hki
    clear hki HKa
    rcases HFr.out with hb | ⟨hb, hm, hxt2⟩
    case' inl =>
     rw [hb]
     have HKW : Hid (Kept No W0 Wi) := HKb.out
     clear HKb
    case' inr =>
     rw [hb]
     rw [hm] at HNm
     have hxt2 : (xt.toList == [61]) = true := hxt2
     have hxt3 : (xt.toList == (⟨#[61]⟩ : ByteArray).toList) = true := by rw [ByteArray.toList_eq ⟨#[61]⟩]; exact hxt2
     go_wp2_with fail
     refine Calls.mono (HNm.out _ HKb.out) ?_
     rintro r Wn ⟨rfl, hkn⟩
     have HKc : Hid (Kept No W0 Wn) := HKb.out.trans hkn
     clear hkn HKb
     go_wp2_with fail
     refine Calls.mono (HAh.out _ HKc.out) ?_
     rintro r Wi ⟨rfl, hkh⟩
     have HKW : Hid (Kept No W0 Wi) := HKc.out.trans hkh
     clear hkh HKc
     have fd := fun w => fd45t ⟨xk, xt, xvt, xvn, xsy, xa, xe⟩ w
     unfold tv
     dsimp only at fd ⊢
    all_goals
     have HE1 := HIK.out (HP0.out.no HKW.out)
     rw [hK] at HE1
     have HE : Hid _ := HE1
     have HK1 : Hid (Kept (fun b => b = c) w Wi ∧ Wi.heap[w.heap.size]? = some (nb nz) ∧ w.heap.size + 1 ≤ Wi.heap.size) := ⟨(HK0.out.1.trans HKW.out).no, HKW.out.heap HT0.out id, by have := HKW.out.size; have := HK0.out.2; omega⟩
     clear HKW HE1 HK0 HT0 HW0 HP0 HIK HNm HIs hK hb HAh HFr
     go_wp2_with fail
     refine Calls.mono HE.out ?_
     rintro r W2 ⟨hk2, ⟨cs, rfl, hy⟩, hp2⟩
     obtain ⟨sv, rfl, hl⟩ := NodeIs.cs.1 hy
     obtain ⟨ao, ln, cp, rfl⟩ := slice_of hl
     have hR1 : W2.heap[w.heap.size]? = some (nb nz) := hk2.heap HK1.out.2.1 (by omega)
     have hRT : w.heap.size + 1 ≤ W2.heap.size := Nat.le_trans HK1.out.2.2 hk2.size
     have HN : Hid (∀ o, Calls Tryz.prog 166 #[.pointer (some ⟨c, 0, none⟩), .string ⟨#[61]⟩] (W2.alloc o) fun r w' => r = .returned (.tuple #[]) ∧ Kept (fun b => b = c) (W2.alloc o) w' ∧ Ps w' c V (q + 1)) := fun o => need_ok (hp2.no ((Kept.refl No W2).alloc o)) ⟨#[61]⟩ (by decide) hb2
     have HF : Hid (Kept (fun b => b = c) w W2 ∧ NodeIs (fun b => b < w.heap.size + 1 ∨ W2.heap.size ≤ b) W2 (.mk kk kt kvt kvn kn kl ka) (ncs kk kt kvt kvn kn (.slice ao ln cp) ka) ∧ W2.heap[w.heap.size]? = some (nb nz) ∧ w.heap.size + 1 ≤ W2.heap.size) :=
      ⟨HK1.out.1.trans hk2, NodeIs.mono (fun b hb => hb.elim (fun hb => .inl (Nat.lt_of_lt_of_le hb HK1.out.2.2)) .inr) _ _ (NodeIs.more _ _ hy), hR1, hRT⟩
     clear hk2 hy hp2 HE hl HK1 hb2 hR1 hRT
     unfold ncs
     go_wp2_with fail
     refine Calls.mono (HN.out _) ?_
     rintro r W3 ⟨rfl, hk3, hp3⟩
     have hT3 : W3.heap[W2.heap.size]? = some (nb (ncs kk kt kvt kvn kn (.slice ao ln cp) ka)) := hk3.heap (World.alloc_heap_new W2 _) (by have := HF.out.2.2.2; omega)
     have hR3 : W3.heap[w.heap.size]? = some (nb nz) := hk3.heap (((Kept.refl No W2).alloc _).heap HF.out.2.2.1 id) (by omega)
     have HF3 : Hid (Kept (fun b => b = c) w W3 ∧ NodeIs (fun b => b < w.heap.size + 1) W3 (.mk kk kt kvt kvn kn kl ka) (ncs kk kt kvt kvn kn (.slice ao ln cp) ka) ∧ Ps W3 c V (q + 1) ∧ W3.heap[w.heap.size]? = some (nb nz) ∧ w.heap.size + 1 ≤ W3.heap.size) := by
      refine ⟨(HF.out.1.alloc _).trans hk3, ?_, hp3, hR3, by have h1 := hk3.size; have h2 := HF.out.2.2.2; rw [World.alloc_size'] at h1; omega⟩
      refine NodeIs.kept (hk3.mono (fun b (hb : b = c) => by show b < w.heap.size + 1; omega)) _ _ (NodeIs.mono (fun b hb => .inl hb) _ _ (NodeIs.kept ((Kept.refl No W2).alloc _).no _ _ HF.out.2.1))
     have n1 : W2.heap.size ≠ c := by have := HF.out.2.2.2; omega
     have n2 : W2.heap.size ≠ w.heap.size := by have := HF.out.2.2.2; omega
     clear hk3 hp3 HN hR3 HF
     generalize W2.heap.size = T at hT3 n1 n2 ⊢
     go_wp2_with fail
     refine wp_region_held_drew (S := fun w' => w'.heap[T]? = some (nb (ncs kk kt kvt kvn kn (.slice ao ln cp) ka))) (by kernel_rfl) hT3 (fun hSS => ?_)
     have HF4 : Hid (Kept (fun b => b = c) w W3.drew ∧ NodeIs (fun b => b < w.heap.size + 1) W3.drew (.mk kk kt kvt kvn kn kl ka) (ncs kk kt kvt kvn kn (.slice ao ln cp) ka) ∧ Ps W3.drew c V (q + 1) ∧ W3.drew.heap[w.heap.size]? = some (nb nz) ∧ w.heap.size + 1 ≤ W3.drew.heap.size) :=
      ⟨HF3.out.1.drew, NodeIs.kept (Kept.refl _ W3).drew _ _ HF3.out.2.1, HF3.out.2.2.1.no (Kept.refl _ _).drew, HF3.out.2.2.2.1, HF3.out.2.2.2.2⟩
     clear HF3 hT3
     generalize W3.drew = W4 at HF4 hSS ⊢
     refine tk1 0 (.int .i64 at') rfl hSS ?_
     try simp only [sm]
     refine tk1 2 (.pointer (some ⟨c, 0, none⟩)) rfl hSS ?_
     try simp only [sm]
     refine tk1 3 (.int .i64 (lv : Int)) rfl hSS ?_
     try simp only [sm]
     refine wpAnyH_take (i := 1) (v := .agg #[.int .i64 kk, .string kt, .int .i64 kvt, .int .i64 kvn, .int .i64 kn, .slice ao ln cp, .int .i64 ka]) rfl (by kernel_rfl) (by kernel_rfl) (by kernel_rfl) (fun _ _ _ h => h) (Or.inl ⟨by rfl, by intro w' hw; obtain ⟨g0, g1, g2, g3, g4, g5, g6⟩ := nb_cells hw; go_simp⟩) hSS ?_
     try simp only [sm]
     refine rd1 4 rfl (fun K hK => ?_)
     go_simp
     have HE1 := HL.out HF4.out.2.2.1
     rw [hR] at HE1
     have HE : Hid _ := HE1
     clear HE1 HL hR
     refine Calls.mono HE.out ?_
     rintro r W5 ⟨hk5, rfl⟩
     have HK5 : Hid (Kept (fun b => b = c) w W5) := HF4.out.1.trans hk5
     clear hk5 HE HF4 hSS
     try go_wp2_with fail
     exact ⟨rfl, HK5.out, rfl⟩
   | ok y =>
    obtain ⟨⟨yk, yt, yvt, yvn, yn, yl, ya⟩, q2⟩ := y
    dsimp only
    go_enter Tryz.func200, Tryz.ntmps200
    go_wp2_with fail
    rw [HW0.out]
    refine Calls.mono HAt.out ?_
    rintro r W1 ⟨rfl, hk1⟩
    have HKa : Hid (Kept No W0 W1) := hk1
    clear hk1 HAt
    go_wp2_with fail
    refine Calls.mono (HIs.out _ HKa.out) ?_
    rintro r Wi ⟨rfl, hki⟩
    have HKb : Hid (Kept No W0 Wi) := HKa.out.trans hki
    clear hki HKa
    rcases HFr.out with hb | ⟨hb, hm, hxt2⟩
    case' inl =>
     rw [hb]
     have HKW : Hid (Kept No W0 Wi) := HKb.out
     clear HKb
    case' inr =>
     rw [hb]
     rw [hm] at HNm
     have hxt2 : (xt.toList == [61]) = true := hxt2
     have hxt3 : (xt.toList == (⟨#[61]⟩ : ByteArray).toList) = true := by rw [ByteArray.toList_eq ⟨#[61]⟩]; exact hxt2
     go_wp2_with fail
     refine Calls.mono (HNm.out _ HKb.out) ?_
     rintro r Wn ⟨rfl, hkn⟩
     have HKc : Hid (Kept No W0 Wn) := HKb.out.trans hkn
     clear hkn HKb
     go_wp2_with fail
     refine Calls.mono (HAh.out _ HKc.out) ?_
     rintro r Wi ⟨rfl, hkh⟩
     have HKW : Hid (Kept No W0 Wi) := HKc.out.trans hkh
     clear hkh HKc
     have fd := fun w => fd45t ⟨xk, xt, xvt, xvn, xsy, xa, xe⟩ w
     unfold tv
     dsimp only at fd ⊢
    all_goals
     have HE1 := HIK.out (HP0.out.no HKW.out)
     rw [hK] at HE1
     have HE : Hid _ := HE1
     have HK1 : Hid (Kept (fun b => b = c) w Wi ∧ Wi.heap[w.heap.size]? = some (nb nz) ∧ w.heap.size + 1 ≤ Wi.heap.size) := ⟨(HK0.out.1.trans HKW.out).no, HKW.out.heap HT0.out id, by have := HKW.out.size; have := HK0.out.2; omega⟩
     clear HKW HE1 HK0 HT0 HW0 HP0 HIK HNm HIs hK hb HAh HFr
     go_wp2_with fail
     refine Calls.mono HE.out ?_
     rintro r W2 ⟨hk2, ⟨cs, rfl, hy⟩, hp2⟩
     obtain ⟨sv, rfl, hl⟩ := NodeIs.cs.1 hy
     obtain ⟨ao, ln, cp, rfl⟩ := slice_of hl
     have hR1 : W2.heap[w.heap.size]? = some (nb nz) := hk2.heap HK1.out.2.1 (by omega)
     have hRT : w.heap.size + 1 ≤ W2.heap.size := Nat.le_trans HK1.out.2.2 hk2.size
     have HN : Hid (∀ o, Calls Tryz.prog 166 #[.pointer (some ⟨c, 0, none⟩), .string ⟨#[61]⟩] (W2.alloc o) fun r w' => r = .returned (.tuple #[]) ∧ Kept (fun b => b = c) (W2.alloc o) w' ∧ Ps w' c V (q + 1)) := fun o => need_ok (hp2.no ((Kept.refl No W2).alloc o)) ⟨#[61]⟩ (by decide) hb2
     have HF : Hid (Kept (fun b => b = c) w W2 ∧ NodeIs (fun b => b < w.heap.size + 1 ∨ W2.heap.size ≤ b) W2 (.mk kk kt kvt kvn kn kl ka) (ncs kk kt kvt kvn kn (.slice ao ln cp) ka) ∧ W2.heap[w.heap.size]? = some (nb nz) ∧ w.heap.size + 1 ≤ W2.heap.size) :=
      ⟨HK1.out.1.trans hk2, NodeIs.mono (fun b hb => hb.elim (fun hb => .inl (Nat.lt_of_lt_of_le hb HK1.out.2.2)) .inr) _ _ (NodeIs.more _ _ hy), hR1, hRT⟩
     clear hk2 hy hp2 HE hl HK1 hb2 hR1 hRT
     unfold ncs
     go_wp2_with fail
     refine Calls.mono (HN.out _) ?_
     rintro r W3 ⟨rfl, hk3, hp3⟩
     have hT3 : W3.heap[W2.heap.size]? = some (nb (ncs kk kt kvt kvn kn (.slice ao ln cp) ka)) := hk3.heap (World.alloc_heap_new W2 _) (by have := HF.out.2.2.2; omega)
     have hR3 : W3.heap[w.heap.size]? = some (nb nz) := hk3.heap (((Kept.refl No W2).alloc _).heap HF.out.2.2.1 id) (by omega)
     have HF3 : Hid (Kept (fun b => b = c) w W3 ∧ NodeIs (fun b => b < w.heap.size + 1) W3 (.mk kk kt kvt kvn kn kl ka) (ncs kk kt kvt kvn kn (.slice ao ln cp) ka) ∧ Ps W3 c V (q + 1) ∧ W3.heap[w.heap.size]? = some (nb nz) ∧ w.heap.size + 1 ≤ W3.heap.size) := by
      refine ⟨(HF.out.1.alloc _).trans hk3, ?_, hp3, hR3, by have h1 := hk3.size; have h2 := HF.out.2.2.2; rw [World.alloc_size'] at h1; omega⟩
      refine NodeIs.kept (hk3.mono (fun b (hb : b = c) => by show b < w.heap.size + 1; omega)) _ _ (NodeIs.mono (fun b hb => .inl hb) _ _ (NodeIs.kept ((Kept.refl No W2).alloc _).no _ _ HF.out.2.1))
     have n1 : W2.heap.size ≠ c := by have := HF.out.2.2.2; omega
     have n2 : W2.heap.size ≠ w.heap.size := by have := HF.out.2.2.2; omega
     clear hk3 hp3 HN hR3 HF
     generalize W2.heap.size = T at hT3 n1 n2 ⊢
     go_wp2_with fail
     refine wp_region_held_drew (S := fun w' => w'.heap[T]? = some (nb (ncs kk kt kvt kvn kn (.slice ao ln cp) ka))) (by kernel_rfl) hT3 (fun hSS => ?_)
     have HF4 : Hid (Kept (fun b => b = c) w W3.drew ∧ NodeIs (fun b => b < w.heap.size + 1) W3.drew (.mk kk kt kvt kvn kn kl ka) (ncs kk kt kvt kvn kn (.slice ao ln cp) ka) ∧ Ps W3.drew c V (q + 1) ∧ W3.drew.heap[w.heap.size]? = some (nb nz) ∧ w.heap.size + 1 ≤ W3.drew.heap.size) :=
      ⟨HF3.out.1.drew, NodeIs.kept (Kept.refl _ W3).drew _ _ HF3.out.2.1, HF3.out.2.2.1.no (Kept.refl _ _).drew, HF3.out.2.2.2.1, HF3.out.2.2.2.2⟩
     clear HF3 hT3
     generalize W3.drew = W4 at HF4 hSS ⊢
     refine tk1 0 (.int .i64 at') rfl hSS ?_
     try simp only [sm]
     refine tk1 2 (.pointer (some ⟨c, 0, none⟩)) rfl hSS ?_
     try simp only [sm]
     refine tk1 3 (.int .i64 (lv : Int)) rfl hSS ?_
     try simp only [sm]
     refine wpAnyH_take (i := 1) (v := .agg #[.int .i64 kk, .string kt, .int .i64 kvt, .int .i64 kvn, .int .i64 kn, .slice ao ln cp, .int .i64 ka]) rfl (by kernel_rfl) (by kernel_rfl) (by kernel_rfl) (fun _ _ _ h => h) (Or.inl ⟨by rfl, by intro w' hw; obtain ⟨g0, g1, g2, g3, g4, g5, g6⟩ := nb_cells hw; go_simp⟩) hSS ?_
     try simp only [sm]
     refine rd1 4 rfl (fun K hK => ?_)
     go_simp
     have HE1 := HL.out HF4.out.2.2.1
     rw [hR] at HE1
     have HE : Hid _ := HE1
     clear HE1 HL hR
     refine Calls.mono HE.out ?_
     rintro r W5 ⟨hk5, ⟨cs, rfl, hy⟩, hp5⟩
     obtain ⟨sv, rfl, hl⟩ := NodeIs.cs.1 hy
     obtain ⟨ao2, ln2, cp2, rfl⟩ := slice_of hl
     have hS5 : W5.heap[T]? = some (nb (ncs kk kt kvt kvn kn (.slice ao ln cp) ka)) := hk5.heap hSS n1
     have hRT : w.heap.size + 1 ≤ W5.heap.size := Nat.le_trans HF4.out.2.2.2.2 hk5.size
     have HF5 : Hid (Kept (fun b => b = c) w W5 ∧ Ps W5 c V q2 ∧ W5.heap[w.heap.size]? = some (nb nz) ∧ w.heap.size + 1 ≤ W5.heap.size ∧ ListIs (fun b => b < w.heap.size + 1) (W5.alloc (nb (ncs kk kt kvt kvn kn (.slice ao ln cp) ka ++ ncs yk yt yvt yvn yn (.slice ao2 ln2 cp2) ya))) [.mk kk kt kvt kvn kn kl ka, .mk yk yt yvt yvn yn yl ya] (.slice (some ⟨W5.heap.size, 0, none⟩) 2 2)) :=
      ⟨HF4.out.1.trans hk5, hp5, hk5.heap HF4.out.2.2.2.1 (by omega), hRT, (Bld.two hRT (NodeIs.kept (hk5.mono (fun b (hb : b = c) => by show b < w.heap.size + 1; omega)) _ _ HF4.out.2.1) (NodeIs.mono (fun b (hb : b < w.heap.size + 1) => Nat.lt_of_lt_of_le hb HF4.out.2.2.2.2) _ _ hy)).list⟩
     clear hy hl hk5 hp5 HE HF4 hSS hRT
     unfold ncs
     refine hK.out _ _ hS5 (fun hSS => ?_)
     clear hK K hS5
     try simp only [sm]
     refine rd1 5 rfl (fun K hK => ?_)
     go_simp
     refine hK.out _ _ (((Kept.refl No W5).alloc _).heap hSS id) (fun hSS => ?_)
     clear hK K
     try simp only [sm]
     refine tk1 6 (.agg #[.int .i64 14, .string ⟨#[]⟩, .int .i64 0, .int .i64 0, .int .i64 0, .slice (some ⟨W5.heap.size, 0, none⟩) 2 2, .int .i64 at']) rfl hSS ?_
     try simp only [sm]
     refine rd1 7 rfl (fun K hK => ?_)
     obtain ⟨r0, r1, r2, r3, r4, r5, r6⟩ := nbo_cells HF5.out.2.2.1
     have rf : ∀ o q, (W5.alloc o).frozen? ⟨w.heap.size, q, none⟩ = false := fun o q => nb_frozen (((Kept.refl No W5).alloc o).heap HF5.out.2.2.1 id) q
     go_simp
     try go_wp2_with fail
     refine hK.out _ _ ?_ (fun hSS => ?_)
     ·repeat refine set_other ?_ _ _ n2
      exact hSS
     clear hK K
     try simp only [sm]
     refine wpAnyH_done (by kernel_rfl) ?_ _
     go_wp2_with fail
     refine bodyPost_ret (v := .agg (ncs 14 ⟨#[]⟩ 0 0 0 (.slice (some ⟨W5.heap.size, 0, none⟩) 2 2) at').toArray) (by simp [results, Tryz.results200, go_sem, ncs, r0, r1, r2, r3, r4, r5, r6]) rfl ?_
     refine ⟨?_, ⟨_, rfl, NodeIs.cs.2 ⟨_, rfl, ListIs.mono (fun b (hb : b < w.heap.size) => Nat.lt_succ_of_lt hb) (ListIs.kept ?_ HF5.out.2.2.2.2)⟩⟩, HF5.out.2.1.low (fun k hk => ?_)⟩
     ·repeat refine Kept.set ?_ _ _ _ (Or.inr (Nat.le_refl _))
      exact HF5.out.1.alloc _
     ·repeat refine Kept.set ?_ _ _ _ (Or.inl (Nat.lt_succ_self _))
      exact Kept.refl _ _
     ·have hkR : k ≠ w.heap.size := by omega
      repeat rw [set_low _ _ _ hkR]
      exact alloc_low _ _ (by have := HF5.out.2.2.2.1; omega)
end Go.Proofs.YtgkgpjbbmnfnmaaGreatDoor
