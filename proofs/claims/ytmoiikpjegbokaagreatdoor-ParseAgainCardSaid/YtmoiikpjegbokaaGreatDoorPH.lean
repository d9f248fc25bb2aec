import Derived.Test.YtmoiikpjegbokaaGreatDoorPG
set_option linter.unusedSimpArgs false
set_option linter.unusedVariables false
/- Quotes and numbers as tokens. -/
namespace Go.Proofs.YtmoiikpjegbokaaGreatDoor
open List renaming map_cons → lmc
open Go.RowKit
theorem tq_lt (t : ByteArray) : ∀ a ∈ Tq.bl t, a < 256 := fun a ha => by
  unfold Tq.bl at ha;obtain ⟨c, _, rfl⟩ := List.mem_map.1 ha;exact UInt8.toNat_lt c
theorem toNat_ofNat : ∀ l : List Nat, (∀ a ∈ l, a < 256) → (l.map UInt8.ofNat).map UInt8.toNat = l
  | [], _ => rfl
  | a :: l, h => by
    have h1 := h a (by simp);have h2 := toNat_ofNat l (fun b hb => h b (by simp [hb]));rw [lmc, lmc, h2]
    congr 1
    rw [UInt8.toNat_ofNat', Nat.mod_eq_of_lt h1]
theorem ofNat_toNat : ∀ l : List UInt8, (l.map UInt8.toNat).map UInt8.ofNat = l
  | [] => rfl
  | a :: l => by
    rw [lmc, lmc, ofNat_toNat l]; simp
def qM (t : ByteArray) : List UInt8 := (Tq.qin (Tq.bl t)).map UInt8.ofNat
theorem qt_list (t : ByteArray) : bl (qtT t) = 34 :: (qM t ++ [34]) := by
  have h := qin_no34 _ (tq_lt t);show (qtT t).data.toList = _;unfold qtT
  rw [str_list _ (by
    intro a ha;unfold Tq.quoteL at ha;simp only [List.mem_cons, List.mem_append, List.not_mem_nil, or_false] at ha;rcases ha with rfl | ha | rfl
    · decide
    · exact (h a ha).1
    · decide)]
  unfold Tq.quoteL qM;rw [lmc, List.map_append]; rfl
theorem qM_no34 (t : ByteArray) : ∀ c ∈ qM t, ¬ c.toNat = 34 := fun c hc => by
  unfold qM at hc;obtain ⟨a, ha, rfl⟩ := List.mem_map.1 hc;have h := qin_no34 _ (tq_lt t) a ha;rw [UInt8.toNat_ofNat', Nat.mod_eq_of_lt h.1]; exact h.2
theorem qL_at (r : List UInt8) : ∀ M : List UInt8, (∀ c ∈ M, ¬ c.toNat = 34) → qL (M ++ 34 :: r) = some M.length
  | [], _ => rfl
  | c :: M, h => by
    show (if c.toNat = 34 then some 0 else (qL (M ++ 34 :: r)).map (· + 1)) = _;rw [if_neg (h c (by simp)), qL_at r M (fun d hd => h d (by simp [hd]))]; rfl
theorem qt_size (t : ByteArray) : (qtT t).size = (qM t).length + 2 := by
  rw [← bl_len, qt_list]; simp
theorem uq_qt (t : ByteArray) : uq (qtT t) = some t := by
  have hl := qt_list t;have hz := qt_size t;have hb : ∀ s : ByteArray, Tx.bl s = (bl s).map UInt8.toNat := fun s => rfl
  have h2 : Tx.bl ((qtT t).extract 1 ((qtT t).size - 1)) = Tq.qin (Tq.bl t) := by
    rw [hb, bl_ext, hl, hz, show (qM t).length + 2 - 1 = (qM t).length + 1 by omega, List.take_succ_cons, List.take_left, List.drop_succ_cons, List.drop_zero];unfold qM;exact toNat_ofNat _ (fun a ha => (qin_no34 _ (tq_lt t) a ha).1)
  have hB : Tx.unquoteB (qtT t) = true := by
    unfold Tx.unquoteB;rw [hb, hl, hz];simp [List.getD_eq_getElem?_getD]
  unfold uq;rw [if_pos hB, h2, Tx.unq_qin _ (tq_lt t)];show some (Tx.str (Tq.bl t)) = some t
  congr 1
  apply bl_inj
  show (Tq.str (Tq.bl t)).data.toList = t.data.toList;rw [str_list _ (tq_lt t)];unfold Tq.bl;exact ofNat_toNat _
theorem qt_tok (t : ByteArray) (hz : (qtT t).size ≤ 8192) : Cutd ⟨4, qtT t, 0, 0, t, 0, ((qtT t).size : Int)⟩ := by
  have hl := qt_list t;have hs := qt_size t;have h0 : 0 < (qtT t).size := by omega
  have hg : (qtT t)[0] = 34 := by rw [← bl_getD _ h0, hl]; rfl
  have hk := tk_quote h0 hz (by rw [hg]; decide) (by rw [hg]; decide) (by rw [hg]; decide);refine .of_tk hz h0 (by rw [hl]; exact skipB_zero.2 ⟨by decide, fun h => absurd h.1 (by decide)⟩) (X := ⟨4, qtT t, 0, 0, t, 0, ((qtT t).size : Int)⟩) ?_ rfl rfl;rw [hk];unfold quX;have hq : qL ((bl (qtT t)).drop (0 + 1)) = some (qM t).length := by rw [hl]; exact qL_at [] _ (qM_no34 t)
  have hx : (qtT t).extract 0 (0 + (qM t).length + 2) = qtT t := by
    have := ext_all (qtT t) ((qM t).length + 2) hs.symm
    rwa [← Nat.add_assoc] at this
  have h34 : ((bl (qtT t)).getD 0 0).toNat = 34 := by rw [hl]; rfl
  rw [if_pos h34, hq];dsimp only;rw [hx, uq_qt];dsimp only;rw [hs];simp
theorem qt_kd (t : ByteArray) : (kdT (qtT t)).k = 4 ∧ (kdT (qtT t)).sy = t := by
  by_cases hz : (qtT t).size ≤ 8192
  · have h := kdT_own (qt_tok t hz);change kdT (qtT t) = _ at h;rw [h]; exact ⟨rfl, rfl⟩
  · unfold kdT;rw [dif_neg hz, uq_qt]; exact ⟨rfl, rfl⟩
def NumP (t n : Int) : Prop := (t = 2 ∧ 0 ≤ n ∧ n ≤ 9223372036854775807) ∨ (t = 3 ∧ -9223372036854775808 ≤ n ∧ n ≤ 9223372036854775807 ∧ isNum 3 n = true)
def ntT (t n : Int) : ByteArray := if t = 2 then txtI n else txtF (B n)
theorem numL_all : ∀ l : List UInt8, (∀ c ∈ l, isNm c = true) → numL l = l.length
  | [], _ => rfl
  | [c], h => by unfold numL; rw [if_pos (h c (by simp))]; rfl
  | c :: d :: r, h => by
    unfold numL;rw [if_pos (h c (by simp)), numL_all (d :: r) (fun x hx => h x (by simp [hx]))];simp; omega
theorem isNum_fl (x : Nat) : isNum 3 (flt x) = true := by
  unfold isNum flt;cases h : Fm.nanB x
  · rw [if_neg (by simp)]
    have hb : (B (bi x) : Int) = (x : Int) % 18446744073709551616 := by
      rw [B_eq]; unfold bi wrap64; omega
    have hn : Fm.nanB (B (bi x)) = false := by
      have hb' : B (bi x) = x % 18446744073709551616 := by omega
      rw [hb'];unfold Fm.nanB at h ⊢;rw [Nat.mod_mod_of_dvd x (by decide)];exact h
    rw [hn]; rfl
  · rw [if_pos rfl]; simp
theorem isNum_fltO (o : Option Nat) : isNum 3 (fltO o) = true ∧ -9223372036854775808 ≤ fltO o ∧ fltO o ≤ 9223372036854775807 := by
  cases o with
  | none => exact ⟨by unfold fltO isNum; simp, by show (-9223372036854775808 : Int) ≤ 9221120237041090561; decide, by show (9221120237041090561 : Int) ≤ 9223372036854775807; decide⟩
  | some r => exact ⟨isNum_fl r, flt_bounds r⟩
theorem num_tk {s : ByteArray} (h0 : 0 < s.size) (hs : s.size ≤ 8192) (hd : isDg s[0] = true) (hn : ∀ c ∈ bl s, isNm c = true) {t v : Int} (h3 : ReadIs s t v 0) (w : World) (he : ErrIs w) : Cutd ⟨3, s, t, v, ⟨#[]⟩, 0, (s.size : Int)⟩ := by
  have hl : isLt s[0] = false := by
    unfold isDg at hd; unfold isLt;simp at hd;simp; omega
  have hm : numL ((bl s).drop 0) = s.size := by rw [List.drop_zero, numL_all _ hn, bl_len]
  have hx := ext_all s _ hm;have hz : s.size ≤ 140737488351232 := by omega
  have hr0 := rd_zero s hz ⟨_, _, h3⟩;have hdd := call_det (by kernel_rfl) ((rd s hz).2 w he) (h3 w he);rw [hr0] at hdd;simp only [AV, Value.tuple.injEq, Array.mk.injEq, List.cons.injEq, Value.agg.injEq, Value.int.injEq, true_and, and_true] at hdd;refine .of_tk hs h0 ?_ (X := ⟨3, s, t, v, ⟨#[]⟩, 0, (s.size : Int)⟩) ?_ rfl rfl
  · have hb := bl_drop s h0;rw [List.drop_zero] at hb;rw [hb];unfold isDg at hd;simp at hd;refine skipB_zero.2 ⟨?_, by omega⟩;unfold isBl;simp; omega
  · rw [tk_numX h0 hs hl hd];unfold nuX;rw [bl_getD s h0, hd, if_pos rfl];dsimp only;have hrd := rd_congr hx hz (by rw [hx]; exact hz);rw [hrd, hr0, if_pos rfl, hdd.1, hdd.2, hx, hm];simp
theorem dg_head {l : List UInt8} (h : ∀ c ∈ l, 48 ≤ c.toNat ∧ c.toNat ≤ 57) (hne : l ≠ []) : isDg (l.getD 0 0) = true ∧ ∀ c ∈ l, isNm c = true := by
  have h1 : ∀ c ∈ l, isDg c = true := fun c hc => by
    have := h c hc;unfold isDg; simp; omega
  refine ⟨?_, fun c hc => isDg_nm (h1 c hc)⟩;cases l with
  | nil => exact absurd rfl hne
  | cons a r => exact h1 a (by simp)
theorem itoa_pos {n : Int} (h : 0 ≤ n) : Lib.itoa n = Lib.decDigits n.natAbs := by
  unfold Lib.itoa;rw [if_neg (by omega), show n.toNat = n.natAbs by omega]
theorem txtI_rd {n : Int} (h1 : 0 ≤ n) (h2 : n ≤ 9223372036854775807) : ReadIs (txtI n) 2 n 0 := fun w _ => by
  have hz := txtI_size n (by omega) h2;exact Read_int (txtI n) n w (by unfold maxLen; omega) (by omega) (txtI_pre n) (txtI_bad n) (txtI_pnt n) (by rw [txtI_list]; exact pI_itoa n (by omega) h2)
theorem txtF_rd {n : Int} (h1 : -9223372036854775808 ≤ n) (h2 : n ≤ 9223372036854775807) (h3 : isNum 3 n = true) : ReadIs (txtF (B n)) 3 n 0 := fun w _ =>
  Read_bits _ 3 n 0 w (by rw [txtF_size]; unfold maxLen; omega) (txtF_pre _) (txtF_bits n h1 h2 h3)
theorem hex_nm {c : UInt8} (h : isHex c = true) : isNm c = true := by
  unfold isHex at h; unfold isNm isLt isDg;simp at h ⊢; omega
theorem nt_tok {t n : Int} (h : NumP t n) (w : World) (he : ErrIs w) : Cutd ⟨3, ntT t n, t, n, ⟨#[]⟩, 0, ((ntT t n).size : Int)⟩ := by
  rcases h with ⟨rfl, h1, h2⟩ | ⟨rfl, h1, h2, h3⟩
  · have e : ntT 2 n = txtI n := by unfold ntT; rw [if_pos rfl]
    rw [e];have hz := txtI_size n (by omega) h2;have hl : bl (txtI n) = Lib.decDigits n.natAbs := (txtI_list n).trans (itoa_pos h1);have hne := dec_ne n.natAbs;have h0 : 0 < (txtI n).size := by rw [← bl_len, hl]; exact List.length_pos_iff.2 hne
    have hd := dg_head (dec_mem n.natAbs) hne;exact num_tk h0 (by omega) (by rw [← bl_getD _ h0, hl]; exact hd.1) (by rw [hl]; exact hd.2) (txtI_rd h1 h2) w he
  · have e : ntT 3 n = txtF (B n) := by unfold ntT; rw [if_neg (by decide)]
    rw [e];have hz := txtF_size (B n);have hl : bl (txtF (B n)) = 48 :: 102 :: hexLow (B n) 16 := rfl;refine num_tk (by omega) (by omega) (by rw [← bl_getD _ (by omega), hl]; rfl) ?_ (txtF_rd h1 h2 h3) w he;rw [hl];intro c hc;rcases List.mem_cons.1 hc with rfl | hc
    · decide
    · rcases List.mem_cons.1 hc with rfl | hc
      · decide
      · exact hex_nm (hexLow_hex _ _ c hc)
theorem kd_ok (w : World) (he : ErrIs w) : KdOK kdT ntT qtT NumP where
  fix := fun t h => (tok_fix h).2
  num := fun t n h => by
    have := kdT_own (nt_tok h w he);change kdT (ntT t n) = _ at this;rw [this]; exact ⟨rfl, rfl, rfl⟩
  quote := fun t _ => qt_kd t
theorem fk_range (m x : Int) (h : x ≠ 0) {t : Int} : x = 0 → NumP t m := fun e => absurd e h
theorem read_kind (s : ByteArray) (hz : s.size ≤ 140737488351232) (hdash : Lib.hasPrefix s.data.toList dash.data.toList = false) : ∃ t m x, ReadIs s t m x ∧ (x = 0 → NumP t m) := by
  have hs : s.size ≤ maxLen := Nat.le_trans hz (by decide);cases h : Lib.hasPrefix s.data.toList zf.data.toList
  · cases hb : bad s
    · rcases pt_cases (unsg s) with ⟨hp, q1, q2⟩ | ⟨i, hp, hi, q1, q2, q3, q4⟩
      · have ha : allB (unsg s) dec = true := by
          unfold bad ahd pnt at hb;rw [q1, q2] at hb;simpa using hb
        have hm := allB_mem ha;have hne := allB_ne ha
        have P : (∃ v : Int, Lib.parseIntB 64 s.data.toList = .ok v ∧ 0 ≤ v ∧ v ≤ 9223372036854775807) ∨ Lib.parseIntB 64 s.data.toList = .range := by
          rcases dash_cases s with ⟨d1, d2, _⟩ | ⟨d1, d2⟩
          · rw [d1] at hdash; cases hdash
          · rw [d2] at hm hne;rw [pI_pos _ hm hne];split
            · exact .inl ⟨_, rfl, by omega, by omega⟩
            · exact .inr rfl
        rcases P with ⟨v, p1, p2, p3⟩ | p1
        · exact ⟨_, _, _, fun w _ => Read_int s v w hs (by omega) h hb q1 p1, fun _ => .inl ⟨rfl, p2, p3⟩⟩
        · exact ⟨_, _, _, fun w he => Read_intR s w hs (by omega) h hb q1 p1 he, fk_range 0 7 (by decide)⟩
      · have a1 : allB ((unsg s).extract 0 i) dec = true := by
          unfold bad ahd at hb; rw [q2] at hb; simp at hb; exact hb.1
        have a2 : allB ((unsg s).extract (i + 1) (unsg s).size) dec = true := by
          unfold bad ahd bhd pnt at hb; rw [q1, q2, q3] at hb; simp at hb; exact hb.2
        have z1 : (ahd s).size = i := by unfold ahd; rw [q2, ByteArray.size_extract]; omega
        have z2 : (bhd s).size = (unsg s).size - (i + 1) := by unfold bhd; rw [q3, ByteArray.size_extract]; omega
        by_cases hl : 15 < (ahd s).size + (bhd s).size
        · exact ⟨_, _, _, fun w _ => Read_ptR s w hs hz h hb q1 hl, fk_range 0 7 (by decide)⟩
        · have hd : (ahd s ++ bhd s).data.toList = ptL (unsg s) i := by
            rw [ByteArray.data_append, Array.toList_append];unfold ahd bhd;rw [q2, q3, ex_lo, ex_hi]; rfl
          have hv : Lib.parseIntB 64 (ahd s ++ bhd s).data.toList = .ok (decV (ptL (unsg s) i) : Int) := by
            rw [hd]
            have hm : ∀ c ∈ ptL (unsg s) i, 48 ≤ c.toNat ∧ c.toNat ≤ 57 := fun c hc => by
              unfold ptL at hc;rw [List.mem_append, ← ex_lo, ← ex_hi] at hc;rcases hc with hc | hc
              · exact allB_mem a1 c hc
              · exact allB_mem a2 c hc
            have hn : ptL (unsg s) i ≠ [] := by
              unfold ptL;have := allB_ne a1;rw [ex_lo] at this;simp [this]
            have hlt := decV_lt (ptL (unsg s) i) (fun c hc => (hm c hc).2) 15 (by have := ptL_len (unsg s) i hi; omega)
            rw [pI_pos _ hm hn, if_pos (by have : 10 ^ 15 = 1000000000000000 := by decide
                                           omega)]
          have hf := isNum_fltO (floatBits .quo .f64 (Fm.ofInt (decV (ptL (unsg s) i) : Int)) (pw (bhd s).size));exact ⟨_, _, _, fun w _ => Read_pt s _ w hs h hb q1 (by omega) hv hdash, fun _ => .inr ⟨rfl, hf.2.1, hf.2.2, hf.1⟩⟩
    · exact ⟨_, _, _, fun w _ => Read_bad s w hs h hb, fk_range 0 6 (by decide)⟩
  · by_cases hc : (offm s).size = 16 ∧ allB (offm s) hexd = true ∧ isNum 3 (wrap64 (hexV (offm s).data.toList)) = true
    · refine ⟨3, wrap64 (hexV (offm s).data.toList), 0, fun w _ => Read_bits s _ _ _ w hs h (by unfold bitsT; rw [if_pos hc]), fun _ => .inr ⟨rfl, ?_, ?_, hc.2.2⟩⟩
      · unfold wrap64; omega
      · unfold wrap64; omega
    · exact ⟨0, 0, 6, fun w _ => Read_bits s _ _ _ w hs h (by unfold bitsT; rw [if_neg hc]), fk_range 0 6 (by decide)⟩
theorem unq_len : ∀ (n : Nat) (l r : List Nat), l.length ≤ n → Tx.unqL l = some r → r.length ≤ l.length
  | 0, l, r, h, e => by
    have : l = [] := List.length_eq_zero_iff.1 (by omega);subst this;rw [Tx.unq_nil] at e;simp at e; subst e; simp
  | n + 1, l, r, h, e => by
    by_cases h0 : l = []
    · subst h0; rw [Tx.unq_nil] at e; simp at e; subst e; simp
    · by_cases h2 : (Tx.fbL l).2 = 0
      · rw [Tx.unq_none h0 h2] at e; cases e
      · rw [Tx.unq_some h0 h2] at e;have hl : 0 < l.length := List.length_pos_iff.2 h0;cases hu : Tx.unqL (l.drop (Tx.fbL l).2) with
        | none => rw [hu] at e; cases e
        | some q =>
          rw [hu] at e;have := unq_len n _ q (by rw [List.length_drop]; omega) hu;rw [List.length_drop] at this;have e' : (Tx.fbL l).1 :: q = r := by simpa using e
          rw [← e', List.length_cons]; omega
theorem str_sz (l : List Nat) : (Tx.str l).size = l.length := by
  rw [Lib.size_eq];unfold Tx.str strOfNums;simp
theorem uq_sz {t u : ByteArray} (h : uq t = some u) : u.size ≤ t.size := by
  unfold uq at h;split at h
  · cases hu : Tx.unqL (Tx.bl (t.extract 1 (t.size - 1))) with
    | none => rw [hu] at h; cases h
    | some q =>
      rw [hu] at h;have e : Tx.str q = u := by simpa using h
      have := unq_len _ _ q (Nat.le_refl _) hu;rw [Tx.bl_len, ByteArray.size_extract] at this;rw [← e, str_sz]; omega
  · cases h
theorem cutd_kind {X : Tk} (h : Cutd X) (w : World) (he : ErrIs w) : X.sy.size ≤ 8192 ∧ (X.k = 3 → NumP X.vt X.vn) := by
  obtain ⟨s, hs, k, n, c1, c2, c3, c4, c5, c6, c7⟩ := h;cases h1 : isLt s[k]
  · cases h2 : isDg s[k]
    · by_cases h3 : s[k].toNat = 34
      · rw [tk_quote c1 hs h1 h2 h3] at c3;unfold quX at c3;rw [bl_getD s c1, if_pos h3] at c3;split at c3
        · exact absurd (congrArg Prod.snd c3) (by show ¬ (16 : Int) = 0; decide)
        · split at c3
          · rename_i u hu;have e := congrArg Prod.fst c3;dsimp only at e;rw [← e];have := uq_sz hu;rw [ByteArray.size_extract] at this;exact ⟨by show u.size ≤ 8192; omega, fun h => absurd h (by show ¬ (4 : Int) = 3; decide)⟩
          · exact absurd (congrArg Prod.snd c3) (by show ¬ (16 : Int) = 0; decide)
      · rw [tk_sign c1 hs h1 h2 h3] at c3;split at c3
        · have e := congrArg Prod.fst c3;dsimp only at e;rw [← e];exact ⟨by show (⟨#[]⟩ : ByteArray).size ≤ 8192; decide, fun h => absurd h (by show ¬ (5 : Int) = 3; decide)⟩
        · exact absurd (congrArg Prod.snd c3) (by show ¬ (15 : Int) = 0; decide)
    · rw [tk_numX c1 hs h1 h2] at c3;unfold nuX at c3;rw [bl_getD s c1, h2, if_pos rfl] at c3;dsimp only at c3;have hzz := ext_bd s hs k (k + numL ((bl s).drop k))
      have hpre : Lib.hasPrefix (s.extract k (k + numL ((bl s).drop k))).data.toList dash.data.toList = false := by
        show Lib.hasPrefix (bl (s.extract k (k + numL ((bl s).drop k)))) [45] = false;rw [bl_cut, bl_drop s c1];have hp := numL_pos (isDg_nm h2) ((bl s).drop (k + 1));obtain ⟨m, hm⟩ : ∃ m, numL (s[k] :: (bl s).drop (k + 1)) = m + 1 := ⟨_, (Nat.sub_add_cancel hp).symm⟩;rw [hm, List.take_succ_cons];unfold isDg at h2;simp at h2;have this : ¬ (45 = s[k]) := fun e => by rw [← e] at h2; exact absurd h2.1 (by decide)
        simp [Lib.hasPrefix, List.isPrefixOf, this]
      obtain ⟨t, m, x, r1, r2⟩ := read_kind _ hzz hpre;have hdd := call_det (by kernel_rfl) ((rd _ hzz).2 w he) (r1 w he);simp only [AV, Value.tuple.injEq, Array.mk.injEq, List.cons.injEq, Value.agg.injEq, Value.int.injEq, true_and, and_true] at hdd;obtain ⟨⟨e1, e2⟩, e3⟩ := hdd;split at c3
      · rename_i hx;have e := congrArg Prod.fst c3;dsimp only at e;rw [← e];refine ⟨by show (⟨#[]⟩ : ByteArray).size ≤ 8192; decide, fun _ => ?_⟩;show NumP (rd _ hzz).1.1 (rd _ hzz).1.2.1;rw [e1, e2];exact r2 (by rw [← e3]; exact hx)
      · have e := congrArg Prod.fst c3;dsimp only at e;rw [← e];exact ⟨by show (⟨#[]⟩ : ByteArray).size ≤ 8192; decide, fun h => absurd h (by show ¬ (0 : Int) = 3; decide)⟩
  · rw [tk_name c1 hs h1] at c3;have e := congrArg Prod.fst c3;dsimp only at e;rw [← e];unfold nmT;rw [bl_getD s c1, h1, if_pos rfl];refine ⟨by show (⟨#[]⟩ : ByteArray).size ≤ 8192; decide, fun h => ?_⟩;change nmK s k = 3 at h;unfold nmK at h;split at h <;> exact absurd h (by decide)
end Go.Proofs.YtmoiikpjegbokaaGreatDoor
