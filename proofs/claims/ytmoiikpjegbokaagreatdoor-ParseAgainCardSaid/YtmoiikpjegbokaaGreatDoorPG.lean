import Derived.Test.YtmoiikpjegbokaaGreatDoorGS
import Derived.Test.YtmoiikpjegbokaaGreatDoorDT
import Derived.Test.YtmoiikpjegbokaaGreatDoorNX
import Derived.Test.YtmoiikpjegbokaaGreatDoorV3
import Derived.Test.YtmoiikpjegbokaaGreatDoorGV
set_option linter.unusedSimpArgs false
set_option linter.unusedVariables false
/- Numbers and quotes are read again as they were; what a text says as a token. -/
namespace Go.Proofs.YtmoiikpjegbokaaGreatDoor.Tx
theorem hex_dg : ∀ n, n < 16 → hexI (Tq.dg n) = (n : Int) := by decide
theorem fb_qb (a : Nat) (ha : a < 256) (r : List Nat) : fbL (Tq.qb a ++ r) = (a, (Tq.qb a).length) := by
  cases hp : pl a
  · have p92 : pl 92 = false := rfl;rw [Tq.qb_hex hp];unfold fbL;simp only [List.cons_append, List.nil_append, List.getD_cons_zero, List.getD_cons_succ, List.length_cons, List.length_nil];rw [p92, if_neg (by decide), if_neg (by omega), hex_dg _ (by omega), hex_dg _ (by omega), if_neg (by omega)];have e : ((a / 16 : Nat) : Int).toNat * 16 + ((a % 16 : Nat) : Int).toNat = a := by omega
    rw [e, hp]; rfl
  · rw [Tq.qb_plain hp];unfold fbL;simp only [List.cons_append, List.nil_append, List.getD_cons_zero];rw [hp]; rfl
theorem qb_ne (a : Nat) : Tq.qb a ≠ [] := by intro h; have := Tq.qb_len a; rw [h] at this; simp at this
theorem unq_qin : ∀ l : List Nat, (∀ a ∈ l, a < 256) → unqL (Tq.qin l) = some l
  | [], _ => unq_nil
  | a :: l, hl => by
    have e : Tq.qin (a :: l) = Tq.qb a ++ Tq.qin l := by simp [Tq.qin]
    have hf := fb_qb a (hl a (by simp)) (Tq.qin l);have hq := Tq.qb_len a;rw [e, unq_some (by intro h; exact qb_ne a (List.append_eq_nil_iff.1 h).1) (by rw [hf]; show (Tq.qb a).length ≠ 0; omega), hf];show Option.map _ (unqL (List.drop (Tq.qb a).length (Tq.qb a ++ Tq.qin l))) = _;rw [List.drop_left, unq_qin l (fun b hb => hl b (by simp [hb]))]; rfl
end Go.Proofs.YtmoiikpjegbokaaGreatDoor.Tx
namespace Go.Proofs.YtmoiikpjegbokaaGreatDoor
open Go.RowKit
def qtT (t : ByteArray) : ByteArray := Tq.str (Tq.quoteL (Tq.bl t))
theorem dg_plain : ∀ n, n < 16 → 48 ≤ Tq.dg n ∧ Tq.dg n ≤ 122 ∧ Tq.dg n ≠ 34 := by decide
theorem qb_no34 (a : Nat) (ha : a < 256) : ∀ b ∈ Tq.qb a, b < 256 ∧ b ≠ 34 := by
  intro b hb;cases hp : Tq.pl a
  · rw [Tq.qb_hex hp] at hb;have h1 := dg_plain (a / 16) (by omega);have h2 := dg_plain (a % 16) (by omega);simp only [List.mem_cons, List.not_mem_nil, or_false] at hb;rcases hb with rfl | rfl | rfl | rfl <;> omega
  · rw [Tq.qb_plain hp] at hb;simp only [List.mem_cons, List.not_mem_nil, or_false] at hb;subst hb;unfold Tq.pl at hp;simp at hp;omega
theorem qin_no34 (l : List Nat) (hl : ∀ a ∈ l, a < 256) : ∀ b ∈ Tq.qin l, b < 256 ∧ b ≠ 34 := by
  intro b hb;unfold Tq.qin at hb;obtain ⟨a, ha, hb⟩ := List.mem_flatMap.1 hb;exact qb_no34 a (hl a ha) b hb
theorem str_list (l : List Nat) (hl : ∀ a ∈ l, a < 256) : (Tq.str l).data.toList = l.map UInt8.ofNat := by
  unfold Tq.str strOfNums;simp only [List.map_map]
  exact List.map_congr_left (fun a ha => by
    have := hl a ha;simp)
noncomputable def kdT (t : ByteArray) : Tk :=
  if h : t.size ≤ 8192 then np (tkAt t 0 h).1
  else match uq t with
    | some u => ⟨4, t, 0, 0, u, 0, 0⟩
    | none => t0
theorem Cutd.size {X : Tk} (h : Cutd X) : 0 < X.t.size ∧ X.t.size ≤ 8192 := by
  obtain ⟨s, hs, k, n, c1, c2, c3, c4, c5, c6, c7⟩ := h;have hn : (bl X.t).length = n := by rw [c7, List.length_take, List.length_drop, bl_len]; omega
  rw [bl_len] at hn;omega
theorem Cutd.own {X : Tk} (h : Cutd X) (hz : X.t.size ≤ 8192) : ∃ e : Int, tkAt X.t 0 hz = (⟨X.k, X.t, X.vt, X.vn, X.sy, 0, e⟩, 0) := by
  have h0 := h.size;obtain ⟨s, hs, k, n, c1, c2, c3, c4, c5, c6, c7⟩ := h;exact ⟨_, tk_glue (t := []) (k' := 0) (.inl rfl) c1 (by omega) hs hz (by rw [List.drop_zero, c7, List.append_nil]) c3 c4⟩
theorem kdT_own {X : Tk} (h : Cutd X) : kdT X.t = np X := by
  have h0 := h.size;obtain ⟨e, h1⟩ := h.own h0.2;unfold kdT;rw [dif_pos h0.2, h1];rfl
theorem con_of {V : Env} (h : ∀ X ∈ V.L, Cutd X) : Con kdT V := fun p hp => by
  have e : V.tk p = V.L[p] := by unfold Env.tk; rw [List.getD_eq_getElem?_getD, List.getElem?_eq_getElem hp]; rfl
  rw [e];exact (kdT_own (h _ (List.getElem_mem hp))).symm
def Tok (t : ByteArray) : Prop := ∃ X, Cutd X ∧ X.t = t
theorem Cutd.of_tk {t : ByteArray} (hz : t.size ≤ 8192) (h0 : 0 < t.size) (hb : skipB false (bl t) = 0) {X : Tk} (h : tkAt t 0 hz = (X, 0)) (he : X.e = (t.size : Int)) (ht : X.t = t) : Cutd X :=
  ⟨t, hz, 0, t.size, h0, by rw [List.drop_zero]; exact hb, h, by rw [he]; simp, h0, by omega, by rw [ht, List.drop_zero, List.take_of_length_le (by rw [bl_len]; omega)]⟩
theorem fix_facts : ∀ l ∈ fixL, l.length ≤ 8 ∧ 0 < l.length ∧ skipB false l = 0 ∧ ((isLt (l.getD 0 0) = true ∧ nameL l = l.length ∧ wordsL.contains l = true) ∨ (isLt (l.getD 0 0) = false ∧ isDg (l.getD 0 0) = false ∧ ¬ (l.getD 0 0).toNat = 34 ∧ sgF l sgs = some l)) := by decide +kernel
theorem ext_all (t : ByteArray) (n : Nat) (h : n = t.size) : t.extract 0 (0 + n) = t := by
  subst h; apply bl_inj; rw [bl_ext, Nat.zero_add, List.drop_zero, List.take_of_length_le (by rw [bl_len]; omega)]
theorem tok_fix {t : ByteArray} (h : t.data.toList ∈ fixL) : Tok t ∧ ((kdT t).k = 2 ∨ (kdT t).k = 5) := by
  obtain ⟨h1, h2, h3, h4⟩ := fix_facts _ h;have hl : (bl t).length = t.size := bl_len t;change (bl t).length ≤ 8 at h1;change 0 < (bl t).length at h2;have hz : t.size ≤ 8192 := by omega
  have h0 : 0 < t.size := by omega
  have hg : t.data.toList.getD 0 0 = t[0] := bl_getD t h0;rw [hg] at h4
  have key : ∃ X : Tk, tkAt t 0 hz = (X, 0) ∧ X.e = (t.size : Int) ∧ X.t = t ∧ (X.k = 2 ∨ X.k = 5) := by
    rcases h4 with ⟨a, b, c⟩ | ⟨a, b, c, d⟩
    · refine ⟨_, tk_name h0 hz a, ?_⟩;have hn : nameL ((bl t).drop 0) = t.size := by rw [List.drop_zero]; exact b.trans hl
      have hx := ext_all t _ hn;unfold nmT;rw [bl_getD t h0, a, if_pos rfl];refine ⟨by show ((0 + nameL ((bl t).drop 0) : Nat) : Int) = _; rw [hn]; simp, hx, .inl ?_⟩;show nmK t 0 = 2;unfold nmK isWd;rw [hx, c, if_pos rfl]
    · have hs := tk_sign h0 hz a b c;rw [List.drop_zero, show sgF (bl t) sgs = some (bl t) from d] at hs;exact ⟨_, hs, by show ((0 + (bl t).length : Nat) : Int) = _; rw [hl]; simp, ext_all t _ hl, .inr rfl⟩
  obtain ⟨X, k1, k2, k3, k4⟩ := key;have hc : Cutd X := .of_tk hz h0 h3 k1 k2 k3;refine ⟨⟨X, hc, k3⟩, ?_⟩;rw [← k3, kdT_own hc];exact k4
end Go.Proofs.YtmoiikpjegbokaaGreatDoor
