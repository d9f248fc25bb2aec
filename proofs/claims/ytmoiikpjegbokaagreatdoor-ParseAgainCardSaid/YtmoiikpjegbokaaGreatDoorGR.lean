/- Joined: V1 EX AL0 AL LE. -/
import Derived.Test.YtmoiikpjegbokaaGreatDoorGO
import Derived.Lib.AppendIntMem
import Derived.Shelf.Unicode.PredsPay
import Derived.Shelf.Strconv.Itoa3
import Derived.Test.YtmoiikpjegbokaaGreatDoorRows
import Derived.Test.YtmoiikpjegbokaaGreatDoorGA
import Derived.Test.YtmoiikpjegbokaaGreatDoorGD
import Derived.Test.YtmoiikpjegbokaaGreatDoorGE
import Derived.Test.YtmoiikpjegbokaaGreatDoorGQ
import Derived.Test.YtmoiikpjegbokaaGreatDoorGL
import Derived.Test.YtmoiikpjegbokaaGreatDoorGM
import Derived.Test.YtmoiikpjegbokaaGreatDoorDT
set_option linter.unusedSimpArgs false
set_option linter.unusedVariables false
set_option maxRecDepth 20000
set_option maxHeartbeats 4000000
/- Out of ../num, for this seat. -/
namespace Go.Proofs.YtmoiikpjegbokaaGreatDoor
open Calls renaming mono → cmo
open NodeIs renaming kept → nkp
open Go.Proofs.Tryz renaming prog → tpg
open Go.RowKit
def Tryz.laysM246_ren : Go.Shelf.Ren := ⟨fun | 246 => 164 | 283 => 188 | 284 => 189 | 285 => 190 | 286 => 191 | 129 => 204 | 317 => 203 | 318 => 205 | 319 => 206 | 320 => 207 | 337 => 219 | 338 => 220 | n => n, fun | 2 => 2 | 3 => 3 | 9 => 9 | 4 => 4 | 171 => 175 | 0 => 0 | 53 => 113 | 37 => 73 | 5 => 5 | 173 => 178 | 212 => 188 | 51 => 180 | 20 => 20 | 213 => 189 | 46 => 157 | 232 => 201 | 233 => 202 | n => n, fun | 17 => 3 | 18 => 6 | 19 => 7 | n => n⟩
theorem Tryz.laysM246 : Go.Proofs.LaysM.n246 tpg Tryz.laysM246_ren := {
  mixed := by kernel_rfl
  f129 := Tryz.func204.trans (congrArg some (by kernel_rfl))
  f246 := Tryz.func164.trans (congrArg some (by kernel_rfl))
  f283 := Tryz.func188.trans (congrArg some (by kernel_rfl))
  f284 := Tryz.func189.trans (congrArg some (by kernel_rfl))
  f285 := Tryz.func190.trans (congrArg some (by kernel_rfl))
  f286 := Tryz.func191.trans (congrArg some (by kernel_rfl))
  f317 := Tryz.func203.trans (congrArg some (by kernel_rfl))
  f318 := Tryz.func205.trans (congrArg some (by kernel_rfl))
  f319 := Tryz.func206.trans (congrArg some (by kernel_rfl))
  f320 := Tryz.func207.trans (congrArg some (by kernel_rfl))
  f337 := Tryz.func219.trans (congrArg some (by kernel_rfl))
  f338 := Tryz.func220.trans (congrArg some (by kernel_rfl))
  t0 := Tryz.underlying0
  a0 := Tryz.isAgg0
  z0 := Tryz.sizeOf0
  v0 := Tryz.zeroValue0
  t2 := Tryz.underlying2
  a2 := Tryz.isAgg2
  z2 := Tryz.sizeOf2
  v2 := Tryz.zeroValue2
  t3 := Tryz.underlying3
  a3 := Tryz.isAgg3
  z3 := Tryz.sizeOf3
  v3 := Tryz.zeroValue3
  t4 := Tryz.underlying4
  a4 := Tryz.isAgg4
  z4 := Tryz.sizeOf4
  v4 := Tryz.zeroValue4
  t5 := Tryz.underlying5
  a5 := Tryz.isAgg5
  z5 := Tryz.sizeOf5
  v5 := Tryz.zeroValue5
  t9 := Tryz.underlying9
  a9 := Tryz.isAgg9
  z9 := Tryz.sizeOf9
  v9 := Tryz.zeroValue9
  t20 := Tryz.underlying20
  a20 := Tryz.isAgg20
  z20 := Tryz.sizeOf20
  v20 := Tryz.zeroValue20
  t37 := Tryz.underlying73
  a37 := Tryz.isAgg73
  z37 := Tryz.sizeOf73
  v37 := Tryz.zeroValue73
  t46 := Tryz.underlying157
  a46 := Tryz.isAgg157
  z46 := Tryz.sizeOf157
  v46 := Tryz.zeroValue157
  t51 := Tryz.underlying180
  a51 := Tryz.isAgg180
  z51 := Tryz.sizeOf180
  v51 := Tryz.zeroValue180
  t53 := Tryz.underlying113
  a53 := Tryz.isAgg113
  z53 := Tryz.sizeOf113
  v53 := Tryz.zeroValue113
  t171 := Tryz.underlying175
  a171 := Tryz.isAgg175
  z171 := Tryz.sizeOf175
  v171 := Tryz.zeroValue175
  t173 := Tryz.underlying178
  a173 := Tryz.isAgg178
  z173 := Tryz.sizeOf178
  v173 := Tryz.zeroValue178
  t212 := Tryz.underlying188
  a212 := Tryz.isAgg188
  z212 := Tryz.sizeOf188
  v212 := Tryz.zeroValue188
  t213 := Tryz.underlying189
  a213 := Tryz.isAgg189
  z213 := Tryz.sizeOf189
  t232 := Tryz.underlying201
  a232 := Tryz.isAgg201
  z232 := Tryz.sizeOf201
  v232 := Tryz.zeroValue201
  t233 := Tryz.underlying202
  a233 := Tryz.isAgg202
  z233 := Tryz.sizeOf202
  v233 := Tryz.zeroValue202
  g17 := by kernel_rfl
  g18 := by kernel_rfl
  g19 := by kernel_rfl
  i0 := by kernel_rfl
  i2 := by kernel_rfl
  i3 := by kernel_rfl
  i4 := by kernel_rfl
  i5 := by kernel_rfl
  i9 := by kernel_rfl
  i20 := by kernel_rfl
  i37 := by kernel_rfl
  i46 := by kernel_rfl
  i51 := by kernel_rfl
  i53 := by kernel_rfl
  i171 := by kernel_rfl
  i173 := by kernel_rfl
  i212 := by kernel_rfl
  i232 := by kernel_rfl
  i233 := by kernel_rfl
  m17 := by kernel_rfl
  m18 := by kernel_rfl
  m19 := by kernel_rfl }
open Go.RowKit Go.Sort Go.Lib in
theorem Tryz.internal_strconv_FormatInt_10 (n : Int) (h0 : -9223372036854775808 ≤ n) (h1 : n ≤ 9223372036854775807) (w : World) (htab : Lib.TabIs tpg w (Go.Proofs.YtmoiikpjegbokaaGreatDoor.Rows.parseEndsRow.laid[2]'(by decide)).1 .u64 Lib.pow10Tab) :
    Calls tpg 164 #[.int .i64 n, .int .i64 10] w fun e w' => e = .returned (.string ⟨(Lib.itoa n).toArray⟩) ∧ ∃ k os, w' = grow (w.drewN k) os := Any.internal_strconv_FormatInt_10 Tryz.laysM246 n h0 h1 w htab
abbrev Tab10 (w : World) : Prop := Lib.TabIs tpg w (Rows.parseEndsRow.laid[2]'(by decide)).1 .u64 Lib.pow10Tab
theorem g10 : tpg.globalNamed (Rows.parseEndsRow.laid[2]'(by decide)).1 = some 3 := by kernel_rfl
theorem tab10_below {w w' : World} (h : Tab10 w) (hb : Below w.heap.size w w') : Tab10 w' := TabIs_below g10 h hb
theorem FormatInt (n : Int) (h1 : -9223372036854775808 ≤ n) (h2 : n ≤ 9223372036854775807) (w : World) (ht : Tab10 w) :
    Calls tpg 130 #[.int .i64 n, .int .i64 10] w fun e w' => e = .returned (.string ⟨(Lib.itoa n).toArray⟩) ∧ Below w.heap.size w w' := by
  have F : Hid (Calls tpg 164 #[.int .i64 n, .int .i64 10] w fun e w' => e = .returned (.string ⟨(Lib.itoa n).toArray⟩) ∧ Below w.heap.size w w') := by
    refine (Tryz.internal_strconv_FormatInt_10 n h1 h2 w ht).mono ?_;rintro e w' ⟨rfl, k, os, rfl⟩;exact ⟨rfl, Lib.below_grow _ _ (Nat.le_refl _) _ _⟩
  clear ht;go_enter Tryz.func130, Tryz.ntmps130
  go_wp2_with fail
  refine F.out.mono ?_;rintro e w1 ⟨rfl, hb⟩;go_wp2
  go_ret
  exact ⟨rfl, hb⟩
theorem Text_int (n : Int) (w : World) (h1 : -9223372036854775808 ≤ n) (h2 : n ≤ 9223372036854775807) (ht : Tab10 w) :
    Calls tpg 86 #[AV 2 n] w fun e w' => e = .returned (.string ⟨(Lib.itoa n).toArray⟩) ∧ Below w.heap.size w w' := by
  have hi : isNum 2 n = true := by simp [isNum]
  have F : Hid (∀ w1, Below (w.alloc (.cells #[.int .i64 2, .int .i64 n] 23)).heap.size (w.alloc (.cells #[.int .i64 2, .int .i64 n] 23)) w1 → Calls tpg 130 #[.int .i64 n, .int .i64 10] w1 fun e w' => e = .returned (.string ⟨(Lib.itoa n).toArray⟩) ∧ Below w1.heap.size w1 w') := fun w1 hb =>
    FormatInt n h1 h2 w1 (tab10_below (tab10_below ht ((Below.refl _ _).alloc (Nat.le_refl _) _)) hb)
  clear ht;go_enter Tryz.func86, Tryz.ntmps86
  go_wp2_with fail
  refine (Is_any _ _ _ h1 h2).mono ?_;rintro e w1 ⟨rfl, hb⟩;have c0 := cell_later hb (show (w.alloc (.cells #[.int .i64 2, .int .i64 n] 23)).cell? ⟨w.heap.size, 0, none⟩ = some (.int .i64 2) by simp [go_sem]);have c1 := cell_later hb (show (w.alloc (.cells #[.int .i64 2, .int .i64 n] 23)).cell? ⟨w.heap.size, 1, none⟩ = some (.int .i64 n) by simp [go_sem]);have HB : Hid (Below w.heap.size w w1) := end1 hb;have F1 : Hid (Calls tpg 130 #[.int .i64 n, .int .i64 10] w1 fun e w' => e = .returned (.string ⟨(Lib.itoa n).toArray⟩) ∧ Below w1.heap.size w1 w') := F.out w1 hb;clear hb F;go_wp2_with fail
  refine F1.out.mono ?_;rintro e w2 ⟨rfl, hb2⟩;have HB := chainB HB hb2;clear hb2;go_wp2
  go_ret
  exact ⟨rfl, HB.out⟩
end Go.Proofs.YtmoiikpjegbokaaGreatDoor
namespace Go.Proofs.YtmoiikpjegbokaaGreatDoor
open Calls renaming mono → cmo
open NodeIs renaming kept → nkp
open Go.Proofs.Tryz renaming prog → tpg
open Go.RowKit
theorem tk_numR {s : ByteArray} {k : Nat} (hk : k < s.size) (hs : s.size ≤ 8192) (h1 : isLt s[k] = false) (h2 : isDg s[k] = true) (v : Int) (h3 : ReadIs (s.extract k (k + numL ((bl s).drop k))) 2 v 0) (w : World) (he : ErrIs w) :
    tkAt s k hs = (⟨3, s.extract k (k + numL ((bl s).drop k)), 2, v, ⟨#[]⟩, k, (k + numL ((bl s).drop k) : Nat)⟩, 0) := by
  have hz : (s.extract k (k + numL ((bl s).drop k))).size ≤ 140737488351232 := by rw [ByteArray.size_extract]; omega
  have h0 := rd_zero _ hz ⟨_, _, h3⟩;have hr := (rd _ hz).2;have hd := call_det (by kernel_rfl) (hr w he) (h3 w he);rw [h0] at hd;simp only [AV, Value.tuple.injEq, Array.mk.injEq, List.cons.injEq, Value.agg.injEq, Value.int.injEq, true_and, and_true] at hd
  have hn : nuX s k hs = (⟨3, s.extract k (k + numL ((bl s).drop k)), (rd _ hz).1.1, (rd _ hz).1.2.1, ⟨#[]⟩, k, (k + numL ((bl s).drop k) : Nat)⟩, 0) := by
    unfold nuX;rw [bl_getD s hk, h2, if_pos rfl];dsimp only;rw [if_pos h0, h0]
  rw [hd.1, hd.2] at hn;rcases tk_num hk hs h1 h2 with h | ⟨_, h⟩
  · rw [h, hn]
  · rw [hn] at h; exact absurd (show (3 : Int) = 0 from h) (by decide)
def e1 : ByteArray := ⟨#[97, 32, 61, 32, 49, 32, 43, 32, 50, 32, 42, 32, 51]⟩
theorem e1_le : e1.size ≤ 8192 := by decide
def e1_L : List Tk := [⟨1, ⟨#[97]⟩, 0, 0, ⟨#[]⟩, 0, 1⟩, ⟨5, ⟨#[61]⟩, 0, 0, ⟨#[]⟩, 2, 3⟩, ⟨3, ⟨#[49]⟩, 2, 1, ⟨#[]⟩, 4, 5⟩, ⟨5, ⟨#[43]⟩, 0, 0, ⟨#[]⟩, 6, 7⟩, ⟨3, ⟨#[50]⟩, 2, 2, ⟨#[]⟩, 8, 9⟩, ⟨5, ⟨#[42]⟩, 0, 0, ⟨#[]⟩, 10, 11⟩, ⟨3, ⟨#[51]⟩, 2, 3, ⟨#[]⟩, 12, 13⟩]
theorem e1_lx (w : World) (he : ErrIs w) : Lx e1 e1_le (skipB false (bl e1)) none e1_L := by
  have h0 := tk_name (s := e1) (k := 0) (by decide) e1_le (by decide);have h1 := tk_sign (s := e1) (k := 2) (by decide) e1_le (by decide) (by decide) (by decide);have h2 := tk_numR (s := e1) (k := 4) (by decide) e1_le (by decide) (by decide) 1 (fun w _ => Read_int _ 1 w (by unfold maxLen; decide) (by decide) (by decide) (by decide) (by decide) (by decide)) w he;have h3 := tk_sign (s := e1) (k := 6) (by decide) e1_le (by decide) (by decide) (by decide);have h4 := tk_numR (s := e1) (k := 8) (by decide) e1_le (by decide) (by decide) 2 (fun w _ => Read_int _ 2 w (by unfold maxLen; decide) (by decide) (by decide) (by decide) (by decide) (by decide)) w he;have h5 := tk_sign (s := e1) (k := 10) (by decide) e1_le (by decide) (by decide) (by decide);have h6 := tk_numR (s := e1) (k := 12) (by decide) e1_le (by decide) (by decide) 3 (fun w _ => Read_int _ 3 w (by unfold maxLen; decide) (by decide) (by decide) (by decide) (by decide) (by decide)) w he;have e0 : skipB false (bl e1) = 0 := by decide
  rw [e0];refine lx_more (k := 0) (E := 1) (k' := 2) (by decide) h0 rfl (by decide) (by decide) (by decide) ?_;refine lx_more (k := 2) (E := 3) (k' := 4) (by decide) h1 rfl (by decide) (by decide) (by decide) ?_;refine lx_more (k := 4) (E := 5) (k' := 6) (by decide) h2 rfl (by decide) (by decide) (by decide) ?_;refine lx_more (k := 6) (E := 7) (k' := 8) (by decide) h3 rfl (by decide) (by decide) (by decide) ?_;refine lx_more (k := 8) (E := 9) (k' := 10) (by decide) h4 rfl (by decide) (by decide) (by decide) ?_;refine lx_more (k := 10) (E := 11) (k' := 12) (by decide) h5 rfl (by decide) (by decide) (by decide) ?_;refine lx_more (k := 12) (E := 13) (k' := 13) (by decide) h6 rfl (by decide) (by decide) (by decide) ?_;exact .done 13 (by decide)
def e2 : ByteArray := ⟨#[97, 32, 61, 32, 98, 46, 46, 99, 46, 46, 100]⟩
theorem e2_le : e2.size ≤ 8192 := by decide
def e2_L : List Tk := [⟨1, ⟨#[97]⟩, 0, 0, ⟨#[]⟩, 0, 1⟩, ⟨5, ⟨#[61]⟩, 0, 0, ⟨#[]⟩, 2, 3⟩, ⟨1, ⟨#[98]⟩, 0, 0, ⟨#[]⟩, 4, 5⟩, ⟨5, ⟨#[46, 46]⟩, 0, 0, ⟨#[]⟩, 5, 7⟩, ⟨1, ⟨#[99]⟩, 0, 0, ⟨#[]⟩, 7, 8⟩, ⟨5, ⟨#[46, 46]⟩, 0, 0, ⟨#[]⟩, 8, 10⟩, ⟨1, ⟨#[100]⟩, 0, 0, ⟨#[]⟩, 10, 11⟩]
theorem e2_lx (w : World) (he : ErrIs w) : Lx e2 e2_le (skipB false (bl e2)) none e2_L := by
  have h0 := tk_name (s := e2) (k := 0) (by decide) e2_le (by decide);have h1 := tk_sign (s := e2) (k := 2) (by decide) e2_le (by decide) (by decide) (by decide);have h2 := tk_name (s := e2) (k := 4) (by decide) e2_le (by decide);have h3 := tk_sign (s := e2) (k := 5) (by decide) e2_le (by decide) (by decide) (by decide);have h4 := tk_name (s := e2) (k := 7) (by decide) e2_le (by decide);have h5 := tk_sign (s := e2) (k := 8) (by decide) e2_le (by decide) (by decide) (by decide);have h6 := tk_name (s := e2) (k := 10) (by decide) e2_le (by decide);have e0 : skipB false (bl e2) = 0 := by decide
  rw [e0];refine lx_more (k := 0) (E := 1) (k' := 2) (by decide) h0 rfl (by decide) (by decide) (by decide) ?_;refine lx_more (k := 2) (E := 3) (k' := 4) (by decide) h1 rfl (by decide) (by decide) (by decide) ?_;refine lx_more (k := 4) (E := 5) (k' := 5) (by decide) h2 rfl (by decide) (by decide) (by decide) ?_;refine lx_more (k := 5) (E := 7) (k' := 7) (by decide) h3 rfl (by decide) (by decide) (by decide) ?_;refine lx_more (k := 7) (E := 8) (k' := 8) (by decide) h4 rfl (by decide) (by decide) (by decide) ?_;refine lx_more (k := 8) (E := 10) (k' := 10) (by decide) h5 rfl (by decide) (by decide) (by decide) ?_;refine lx_more (k := 10) (E := 11) (k' := 11) (by decide) h6 rfl (by decide) (by decide) (by decide) ?_;exact .done 11 (by decide)
def e3 : ByteArray := ⟨#[97, 32, 61, 32, 98, 46, 46, 40, 99, 46, 46, 100, 41]⟩
theorem e3_le : e3.size ≤ 8192 := by decide
def e3_L : List Tk := [⟨1, ⟨#[97]⟩, 0, 0, ⟨#[]⟩, 0, 1⟩, ⟨5, ⟨#[61]⟩, 0, 0, ⟨#[]⟩, 2, 3⟩, ⟨1, ⟨#[98]⟩, 0, 0, ⟨#[]⟩, 4, 5⟩, ⟨5, ⟨#[46, 46]⟩, 0, 0, ⟨#[]⟩, 5, 7⟩, ⟨5, ⟨#[40]⟩, 0, 0, ⟨#[]⟩, 7, 8⟩, ⟨1, ⟨#[99]⟩, 0, 0, ⟨#[]⟩, 8, 9⟩, ⟨5, ⟨#[46, 46]⟩, 0, 0, ⟨#[]⟩, 9, 11⟩, ⟨1, ⟨#[100]⟩, 0, 0, ⟨#[]⟩, 11, 12⟩, ⟨5, ⟨#[41]⟩, 0, 0, ⟨#[]⟩, 12, 13⟩]
theorem e3_lx (w : World) (he : ErrIs w) : Lx e3 e3_le (skipB false (bl e3)) none e3_L := by
  have h0 := tk_name (s := e3) (k := 0) (by decide) e3_le (by decide);have h1 := tk_sign (s := e3) (k := 2) (by decide) e3_le (by decide) (by decide) (by decide);have h2 := tk_name (s := e3) (k := 4) (by decide) e3_le (by decide);have h3 := tk_sign (s := e3) (k := 5) (by decide) e3_le (by decide) (by decide) (by decide);have h4 := tk_sign (s := e3) (k := 7) (by decide) e3_le (by decide) (by decide) (by decide);have h5 := tk_name (s := e3) (k := 8) (by decide) e3_le (by decide);have h6 := tk_sign (s := e3) (k := 9) (by decide) e3_le (by decide) (by decide) (by decide);have h7 := tk_name (s := e3) (k := 11) (by decide) e3_le (by decide);have h8 := tk_sign (s := e3) (k := 12) (by decide) e3_le (by decide) (by decide) (by decide);have e0 : skipB false (bl e3) = 0 := by decide
  rw [e0];refine lx_more (k := 0) (E := 1) (k' := 2) (by decide) h0 rfl (by decide) (by decide) (by decide) ?_;refine lx_more (k := 2) (E := 3) (k' := 4) (by decide) h1 rfl (by decide) (by decide) (by decide) ?_;refine lx_more (k := 4) (E := 5) (k' := 5) (by decide) h2 rfl (by decide) (by decide) (by decide) ?_;refine lx_more (k := 5) (E := 7) (k' := 7) (by decide) h3 rfl (by decide) (by decide) (by decide) ?_;refine lx_more (k := 7) (E := 8) (k' := 8) (by decide) h4 rfl (by decide) (by decide) (by decide) ?_;refine lx_more (k := 8) (E := 9) (k' := 9) (by decide) h5 rfl (by decide) (by decide) (by decide) ?_;refine lx_more (k := 9) (E := 11) (k' := 11) (by decide) h6 rfl (by decide) (by decide) (by decide) ?_;refine lx_more (k := 11) (E := 12) (k' := 12) (by decide) h7 rfl (by decide) (by decide) (by decide) ?_;refine lx_more (k := 12) (E := 13) (k' := 13) (by decide) h8 rfl (by decide) (by decide) (by decide) ?_;exact .done 13 (by decide)
def e4 : ByteArray := ⟨#[120]⟩
theorem e4_le : e4.size ≤ 8192 := by decide
def e4_L : List Tk := [⟨1, ⟨#[120]⟩, 0, 0, ⟨#[]⟩, 0, 1⟩]
theorem e4_lx (w : World) (he : ErrIs w) : Lx e4 e4_le (skipB false (bl e4)) none e4_L := by
  have h0 := tk_name (s := e4) (k := 0) (by decide) e4_le (by decide);have e0 : skipB false (bl e4) = 0 := by decide
  rw [e0];refine lx_more (k := 0) (E := 1) (k' := 1) (by decide) h0 rfl (by decide) (by decide) (by decide) ?_;exact .done 1 (by decide)
def e5 : ByteArray := ⟨#[102, 40, 41, 32, 61, 32, 49]⟩
theorem e5_le : e5.size ≤ 8192 := by decide
def e5_L : List Tk := [⟨1, ⟨#[102]⟩, 0, 0, ⟨#[]⟩, 0, 1⟩, ⟨5, ⟨#[40]⟩, 0, 0, ⟨#[]⟩, 1, 2⟩, ⟨5, ⟨#[41]⟩, 0, 0, ⟨#[]⟩, 2, 3⟩, ⟨5, ⟨#[61]⟩, 0, 0, ⟨#[]⟩, 4, 5⟩, ⟨3, ⟨#[49]⟩, 2, 1, ⟨#[]⟩, 6, 7⟩]
theorem e5_lx (w : World) (he : ErrIs w) : Lx e5 e5_le (skipB false (bl e5)) none e5_L := by
  have h0 := tk_name (s := e5) (k := 0) (by decide) e5_le (by decide);have h1 := tk_sign (s := e5) (k := 1) (by decide) e5_le (by decide) (by decide) (by decide);have h2 := tk_sign (s := e5) (k := 2) (by decide) e5_le (by decide) (by decide) (by decide);have h3 := tk_sign (s := e5) (k := 4) (by decide) e5_le (by decide) (by decide) (by decide);have h4 := tk_numR (s := e5) (k := 6) (by decide) e5_le (by decide) (by decide) 1 (fun w _ => Read_int _ 1 w (by unfold maxLen; decide) (by decide) (by decide) (by decide) (by decide) (by decide)) w he;have e0 : skipB false (bl e5) = 0 := by decide
  rw [e0];refine lx_more (k := 0) (E := 1) (k' := 1) (by decide) h0 rfl (by decide) (by decide) (by decide) ?_;refine lx_more (k := 1) (E := 2) (k' := 2) (by decide) h1 rfl (by decide) (by decide) (by decide) ?_;refine lx_more (k := 2) (E := 3) (k' := 4) (by decide) h2 rfl (by decide) (by decide) (by decide) ?_;refine lx_more (k := 4) (E := 5) (k' := 6) (by decide) h3 rfl (by decide) (by decide) (by decide) ?_;refine lx_more (k := 6) (E := 7) (k' := 7) (by decide) h4 rfl (by decide) (by decide) (by decide) ?_;exact .done 7 (by decide)
def e6 : ByteArray := ⟨#[114, 101, 116, 117, 114, 110, 32, 49, 32, 120]⟩
theorem e6_le : e6.size ≤ 8192 := by decide
def e6_L : List Tk := [⟨2, ⟨#[114, 101, 116, 117, 114, 110]⟩, 0, 0, ⟨#[]⟩, 0, 6⟩, ⟨3, ⟨#[49]⟩, 2, 1, ⟨#[]⟩, 7, 8⟩, ⟨1, ⟨#[120]⟩, 0, 0, ⟨#[]⟩, 9, 10⟩]
theorem e6_lx (w : World) (he : ErrIs w) : Lx e6 e6_le (skipB false (bl e6)) none e6_L := by
  have h0 := tk_name (s := e6) (k := 0) (by decide) e6_le (by decide);have h1 := tk_numR (s := e6) (k := 7) (by decide) e6_le (by decide) (by decide) 1 (fun w _ => Read_int _ 1 w (by unfold maxLen; decide) (by decide) (by decide) (by decide) (by decide) (by decide)) w he;have h2 := tk_name (s := e6) (k := 9) (by decide) e6_le (by decide);have e0 : skipB false (bl e6) = 0 := by decide
  rw [e0];refine lx_more (k := 0) (E := 6) (k' := 7) (by decide) h0 rfl (by decide) (by decide) (by decide) ?_;refine lx_more (k := 7) (E := 8) (k' := 9) (by decide) h1 rfl (by decide) (by decide) (by decide) ?_;refine lx_more (k := 9) (E := 10) (k' := 10) (by decide) h2 rfl (by decide) (by decide) (by decide) ?_;exact .done 10 (by decide)
def nmE (c : UInt8) (a : Int) : Tr := .mk 6 ⟨#[c]⟩ 0 0 0 [] a
def nu (v a : Int) : Tr := .mk 4 ⟨#[]⟩ 2 v 0 [] a
def e1_T : Tr := nd 20 [.mk 22 ⟨#[]⟩ 0 0 1 [nmE 97 0, .mk 8 ⟨#[43]⟩ 0 0 0 [nu 1 4, .mk 8 ⟨#[42]⟩ 0 0 0 [nu 2 8, nu 3 12] 8] 4] 0] 0
def e2_T : Tr := nd 20 [.mk 22 ⟨#[]⟩ 0 0 1 [nmE 97 0, .mk 8 ⟨#[46, 46]⟩ 0 0 0 [nmE 98 4, .mk 8 ⟨#[46, 46]⟩ 0 0 0 [nmE 99 7, nmE 100 10] 7] 4] 0] 0
def e3_T : Tr := nd 20 [.mk 22 ⟨#[]⟩ 0 0 1 [nmE 97 0, .mk 8 ⟨#[46, 46]⟩ 0 0 0 [nmE 98 4, .mk 8 ⟨#[46, 46]⟩ 0 0 0 [nmE 99 8, nmE 100 11] 8] 4] 0] 0
theorem e1_w : whole ⟨e1_L, 13⟩ = .ok e1_T := by rfl
theorem e2_w : whole ⟨e2_L, 11⟩ = .ok e2_T := by rfl
theorem e3_w : whole ⟨e3_L, 13⟩ = .ok e3_T := by rfl
theorem e4_w : whole ⟨e4_L, 1⟩ = .error (1, 6) := by rfl
theorem e5_w : whole ⟨e5_L, 7⟩ = .error (4, 6) := by rfl
theorem e6_w : whole ⟨e6_L, 10⟩ = .error (9, 6) := by rfl
theorem it1 : Lib.itoa 1 = [49] := by kernel_rfl
theorem it2 : Lib.itoa 2 = [50] := by kernel_rfl
theorem it3 : Lib.itoa 3 = [51] := by kernel_rfl
def itx (_ : Int) (vn : Int) : ByteArray := ⟨(Lib.itoa vn).toArray⟩
def PI : Int → Int → Prop := fun vt vn => vt = 2 ∧ 0 ≤ vn ∧ vn ≤ 9
theorem num_ok {w : World} (ht : Tab10 w) : ∀ W c, Kept No w W → w.heap.size ≤ c → NumOK itx PI c W := by
  intro W c hk hc W2 hl vt vn hp;obtain ⟨rfl, h1, h2⟩ := hp
  have hb : Below w.heap.size w W2 := by
    refine Below.trans hk.below ?_;exact ⟨hl.os, hl.tape, hl.output, hl.size, fun k hk' => hl.block k (by omega)⟩
  refine cmo (Text_int vn W2 (by omega) (by omega) (tab10_below ht hb)) ?_;rintro r w' ⟨rfl, hb2⟩;exact ⟨rfl, Kept.of_below hb2⟩
def noQ : ByteArray → ByteArray := fun t => t
theorem nu_tree (v a : Int) (h1 : 0 ≤ v) (h2 : v ≤ 9) (hne : (itx 2 v).toList ≠ []) : TreeIs itx noQ PI (nu v a) := tree_expr (hp_4 _ _ _ _ _ _) (expr_4 _ _ _ _ _ _ hne ⟨rfl, h1, h2⟩) (show (4 : Int) < 20 by decide)
theorem nm_tree (c : UInt8) (a : Int) : TreeIs itx noQ PI (nmE c a) := tree_expr (hp_6 _ _ _ _ _ _) (expr_6 _ _ _ _ _ _ (by rw [ByteArray.toList_eq]; simp)) (show (6 : Int) < 20 by decide)
theorem bin_tree {x y : Tr} (hx : TreeIs itx noQ PI x) (hy : TreeIs itx noQ PI y) (t : ByteArray) (hne : t.toList ≠ []) (a : Int) : TreeIs itx noQ PI (.mk 8 t 0 0 0 [x, y] a) := tree_expr (hp_8 _ _ _ _ _ _ _) (expr_8 hx hy t hne _ _ _ _) (show (8 : Int) < 20 by decide)
theorem itx_ne (v : Int) (h : (Lib.itoa v) ≠ []) : (itx 2 v).toList ≠ [] := by rw [ByteArray.toList_eq]; simpa [itx] using h
theorem asg_tree {x y : Tr} (hx : TreeIs itx noQ PI x) (hy : TreeIs itx noQ PI y) (hk : x.k = 6) (a : Int) : TreeIs itx noQ PI (.mk 22 ⟨#[]⟩ 0 0 1 [x, y] a) :=
  tree_stmt (hp_22 (m := [x]) (m2 := [y]) (by simp) (by simp) (by simp) (by simp) (by intro z hz; rw [List.mem_singleton.1 hz]; exact .inl hk) _ _ _ _) (stmt_22 (m := [x]) (m2 := [y]) (by intro z hz; rw [List.mem_singleton.1 hz]; exact hx) (by intro z hz; rw [List.mem_singleton.1 hz]; exact hy) (by simp) (by simp) (by simp) (by simp) _ _ _ _) (show (20 : Int) ≤ 22 by decide)
theorem e1_tree : TreeIs itx noQ PI e1_T := by
  refine tree_stmt (hp_20 _ _ _ _ _ _) (stmt_20 ?_ (by simp) _ _ _ _ _) (show (20 : Int) ≤ 20 by decide);intro z hz;rw [List.mem_singleton.1 hz];refine asg_tree (nm_tree _ _) (bin_tree (nu_tree 1 _ (by decide) (by decide) (itx_ne 1 (by rw [it1]; simp))) (bin_tree (nu_tree 2 _ (by decide) (by decide) (itx_ne 2 (by rw [it2]; simp))) (nu_tree 3 _ (by decide) (by decide) (itx_ne 3 (by rw [it3]; simp))) _ (by rw [ByteArray.toList_eq]; decide) _) _ (by rw [ByteArray.toList_eq]; decide) _) rfl _
theorem e1_pr : prT itx noQ e1_T = [⟨#[97]⟩, ⟨#[61]⟩, ⟨#[40]⟩, ⟨#[49]⟩, ⟨#[43]⟩, ⟨#[40]⟩, ⟨#[50]⟩, ⟨#[42]⟩, ⟨#[51]⟩, ⟨#[41]⟩, ⟨#[41]⟩, ⟨#[59]⟩] := by
  have h : prT itx noQ e1_T = [⟨#[97]⟩, ⟨#[61]⟩, ⟨#[40]⟩, itx 2 1, ⟨#[43]⟩, ⟨#[40]⟩, itx 2 2, ⟨#[42]⟩, itx 2 3, ⟨#[41]⟩, ⟨#[41]⟩, ⟨#[59]⟩] := by rfl
  rw [h];simp only [itx, it1, it2, it3]
theorem e1_join : joinB (prT itx noQ e1_T) = ⟨#[97, 32, 61, 32, 40, 32, 49, 32, 43, 32, 40, 32, 50, 32, 42, 32, 51, 32, 41, 32, 41, 32, 59]⟩ := by rw [e1_pr]; rfl
theorem e23 : smB e2_T e3_T = true := by
  rw [smB_iff]; rfl
theorem e2_bd : Bd 20000 e2_T := whole_bd e2_w (by decide)
theorem e2_same : SameIs e2_T := Same_any (Nat.le_refl _) _ e2_T (Nat.lt_succ_self _) e2_bd
theorem print_e1 {S : Nat → Prop} {w0 w : World} {cs : List Value} (ht : Tab10 w0) (hk : Kept No w0 w) (hX : NodeIs S w e1_T cs) : Calls tpg 11 #[.agg cs.toArray] w fun r w' => r = .returned (.string ⟨#[97, 32, 61, 32, 40, 32, 49, 32, 43, 32, 40, 32, 50, 32, 42, 32, 51, 32, 41, 32, 41, 32, 59]⟩) ∧ Kept No w w' := by
  have := Print_any e1_tree hX (num_ok (tab10_below ht hk.below)) (by rw [e1_pr]; decide) (by rw [e1_pr]; decide) (by rw [e1_pr]; decide);rw [e1_join] at this;exact this
theorem e1_ps {w : World} (he : ErrIs w) (hg : SgIs w) : Calls tpg 17 #[.string ⟨#[97, 32, 61, 32, 49, 32, 43, 32, 50, 32, 42, 32, 51]⟩] w (WRes w (.ok e1_T)) :=
  Parse_any e1 w he hg (.inr ⟨e1_le, none, e1_L, e1_lx w he, e1_w.symm⟩)
theorem e2_ps {w : World} (he : ErrIs w) (hg : SgIs w) : Calls tpg 17 #[.string ⟨#[97, 32, 61, 32, 98, 46, 46, 99, 46, 46, 100]⟩] w (WRes w (.ok e2_T)) :=
  Parse_any e2 w he hg (.inr ⟨e2_le, none, e2_L, e2_lx w he, e2_w.symm⟩)
theorem e3_ps {w : World} (he : ErrIs w) (hg : SgIs w) : Calls tpg 17 #[.string ⟨#[97, 32, 61, 32, 98, 46, 46, 40, 99, 46, 46, 100, 41]⟩] w (WRes w (.ok e3_T)) :=
  Parse_any e3 w he hg (.inr ⟨e3_le, none, e3_L, e3_lx w he, e3_w.symm⟩)
theorem e4_ps {w : World} (he : ErrIs w) (hg : SgIs w) : Calls tpg 17 #[.string ⟨#[120]⟩] w (WRes w (.error (1, 6))) :=
  Parse_any e4 w he hg (.inr ⟨e4_le, none, e4_L, e4_lx w he, e4_w.symm⟩)
theorem e5_ps {w : World} (he : ErrIs w) (hg : SgIs w) : Calls tpg 17 #[.string ⟨#[102, 40, 41, 32, 61, 32, 49]⟩] w (WRes w (.error (4, 6))) :=
  Parse_any e5 w he hg (.inr ⟨e5_le, none, e5_L, e5_lx w he, e5_w.symm⟩)
theorem e6_ps {w : World} (he : ErrIs w) (hg : SgIs w) : Calls tpg 17 #[.string ⟨#[114, 101, 116, 117, 114, 110, 32, 49, 32, 120]⟩] w (WRes w (.error (9, 6))) :=
  Parse_any e6 w he hg (.inr ⟨e6_le, none, e6_L, e6_lx w he, e6_w.symm⟩)
theorem alive_any {w : World} (he : ErrIs w) (hg : SgIs w) (ht : Tab10 w) :
    Calls tpg 10 #[] w fun r w' => r = .returned (.bool true) ∧ Kept No w w' := by
  have HE : Hid (ErrIs w ∧ SgIs w ∧ Tab10 w) := ⟨he, hg, ht⟩;have H0 : Hid (Kept No w w) := Kept.refl _ _;clear he hg ht;go_enter Tryz.func10, Tryz.ntmps10
  go_wp2_with fail
  refine cmo (e1_ps (HE.out.1.no H0.out) (HE.out.2.1.no H0.out)) ?_;rintro r W1 ⟨hk, cs1, rfl, hX⟩;obtain ⟨sv, rfl, hl⟩ := NodeIs.cs.1 (show NodeIs _ _ (.mk 20 ⟨#[]⟩ 0 0 0 _ 0) _ from hX);obtain ⟨ao1, ln1, cp1, rfl⟩ := slice_of hl;obtain ⟨X1, HW1⟩ := nm (W1.alloc (nb (ncs 20 ⟨#[]⟩ 0 0 0 (.slice ao1 ln1 cp1) 0)));have ka : Kept No W1 X1 := by rw [← HW1.out]; exact (Kept.refl No _).alloc _
  have HN1 : Hid (NodeIs (fun b => b < w.heap.size) X1 e1_T (ncs 20 ⟨#[]⟩ 0 0 0 (.slice ao1 ln1 cp1) 0) ∧ X1.heap[W1.heap.size]? = some (nb (ncs 20 ⟨#[]⟩ 0 0 0 (.slice ao1 ln1 cp1) 0))) := ⟨nkp ka.no _ _ hX, by rw [← HW1.out]; exact World.alloc_heap_new _ _⟩;have H1 : Hid (Kept No w X1) := H0.out.trans (hk.trans ka);unfold nb ncs at HW1;clear hk ka H0 hl hX;unfold ncs;go_wp2_with fail
  rw [HW1.out];clear HW1;refine cmo (e2_ps (HE.out.1.no H1.out) (HE.out.2.1.no H1.out)) ?_;rintro r W2 ⟨hk, cs2, rfl, hX⟩;obtain ⟨sv, rfl, hl⟩ := NodeIs.cs.1 (show NodeIs _ _ (.mk 20 ⟨#[]⟩ 0 0 0 _ 0) _ from hX);obtain ⟨ao2, ln2, cp2, rfl⟩ := slice_of hl;obtain ⟨X2, HW2⟩ := nm (W2.alloc (nb (ncs 20 ⟨#[]⟩ 0 0 0 (.slice ao2 ln2 cp2) 0)));have ka : Kept No W2 X2 := by rw [← HW2.out]; exact (Kept.refl No _).alloc _
  have HN2 : Hid (NodeIs (fun b => b < X1.heap.size) X2 e2_T (ncs 20 ⟨#[]⟩ 0 0 0 (.slice ao2 ln2 cp2) 0) ∧ X2.heap[W2.heap.size]? = some (nb (ncs 20 ⟨#[]⟩ 0 0 0 (.slice ao2 ln2 cp2) 0))) := ⟨nkp ka.no _ _ hX, by rw [← HW2.out]; exact World.alloc_heap_new _ _⟩;have H2 : Hid (Kept No w X2) := H1.out.trans (hk.trans ka);have HN1 : Hid _ := (⟨nkp (hk.trans ka).no _ _ HN1.out.1, (hk.trans ka).heap HN1.out.2 id⟩ : _ ∧ _);unfold nb ncs at HW2;clear hk ka H1 hl hX;unfold ncs;go_wp2_with fail
  rw [HW2.out];clear HW2;refine cmo (e3_ps (HE.out.1.no H2.out) (HE.out.2.1.no H2.out)) ?_;rintro r W3 ⟨hk, cs3, rfl, hX⟩;obtain ⟨sv, rfl, hl⟩ := NodeIs.cs.1 (show NodeIs _ _ (.mk 20 ⟨#[]⟩ 0 0 0 _ 0) _ from hX);obtain ⟨ao3, ln3, cp3, rfl⟩ := slice_of hl;obtain ⟨X3, HW3⟩ := nm (W3.alloc (nb (ncs 20 ⟨#[]⟩ 0 0 0 (.slice ao3 ln3 cp3) 0)));have ka : Kept No W3 X3 := by rw [← HW3.out]; exact (Kept.refl No _).alloc _
  have HN3 : Hid (NodeIs (fun b => b < X2.heap.size) X3 e3_T (ncs 20 ⟨#[]⟩ 0 0 0 (.slice ao3 ln3 cp3) 0) ∧ X3.heap[W3.heap.size]? = some (nb (ncs 20 ⟨#[]⟩ 0 0 0 (.slice ao3 ln3 cp3) 0))) := ⟨nkp ka.no _ _ hX, by rw [← HW3.out]; exact World.alloc_heap_new _ _⟩;have H3 : Hid (Kept No w X3) := H2.out.trans (hk.trans ka);have HN1 : Hid _ := (⟨nkp (hk.trans ka).no _ _ HN1.out.1, (hk.trans ka).heap HN1.out.2 id⟩ : _ ∧ _);have HN2 : Hid _ := (⟨nkp (hk.trans ka).no _ _ HN2.out.1, (hk.trans ka).heap HN2.out.2 id⟩ : _ ∧ _);unfold nb ncs at HW3;clear hk ka H2 hl hX;unfold ncs;go_wp2_with fail
  rw [HW3.out];clear HW3;refine cmo (e4_ps (HE.out.1.no H3.out) (HE.out.2.1.no H3.out)) ?_;rintro r W4 ⟨hk, rfl⟩;obtain ⟨X4, HW4⟩ := nm (W4.alloc (nb nz));have ka : Kept No W4 X4 := by rw [← HW4.out]; exact (Kept.refl No _).alloc _
  have H4 : Hid (Kept No w X4) := H3.out.trans (hk.trans ka);have HN1 : Hid _ := (⟨nkp (hk.trans ka).no _ _ HN1.out.1, (hk.trans ka).heap HN1.out.2 id⟩ : _ ∧ _);have HN2 : Hid _ := (⟨nkp (hk.trans ka).no _ _ HN2.out.1, (hk.trans ka).heap HN2.out.2 id⟩ : _ ∧ _);have HN3 : Hid _ := (⟨nkp (hk.trans ka).no _ _ HN3.out.1, (hk.trans ka).heap HN3.out.2 id⟩ : _ ∧ _);unfold nb nz ncs at HW4;clear hk ka H3;unfold nz ncs;go_wp2_with fail
  rw [HW4.out];clear HW4;refine cmo (e5_ps (HE.out.1.no H4.out) (HE.out.2.1.no H4.out)) ?_;rintro r W5 ⟨hk, rfl⟩;obtain ⟨X5, HW5⟩ := nm (W5.alloc (nb nz));have ka : Kept No W5 X5 := by rw [← HW5.out]; exact (Kept.refl No _).alloc _
  have H5 : Hid (Kept No w X5) := H4.out.trans (hk.trans ka);have HN1 : Hid _ := (⟨nkp (hk.trans ka).no _ _ HN1.out.1, (hk.trans ka).heap HN1.out.2 id⟩ : _ ∧ _);have HN2 : Hid _ := (⟨nkp (hk.trans ka).no _ _ HN2.out.1, (hk.trans ka).heap HN2.out.2 id⟩ : _ ∧ _);have HN3 : Hid _ := (⟨nkp (hk.trans ka).no _ _ HN3.out.1, (hk.trans ka).heap HN3.out.2 id⟩ : _ ∧ _);unfold nb nz ncs at HW5;clear hk ka H4;unfold nz ncs;go_wp2_with fail
  rw [HW5.out];clear HW5;refine cmo (e6_ps (HE.out.1.no H5.out) (HE.out.2.1.no H5.out)) ?_;rintro r W6 ⟨hk, rfl⟩;obtain ⟨X6, HW6⟩ := nm (W6.alloc (nb nz));have ka : Kept No W6 X6 := by rw [← HW6.out]; exact (Kept.refl No _).alloc _
  have H6 : Hid (Kept No w X6) := H5.out.trans (hk.trans ka);have HN1 : Hid _ := (⟨nkp (hk.trans ka).no _ _ HN1.out.1, (hk.trans ka).heap HN1.out.2 id⟩ : _ ∧ _);have HN2 : Hid _ := (⟨nkp (hk.trans ka).no _ _ HN2.out.1, (hk.trans ka).heap HN2.out.2 id⟩ : _ ∧ _);have HN3 : Hid _ := (⟨nkp (hk.trans ka).no _ _ HN3.out.1, (hk.trans ka).heap HN3.out.2 id⟩ : _ ∧ _);unfold nb nz ncs at HW6;clear hk ka H5;unfold nz ncs
  go_upto_region 7 with fail
  rw [HW6.out];clear HW6;have HPr : Hid _ := print_e1 HE.out.2.2 H6.out HN1.out.1;obtain ⟨r10, r11, r12, r13, r14, r15, r16⟩ := nb_cells HN1.out.2;go_wp2_with (first | (go_at_call 18; refine cmo (no_any _ _) ?_; rintro e w1 ⟨rfl, rfl⟩))
  refine cmo HPr.out ?_;rintro r W7 ⟨rfl, hk7⟩;have H7 : Hid (Kept No w W7) := H6.out.trans hk7;have b2 := hk7.heap HN2.out.2 id;have b3 := hk7.heap HN3.out.2 id;have HSm : Hid _ := e2_same _ _ e3_T W7 _ _ (nkp hk7.no _ _ HN2.out.1) (nkp hk7.no _ _ HN3.out.1);rw [e23] at HSm;obtain ⟨s10, s11, s12, s13, s14, s15, s16⟩ := nb_cells b2;obtain ⟨s20, s21, s22, s23, s24, s25, s26⟩ := nb_cells b3;clear hk7 HPr HN1 HN2 HN3 H6 b2 b3 r10 r11 r12 r13 r14 r15 r16;go_wp2_with (first | (go_at_call 18; refine cmo (no_any _ _) ?_; rintro e w1 ⟨rfl, rfl⟩))
  refine cmo HSm.out ?_;rintro r W8 ⟨rfl, hk8⟩;have H8 : Hid (Kept No w W8) := H7.out.trans hk8;clear hk8 HSm H7 s10 s11 s12 s13 s14 s15 s16 s20 s21 s22 s23 s24 s25 s26;go_wp2_with (first | (go_at_call 18; refine cmo (no_any _ _) ?_; rintro e w1 ⟨rfl, rfl⟩))
  go_ret
  exact ⟨rfl, H8.out⟩
theorem Lx.places {s : ByteArray} {hs : s.size ≤ 8192} {k : Nat} {e : Option (Nat × Int)} {L : List Tk} (h : Lx s hs k e L) : ∀ Y ∈ L, 0 ≤ Y.a ∧ Y.a ≤ (s.size : Int) := by
  induction h with
  | done k hk => intro Y hY; cases hY
  | bad k x hk hx h0 => intro Y hY; cases hY
  | more k E X e L hk h1 h2 h3 h4 h5 h6 ih =>
    intro Y hY;rcases List.mem_cons.1 hY with rfl | hY
    · obtain ⟨n, K, vt, vn, sy, q1, q2, q3, q4, q5⟩ := tk_ok s hk hs h1;rw [h2] at q5;rw [q5];exact ⟨by show (0 : Int) ≤ (k : Int); omega, by show (k : Int) ≤ _; omega⟩
    · exact ih Y hY
theorem at_bd {s : ByteArray} {L : List Tk} (h : ∀ Y ∈ L, 0 ≤ Y.a ∧ Y.a ≤ (s.size : Int)) (q : Nat) : 0 ≤ (Env.at ⟨L, (s.size : Int)⟩ q) ∧ Env.at ⟨L, (s.size : Int)⟩ q ≤ (s.size : Int) := by
  unfold Env.at;by_cases hq : q < L.length
  · exact h _ (tk_mem (V := ⟨L, (s.size : Int)⟩) hq)
  · rw [end_tk (V := ⟨L, (s.size : Int)⟩) (by show L.length ≤ q; omega)];exact ⟨by show (0 : Int) ≤ (s.size : Int); omega, by show (s.size : Int) ≤ _; omega⟩
theorem ends_data {s : ByteArray} {R : Except (Int × Int) Tr} (h : PsR s R) : (∃ l a, R = .ok (nd 20 l a)) ∨ ∃ a c, R = .error (a, c) ∧ c ≠ 0 ∧ 0 ≤ a ∧ a ≤ (s.size : Int) := by
  rcases h with ⟨hs, rfl⟩ | ⟨hs, e, L, hL, rfl⟩
  · exact .inr ⟨0, 3, rfl, by decide, by decide, by omega⟩
  · cases e with
    | some e =>
      obtain ⟨k, x⟩ := e;obtain ⟨h1, h2⟩ := hL.err k x rfl;exact .inr ⟨k, x, rfl, h1, by omega, by omega⟩
    | none =>
      dsimp only;cases hw : whole ⟨L, (s.size : Int)⟩ with
      | ok x =>
        obtain ⟨l, _, rfl⟩ := whole_ok hw;exact .inl ⟨l, _, rfl⟩
      | error e =>
        obtain ⟨a, c⟩ := e;obtain ⟨⟨q, rfl⟩, hc⟩ := whole_place hw;have := at_bd hL.places q;exact .inr ⟨_, c, rfl, by rcases hc with rfl | rfl <;> decide, this.1, this.2⟩
end Go.Proofs.YtmoiikpjegbokaaGreatDoor
