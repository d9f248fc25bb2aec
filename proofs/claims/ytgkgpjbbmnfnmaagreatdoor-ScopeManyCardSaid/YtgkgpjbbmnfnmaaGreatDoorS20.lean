/- Scope: the chapter's examples. -/
import Derived.Test.YtgkgpjbbmnfnmaaGreatDoorS19
namespace Go.Proofs.YtgkgpjbbmnfnmaaGreatDoor
open Go.RowKit
set_option linter.unusedSimpArgs false
set_option linter.unusedVariables false

def f1 : ByteArray := ⟨#[108, 111, 99, 97, 108, 32, 97, 32, 61, 32, 97]⟩
theorem f1_le : f1.size ≤ 8192 := by decide
def f1_L : List Tk := [⟨2, ⟨#[108, 111, 99, 97, 108]⟩, 0, 0, ⟨#[]⟩, 0, 5⟩, ⟨1, ⟨#[97]⟩, 0, 0, ⟨#[]⟩, 6, 7⟩, ⟨5, ⟨#[61]⟩, 0, 0, ⟨#[]⟩, 8, 9⟩, ⟨1, ⟨#[97]⟩, 0, 0, ⟨#[]⟩, 10, 11⟩]
theorem f1_lx : Lx f1 f1_le (skipB false (bl f1)) none f1_L := by
  have h0 := tk_name (s := f1) (k := 0) (by decide) f1_le (by decide)
  have h1 := tk_name (s := f1) (k := 6) (by decide) f1_le (by decide)
  have h2 := tk_sign (s := f1) (k := 8) (by decide) f1_le (by decide) (by decide) (by decide)
  have h3 := tk_name (s := f1) (k := 10) (by decide) f1_le (by decide)
  have e0 : skipB false (bl f1) = 0 := by decide
  rw [e0]
  refine lx_more (k := 0) (E := 5) (k' := 6) (by decide) h0 rfl (by decide) (by decide) (by decide) ?_
  refine lx_more (k := 6) (E := 7) (k' := 8) (by decide) h1 rfl (by decide) (by decide) (by decide) ?_
  refine lx_more (k := 8) (E := 9) (k' := 10) (by decide) h2 rfl (by decide) (by decide) (by decide) ?_
  refine lx_more (k := 10) (E := 11) (k' := 11) (by decide) h3 rfl (by decide) (by decide) (by decide) ?_
  exact .done 11 (by decide)
def f2 : ByteArray := ⟨#[108, 111, 99, 97, 108, 32, 120, 32, 59, 32, 102, 32, 61, 32, 102, 117, 110, 99, 116, 105, 111, 110, 40, 121, 41, 32, 114, 101, 116, 117, 114, 110, 32, 120, 32, 43, 32, 121, 32, 101, 110, 100]⟩
theorem f2_le : f2.size ≤ 8192 := by decide
def f2_L : List Tk := [⟨2, ⟨#[108, 111, 99, 97, 108]⟩, 0, 0, ⟨#[]⟩, 0, 5⟩, ⟨1, ⟨#[120]⟩, 0, 0, ⟨#[]⟩, 6, 7⟩, ⟨5, ⟨#[59]⟩, 0, 0, ⟨#[]⟩, 8, 9⟩, ⟨1, ⟨#[102]⟩, 0, 0, ⟨#[]⟩, 10, 11⟩, ⟨5, ⟨#[61]⟩, 0, 0, ⟨#[]⟩, 12, 13⟩, ⟨2, ⟨#[102, 117, 110, 99, 116, 105, 111, 110]⟩, 0, 0, ⟨#[]⟩, 14, 22⟩, ⟨5, ⟨#[40]⟩, 0, 0, ⟨#[]⟩, 22, 23⟩, ⟨1, ⟨#[121]⟩, 0, 0, ⟨#[]⟩, 23, 24⟩, ⟨5, ⟨#[41]⟩, 0, 0, ⟨#[]⟩, 24, 25⟩, ⟨2, ⟨#[114, 101, 116, 117, 114, 110]⟩, 0, 0, ⟨#[]⟩, 26, 32⟩, ⟨1, ⟨#[120]⟩, 0, 0, ⟨#[]⟩, 33, 34⟩, ⟨5, ⟨#[43]⟩, 0, 0, ⟨#[]⟩, 35, 36⟩, ⟨1, ⟨#[121]⟩, 0, 0, ⟨#[]⟩, 37, 38⟩, ⟨2, ⟨#[101, 110, 100]⟩, 0, 0, ⟨#[]⟩, 39, 42⟩]
theorem f2_lx : Lx f2 f2_le (skipB false (bl f2)) none f2_L := by
  have h0 := tk_name (s := f2) (k := 0) (by decide) f2_le (by decide)
  have h1 := tk_name (s := f2) (k := 6) (by decide) f2_le (by decide)
  have h2 := tk_sign (s := f2) (k := 8) (by decide) f2_le (by decide) (by decide) (by decide)
  have h3 := tk_name (s := f2) (k := 10) (by decide) f2_le (by decide)
  have h4 := tk_sign (s := f2) (k := 12) (by decide) f2_le (by decide) (by decide) (by decide)
  have h5 := tk_name (s := f2) (k := 14) (by decide) f2_le (by decide)
  have h6 := tk_sign (s := f2) (k := 22) (by decide) f2_le (by decide) (by decide) (by decide)
  have h7 := tk_name (s := f2) (k := 23) (by decide) f2_le (by decide)
  have h8 := tk_sign (s := f2) (k := 24) (by decide) f2_le (by decide) (by decide) (by decide)
  have h9 := tk_name (s := f2) (k := 26) (by decide) f2_le (by decide)
  have h10 := tk_name (s := f2) (k := 33) (by decide) f2_le (by decide)
  have h11 := tk_sign (s := f2) (k := 35) (by decide) f2_le (by decide) (by decide) (by decide)
  have h12 := tk_name (s := f2) (k := 37) (by decide) f2_le (by decide)
  have h13 := tk_name (s := f2) (k := 39) (by decide) f2_le (by decide)
  have e0 : skipB false (bl f2) = 0 := by decide
  rw [e0]
  refine lx_more (k := 0) (E := 5) (k' := 6) (by decide) h0 rfl (by decide) (by decide) (by decide) ?_
  refine lx_more (k := 6) (E := 7) (k' := 8) (by decide) h1 rfl (by decide) (by decide) (by decide) ?_
  refine lx_more (k := 8) (E := 9) (k' := 10) (by decide) h2 rfl (by decide) (by decide) (by decide) ?_
  refine lx_more (k := 10) (E := 11) (k' := 12) (by decide) h3 rfl (by decide) (by decide) (by decide) ?_
  refine lx_more (k := 12) (E := 13) (k' := 14) (by decide) h4 rfl (by decide) (by decide) (by decide) ?_
  refine lx_more (k := 14) (E := 22) (k' := 22) (by decide) h5 rfl (by decide) (by decide) (by decide) ?_
  refine lx_more (k := 22) (E := 23) (k' := 23) (by decide) h6 rfl (by decide) (by decide) (by decide) ?_
  refine lx_more (k := 23) (E := 24) (k' := 24) (by decide) h7 rfl (by decide) (by decide) (by decide) ?_
  refine lx_more (k := 24) (E := 25) (k' := 26) (by decide) h8 rfl (by decide) (by decide) (by decide) ?_
  refine lx_more (k := 26) (E := 32) (k' := 33) (by decide) h9 rfl (by decide) (by decide) (by decide) ?_
  refine lx_more (k := 33) (E := 34) (k' := 35) (by decide) h10 rfl (by decide) (by decide) (by decide) ?_
  refine lx_more (k := 35) (E := 36) (k' := 37) (by decide) h11 rfl (by decide) (by decide) (by decide) ?_
  refine lx_more (k := 37) (E := 38) (k' := 39) (by decide) h12 rfl (by decide) (by decide) (by decide) ?_
  refine lx_more (k := 39) (E := 42) (k' := 42) (by decide) h13 rfl (by decide) (by decide) (by decide) ?_
  exact .done 42 (by decide)
def nmE (c : UInt8) (a : Int) : Tr := .mk 6 ⟨#[c]⟩ 0 0 0 [] a
def f1_T : Tr := nd 20 [.mk 21 ⟨#[]⟩ 0 0 1 [nmE 97 6, nmE 97 10] 0] 0
def f2_T : Tr := nd 20 [.mk 21 ⟨#[]⟩ 0 0 1 [nmE 120 6] 0, .mk 22 ⟨#[]⟩ 0 0 1 [nmE 102 10, nd 7 [nmE 121 23, nd 20 [nd 27 [.mk 8 ⟨#[43]⟩ 0 0 0 [nmE 120 33, nmE 121 37] 33] 26] 26] 14] 10] 0
theorem f1_w : whole ⟨f1_L, 11⟩ = .ok f1_T := by rfl
theorem f2_w : whole ⟨f2_L, 42⟩ = .ok f2_T := by rfl
def f1_U : List Us := [⟨6, ⟨#[97]⟩, 0, 0, 0, false⟩, ⟨10, ⟨#[97]⟩, 0, -1, -1, false⟩]
def f2_U : List Us := [⟨6, ⟨#[120]⟩, 0, 0, 0, true⟩, ⟨10, ⟨#[102]⟩, 0, -1, -1, false⟩, ⟨23, ⟨#[121]⟩, 1, 1, 0, false⟩, ⟨33, ⟨#[120]⟩, 1, 0, 0, true⟩, ⟨37, ⟨#[121]⟩, 1, 1, 0, false⟩]
theorem f1_u : (wk f1_T s0).err = 0 ∧ (wk f1_T s0).us.map (heldU (wk f1_T s0).far) = f1_U.reverse := by
  constructor <;> rfl
theorem f2_u : (wk f2_T s0).err = 0 ∧ (wk f2_T s0).us.map (heldU (wk f2_T s0).far) = f2_U := by
  constructor <;> simp [f2_T, nmE, nd, wk, wkR, nodeS, blkS, funS, inS, lrnS, allS, learn1, nameS, errS, useS, lookK, bumpF, heldU, s0, f2_U, ByteArray.toList_eq]
end Go.Proofs.YtgkgpjbbmnfnmaaGreatDoor
