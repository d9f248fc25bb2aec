/- ParseAgain: a tree that is printed is the same tree again, at this commit's code; no condition but the tied tables of the library. -/
import Derived.Test.YtmoiikpjegbokaaGreatDoorLA
import Derived.Test.YtmoiikpjegbokaaGreatDoorK0
import Derived.Test.YtmoiikpjegbokaaGreatDoorCards
import Derived.Test.YtmoiikpjegbokaaGreatDoorTie
import Derived.SevenTiedAt
import Derived.SizedLaws
namespace Go.Proofs.YtmoiikpjegbokaaGreatDoor
open Go.Proofs.Tryz renaming prog → tpg
open Go.ChangeShapes Go.WideShapes Go.ChangeAt Go.WideMaps Go.WideElems Go.RowKit
open Go.ChangeMaps (open_string shut_string)
theorem gDB : tpg.globalNamed (laid7[1]'(by decide)).1 = some 7 := by kernel_rfl
theorem tDB : (tpg.globals[7]?).map (·.type) = some 202 := by kernel_rfl
theorem db_of_laid {W : World} (h : laidMetH tpg laid7 W) : W.cell? ⟨7, 15, none⟩ = some (.int .u8 4) := by
  rw [MakeChecks.laidMetH_plain _ _ _ (by kernel_rfl)] at h;have h2 := laidMet.tail h;have h3 := Lib.tabIs_of_head (k := .u8) (zs := [0, 1, 56, 2, 57, 49, 28, 3, 61, 58, 42, 50, 38, 29, 17, 4, 62, 47, 59, 36, 45, 43, 51, 22, 53, 39, 33, 30, 24, 18, 12, 5, 63, 55, 48, 27, 60, 41, 37, 16, 46, 35, 44, 21, 52, 32, 23, 11, 54, 26, 40, 15, 34, 20, 31, 10, 25, 14, 19, 9, 13, 8, 7, 6]) gDB tDB Tryz.underlying202 Tryz.underlying5 (by kernel_rfl) (by kernel_rfl) h2;exact h3.cell gDB 15 (by decide)
set_option maxRecDepth 100000 in
theorem parseAgain_lifted (os : Os) (started : os.Started) (H : Type) (enc : TypeId × Value → H) :
    ReturnsInHanded {} Tryz.checked os 4 .any (fun w args => (Rows.parseAgainSpec.pre enc tpg Tryz.f4 [] false w args ∧ laidMetH tpg laid7 w) ∧ sizedMet enc tpg Tryz.f4 (OpenSpec.ofChange Rows.parseAgainSpec) false w args)
      (Rows.parseAgainSpec.post enc tpg Tryz.f4 false true false false) := by
  refine returnsInHanded_of_change_and (C := Tryz.checked) (X := fun w _ => laidMetH tpg laid7 w) (fun _ _ _ hh h => h.of_heap hh) own started (by kernel_rfl) Tryz.func4
    (ChangeSpec.witness_shaped (enc := enc) (C := Tryz.checked) (os := os) (X := fun w _ => laidMetH tpg laid7 w) false (World.doorLaid tpg 62 os) #[.string ⟨#[]⟩] 8 rfl (World.shaped_of_RefB (by kernel_rfl) (by kernel_rfl)) (by kernel_rfl) (by kernel_rfl) (by kernel_rfl) (door_met os _)) ?_
  intro W base args ds gs before hval0 hW _ hSz hL _;have hval : ∀ (j : Nat) t v, Tryz.f4.params[j]? = some t → args[j]? = some v → Value.okWide tpg W .any base t v := hval0;have hW' := hW;obtain ⟨p, q, hA0, hV, rfl, hfz, hnd⟩ := hW;have hA : DataW.TrodAll enc tpg W 0 (fun _ => true) true Tryz.f4.params.toList args.toList ds p := hA0;rw [Tryz.params4] at hA hval;obtain ⟨v0, d0, rfl, rfl, h0⟩ := trodAll_one hA;obtain ⟨rfl, rfl⟩ := trodVars_none hV;obtain ⟨s0, rfl, rfl, rfl, w0⟩ := open_string Tryz.underlying9 (hval 0 9 v0 rfl rfl) h0;have z0 : s0.size ≤ 140737488351232 := by rw [Lib.size_eq]; exact sized_string hSz (j := 0) (t := 9) (by kernel_rfl) rfl
  have hE := err_of_laid hL;have hG := sg_of_laid hL;have h10 := tab10_of_laid hL;clear hA0 hval0;simp only [List.append_nil] at hW';refine (ParseAgain_any s0 W z0 hE hG h10 (db_of_laid hL)).mono fun e W' ⟨he, hg⟩ => ?_
  subst he;exact ⟨_, rfl, _, _, _, [], [], [], hW', trodAll_mk1 (shut_bool Tryz.underlying4 _), trodAll_mk1 (shut_string Tryz.underlying9 w0), rfl, hg.below.frame _, fun h => by cases h⟩
theorem parseAgain_holds : Rows.ParseAgainSaid :=
  OpenClaim.holds_of_wide 4 Tryz.f4 rfl rfl rfl rfl rfl rfl rfl ⟨rfl, rfl, rfl, rfl, rfl⟩ rfl rfl rfl rfl rfl (by kernel_rfl) Tryz.func4 (by kernel_rfl)
    (of_decide_eq_true (by kernel_rfl)) (by unfold Func.isWrapper; first | (rw [if_pos (by decide +kernel)]; kernel_rfl) | (rw [if_neg (by decide +kernel)]; exact ⟨rfl, rfl⟩))
    (fun os started H enc _ => parseAgain_lifted os started H enc)
theorem parseAgain_card : Rows.ParseAgainCardSaid :=
  Claim7.holds_tied_plain_at .later [] [.data, .data, .data, .sentinel, .sentinel, .data] true Rows.parseAgainCard.stood.harness true
    parseAgain_holds (fun _ h => by cases h) (by kernel_rfl) (fun _ h => by cases h) parseAgain_row_tie rfl ⟨rfl, rfl⟩ (by kernel_rfl) rfl
    (fun f fn hf hfn => by
      obtain rfl : f = 4 := Option.some.inj ((show tpg.funcNamed Rows.parseAgainRow.func = some 4 by kernel_rfl).symm.trans hf) |>.symm
      obtain rfl : fn = Tryz.f4 := (Option.some.inj (Tryz.func4.symm.trans hfn)).symm
      exact ⟨by kernel_rfl, fun j t ht => by
        rw [Tryz.params4] at ht;have hm : t ∈ [9] := by simpa using Array.mem_of_getElem? ht
        have hall : ([9].all fun u => !tpg.wantsStandIn u) = true := by kernel_rfl
        exact (show tpg.wantsStandIn t = false by simpa using List.all_eq_true.1 hall t hm)⟩)
    (by kernel_rfl)
end Go.Proofs.YtmoiikpjegbokaaGreatDoor
