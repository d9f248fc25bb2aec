import Derived.Test.YtgkgpjbbmnfnmaaGreatDoorRows
import Derived.Test.YtgkgpjbbmnfnmaaGreatDoorGD
import Derived.ProofKit
import Derived.LaidMore
import Derived.OpenShut
import Derived.Stop.Joined
import Derived.Lib.LaidTab
import Derived.Stop.LaidErr
/- What every statement of this seat starts from: the listed variables as the program's own text lays them. -/
namespace Go.Proofs.YtgkgpjbbmnfnmaaGreatDoor
open Go.ChangeShapes Go.WideShapes Go.ChangeAt Go.WideMaps Go.WideElems Go.RowKit

theorem own : ownKnob Tryz.prog.godebug = none := by kernel_rfl
/-- The row's list. -/
abbrev laid7 : List (String × DataW Unit) := Rows.scopeNamesRow.laid
theorem door_met (os : Os) (args : Array Value) : laidMetH Tryz.prog laid7 ((World.doorLaid Tryz.prog 62 os).forCall (fun _ _ => 0) ⟨#[], args, []⟩).memory :=
  laidMetH_of_parts3 (fuel := 8) (laidMet_of_run' 8 (by kernel_rfl) (by kernel_rfl)) (by kernel_rfl) (by kernel_rfl)

theorem gE : Tryz.prog.globalNamed (laid7[3]'(by decide)).1 = some 5 := by kernel_rfl
theorem gS : Tryz.prog.globalNamed (laid7[5]'(by decide)).1 = some 0 := by kernel_rfl
theorem tS : (Tryz.prog.globals[0]?).map (·.type) = some 101 := by kernel_rfl

/-- An array of texts that reads as a list of texts holds them, cell for cell. -/
theorem cells_texts {H : Type} {enc : TypeId × Value → H} {P : Program} {w : World} {base : Nat} {sp : Nat → Bool} {held : Bool} {fuel : Nat} {t e : TypeId} {n : Nat} {cs : List Value} {G : List (List UInt8)} {p : List MemPlace}
    (ht : P.underlying t = some (.array n e)) (he : P.underlying e = some .string) (hce : P.cellsOf e = 1) (hct : P.cellsOf t = n)
    (h : DataW.trod enc P w base sp held fuel t cs = some (.agg (G.map fun g => .lit (.string g)), p)) : cs = G.map fun g => Value.string ⟨g.toArray⟩ := by
  cases fuel with
  | zero => simp [DataW.trod] at h
  | succ fuel =>
    simp only [DataW.trod, ht, hce, hct, Nat.mul_one] at h
    split at h
    · obtain ⟨xs, hm, hx⟩ := Option.map_eq_some_iff.1 h
      have hxs : xs.map (·.1) = G.map fun g => (DataW.lit (.string g) : DataW H) := by
        have := congrArg Prod.fst hx
        simpa using this
      have hxl : xs.length = n := by simpa using Lib.mapM_length hm
      have hgl : G.length = n := by
        have := congrArg List.length hxs
        simp at this
        omega
      apply List.ext_getElem?
      intro i
      by_cases hi : i < n
      · obtain ⟨b, hb, hf⟩ := Lib.mapM_at hm i i (by simp [hi])
        obtain ⟨u, hc, rfl, _⟩ := DataW.trod_string he hf
        have h1 : cs[i]? = some (.string u) := by
          have := congrArg (·[0]?) hc
          simpa [List.getElem?_take, List.getElem?_drop] using this
        have h2 : (xs.map (·.1))[i]? = some (DataW.lit (.string u.data.toList) : DataW H) := by simp [hb]
        rw [hxs, List.getElem?_map] at h2
        obtain ⟨g, hg, hgu⟩ := Option.map_eq_some_iff.1 h2
        have hgu' : g = u.data.toList := by injection hgu with a; injection a
        rw [h1, List.getElem?_map, hg, hgu']
        rfl
      · rw [List.getElem?_eq_none (by omega), List.getElem?_eq_none (by simp; omega)]
    · cases h
theorem sg_of_laid {W : World} (h : laidMetH Tryz.prog laid7 W) : SgIs W := by
  rw [MakeChecks.laidMetH_plain _ _ _ (by kernel_rfl)] at h
  have h2 := laidMet.tail (laidMet.tail (laidMet.tail (laidMet.tail (laidMet.tail h))))
  obtain ⟨ps, ⟨g', t', cs, fuel, p, q, hg', ht', hvar, hd, _, _⟩, _⟩ := h2
  obtain rfl := Option.some.inj (gS.symm.trans hg')
  obtain rfl := Option.some.inj (tS.symm.trans ht')
  have hcs := cells_texts (G := sgs) Tryz.underlying101 Tryz.underlying9 (by kernel_rfl) (by kernel_rfl) hd
  intro j v hv
  have := World.var?_cell gS hvar j
  rw [← Array.getElem?_toList, hcs] at this
  rw [Nat.zero_add, this]
  simpa [sgV] using hv
theorem tE : (Tryz.prog.globals[5]?).map (·.type) = some 110 := by kernel_rfl
theorem starE : "*errors.errorString" = "*" ++ "errors.errorString" := by decide
theorem rowE (u : TypeId) (h : Tryz.prog.typeName? 3 u = some "*errors.errorString") : u = 226 :=
  typeName_ptr_named (nm := "errors.errorString") (by rw [← starE]; kernel_rfl) (by kernel_rfl) (by decide) u (by rw [← starE]; exact h)
theorem err_of_laid {W : World} (h : laidMetH Tryz.prog laid7 W) : ErrIs W := by
  rw [MakeChecks.laidMetH_plain _ _ _ (by kernel_rfl)] at h
  have h2 := laidMet.tail (laidMet.tail (laidMet.tail h))
  obtain ⟨a, s, hv, _, _, _⟩ := laid_sentinel h2 gE tE Tryz.underlying110 rowE Tryz.underlying226 Tryz.underlying228 rfl rfl Tryz.underlying9 (by kernel_rfl) (by kernel_rfl)
  exact ⟨a, by simpa using World.var?_cell gE hv 0⟩
end Go.Proofs.YtgkgpjbbmnfnmaaGreatDoor
