/- Both Reads give t, m and the error x. -/
import Derived.Test.YtidokamfppdnaaaGreatDoorN8
namespace Go.Proofs.YtidokamfppdnaaaGreatDoor
open Go.RowKit

/-- Both Reads give t, m and the error x. -/
def ReadB (s : ByteArray) (t m x : Int) : Prop :=
  (∀ w, ErrIs w → Calls Tryz.prog 34 #[.string s] w fun e w' => e = .returned (.tuple #[AV t m, .int .i64 x]) ∧ Below w.heap.size w w') ∧
  (∀ w, Calls Tryz.prog 26 #[.string s] w fun e w' => e = .returned (.tuple #[AV t m, .int .i64 x]) ∧ Below w.heap.size w w')
theorem readB_all (s : ByteArray) (hz : s.size ≤ 140737488351232) : ∃ t m x, ReadB s t m x := by
  obtain ⟨t, m, x, h1, h2⟩ := same_all s hz
  exact ⟨t, m, x, h1, h2⟩
theorem readB_digit (t : ByteArray) (v : Int) (hz : t.size ≤ 8192) (h0 : Lib.hasPrefix t.data.toList zf.data.toList = false) (hb : bad t = false) (hp : pnt t = false) (hv : Lib.parseIntB 64 t.data.toList = .ok v)
    (ha : allB (unsg t) dec = true) (hr : wholeT (unsg t) (Lib.hasPrefix t.data.toList dash.data.toList) = .tuple #[AV 2 v, .int .i64 0]) : ∃ a m, ReadB t a m 0 :=
  ⟨2, v, fun w _ => Read_int t v w (by unfold maxLen; omega) (by omega) h0 hb hp hv, fun w => RRead_whole t (unsg t) _ 2 v 0 w (by omega) (Nat.le_trans (unsg_size t) (by omega)) (noBits_of t h0) (signed_of t) ha hr⟩
end Go.Proofs.YtidokamfppdnaaaGreatDoor
