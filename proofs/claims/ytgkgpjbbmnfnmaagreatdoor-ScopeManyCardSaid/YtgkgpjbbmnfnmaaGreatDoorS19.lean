/- Scope: Resolve. -/
import Derived.Test.YtgkgpjbbmnfnmaaGreatDoorS18
namespace Go.Proofs.YtgkgpjbbmnfnmaaGreatDoor
open Go.RowKit
set_option linter.unusedSimpArgs false
set_option linter.unusedVariables false

theorem FoundIs.no {w0 w w' : World} {s : St} {u : Value} (h : FoundIs w0 w s u) (hk : Kept No w w') : FoundIs w0 w' s u := by
  obtain ⟨L, ao, cap, B, e1, e2, e3, e4, e5⟩ := h
  exact ⟨L, ao, cap, B, e1, e2, e3, e4, row_no e5 hk⟩
theorem FoundIs.slice {w0 w : World} {s : St} {u : Value} (h : FoundIs w0 w s u) : ∃ ao ln cp, u = .slice ao ln cp := by
  obtain ⟨L, ao, cap, B, e1, _⟩ := h
  exact ⟨_, _, _, e1⟩
def RvRes (w : World) (T : Except (Int × Int) Tr) (e : Ending) (w' : World) : Prop := Kept No w w' ∧ match resM T with
  | .error (a, x) => e = .returned (.tuple #[.slice none 0 0, .int .i64 a, .int .i64 x])
  | .ok s => ∃ u : Value, e = .returned (.tuple #[u, .int .i64 0, .int .i64 0]) ∧ FoundIs w w' s u
set_option maxRecDepth 20000 in
set_option maxHeartbeats 4000000 in
theorem Resolve_any (s : ByteArray) (w : World) (he : ErrIs w) (hg : SgIs w) {T : Except (Int × Int) Tr} (h : PsR s T) : Calls Tryz.prog 7 #[.string s] w (RvRes w T) := by
  have HR : Hid _ := resolve_any (s := s) (w := w) (T := T) (fun W hk => Parse_any s W (he.no hk) (hg.no hk) h) (fun a x e => (ends_err h a x e).1) (fun x e => psr_shp h x e)
  clear h he hg
  go_enter Tryz.func7, Tryz.ntmps7
  go_wp2_with fail
  refine Calls.mono HR.out ?_
  rintro e W1 ⟨hk, h1⟩
  unfold RvRes
  cases hT : resM T with
  | error e =>
    obtain ⟨a, x⟩ := e
    rw [hT] at h1
    dsimp only at h1
    subst h1
    have HK : Hid (Kept No w (W1.alloc (nb nz))) := hk.alloc _
    unfold nb nz ncs at HK
    unfold nz ncs
    clear hk HR
    go_wp2_with fail
    exact bodyPost_ret (v := .tuple #[.slice none 0 0, .int .i64 a, .int .i64 x]) (by simp [results, Tryz.results7, go_sem]) rfl ⟨HK.out, by rw [hT]⟩
  | ok s2 =>
    rw [hT] at h1
    obtain ⟨k, t, vt, vn, n, ao', ln', cp', a, u, rfl, hF⟩ := h1
    obtain ⟨ao, ln, cp, rfl⟩ := hF.slice
    have ka : Kept No W1 (W1.alloc (nb (ncs k t vt vn n (.slice ao' ln' cp') a))) := (Kept.refl No W1).alloc _
    have HK : Hid (Kept No w (W1.alloc (nb (ncs k t vt vn n (.slice ao' ln' cp') a))) ∧ FoundIs w (W1.alloc (nb (ncs k t vt vn n (.slice ao' ln' cp') a))) s2 (.slice ao ln cp)) := ⟨hk.trans ka, hF.no ka⟩
    unfold nb ncs at HK
    unfold ncs
    clear hk HR hF ka
    go_wp2_with fail
    exact bodyPost_ret (v := .tuple #[.slice ao ln cp, .int .i64 0, .int .i64 0]) (by simp [results, Tryz.results7, go_sem]) rfl ⟨HK.out.1, by rw [hT]; exact ⟨_, rfl, HK.out.2⟩⟩
end Go.Proofs.YtgkgpjbbmnfnmaaGreatDoor
