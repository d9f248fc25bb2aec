/- NumKeys where the keys are unlike, and all cases together. -/
import Derived.Test.YtakpmefkddplhaaGreatDoorK1
namespace Go.Proofs.YtakpmefkddplhaaGreatDoor
open Go.RowKit

set_option maxHeartbeats 4000000 in
set_option maxRecDepth 100000 in
theorem NumKeys_neT (s m t n T1 N1 T2 N2 x : Int) (w : World) (ht : TabIs4 w) (ka : KeyGives s m T1 N1) (kb : KeyGives t n T2 N2) (kk : KeyGives T1 N1 T1 N1)
    (hc : Hid (∀ w, Calls Tryz.prog 32 #[AV s m, AV t n] w fun e w' => e = .returned (.tuple #[.int .i64 x, .bool true]) ∧ Below w.heap.size w w'))
    (hx : (x == 0) = false) (he : (T1 == T2) = false) :
    Calls Tryz.prog 10 #[AV s m, AV t n] w fun e w' => e = .returned (.bool true) ∧ Below w.heap.size w w' := by
  have KA : Hid (KeyGives s m T1 N1) := ka
  have KB : Hid (KeyGives t n T2 N2) := kb
  have KK : Hid (KeyGives T1 N1 T1 N1) := kk
  clear ka kb kk
  go_enter Tryz.func10, Tryz.ntmps10
  go_wp2_with fail
  refine (hc.out _).mono ?_
  rintro e w1 ⟨rfl, hb⟩
  obtain ⟨c1, c2, c3, c4⟩ := box2 hb
  have HB : Hid (Below w.heap.size w w1) := end2 hb
  have ht := cell_later hb (alC _ (alC _ ht))
  clear hb hc
  go_wp2_with fail
  go_region_held3 (fun w' => w'.cell? ⟨w.heap.size, 0, none⟩ = some (.int .i64 s) ∧ w'.cell? ⟨w.heap.size, 1, none⟩ = some (.int .i64 m) ∧ w'.cell? ⟨w.heap.size + 1, 0, none⟩ = some (.int .i64 t) ∧ w'.cell? ⟨w.heap.size + 1, 1, none⟩ = some (.int .i64 n) ∧ w'.cell? ⟨6, 15, none⟩ = some (.int .u8 4)) (go_keep)
    (first
    | (go_at_call_of 30 (Value.int IntKind.i64 m); refine (KA.out _).mono ?_; rintro e wa ⟨rfl, hb⟩; have HB := (by first | exact chain HB hb | exact chain_drew HB hb : Hid (Below w.heap.size w wa)); have c1 := cell_later hb (by first | exact c1 | assumption); have c2 := cell_later hb (by first | exact c2 | assumption); have c3 := cell_later hb (by first | exact c3 | assumption); have c4 := cell_later hb (by first | exact c4 | assumption); have ht := cell_later hb (by first | exact ht | assumption); clear hb)
    | (go_at_call_of 30 (Value.int IntKind.i64 n); refine (KB.out _).mono ?_; rintro e wa ⟨rfl, hb⟩; have HB := (by first | exact chain HB hb | exact chain_drew HB hb : Hid (Below w.heap.size w wa)); have c1 := cell_later hb (by first | exact c1 | assumption); have c2 := cell_later hb (by first | exact c2 | assumption); have c3 := cell_later hb (by first | exact c3 | assumption); have c4 := cell_later hb (by first | exact c4 | assumption); have ht := cell_later hb (by first | exact ht | assumption); clear hb)
    | (go_at_call 30; refine (KK.out _).mono ?_; rintro e wa ⟨rfl, hb⟩; have HB := (by first | exact chain HB hb | exact chain_drew HB hb : Hid (Below w.heap.size w wa)); have c1 := cell_later hb (by first | exact c1 | assumption); have c2 := cell_later hb (by first | exact c2 | assumption); have c3 := cell_later hb (by first | exact c3 | assumption); have c4 := cell_later hb (by first | exact c4 | assumption); have ht := cell_later hb (by first | exact ht | assumption); clear hb)
    | (go_at_call 25; refine (alive_any _ (by first | exact ht | assumption)).mono ?_; rintro e wz ⟨rfl, hb⟩; have HB := (by first | exact chain HB hb | exact chain_drew HB hb : Hid (Below w.heap.size w wz)); have c1 := cell_later hb (by first | exact c1 | assumption); have c2 := cell_later hb (by first | exact c2 | assumption); have c3 := cell_later hb (by first | exact c3 | assumption); have c4 := cell_later hb (by first | exact c4 | assumption); have ht := cell_later hb (by first | exact ht | assumption); clear hb))
  all_goals go_wp2
  all_goals go_ret
  all_goals exact ⟨rfl, HB.out⟩
set_option maxHeartbeats 4000000 in
set_option maxRecDepth 100000 in
theorem NumKeys_neN (s m t n T1 N1 T2 N2 x : Int) (w : World) (ht : TabIs4 w) (ka : KeyGives s m T1 N1) (kb : KeyGives t n T2 N2) (kk : KeyGives T1 N1 T1 N1)
    (hc : Hid (∀ w, Calls Tryz.prog 32 #[AV s m, AV t n] w fun e w' => e = .returned (.tuple #[.int .i64 x, .bool true]) ∧ Below w.heap.size w w'))
    (hx : (x == 0) = false) (hT : T1 = T2) (he : (N1 == N2) = false) :
    Calls Tryz.prog 10 #[AV s m, AV t n] w fun e w' => e = .returned (.bool true) ∧ Below w.heap.size w w' := by
  subst hT
  have KA : Hid (KeyGives s m T1 N1) := ka
  have KB : Hid (KeyGives t n T1 N2) := kb
  have KK : Hid (KeyGives T1 N1 T1 N1) := kk
  clear ka kb kk
  go_enter Tryz.func10, Tryz.ntmps10
  go_wp2_with fail
  refine (hc.out _).mono ?_
  rintro e w1 ⟨rfl, hb⟩
  obtain ⟨c1, c2, c3, c4⟩ := box2 hb
  have HB : Hid (Below w.heap.size w w1) := end2 hb
  have ht := cell_later hb (alC _ (alC _ ht))
  clear hb hc
  go_wp2_with fail
  go_region_held3 (fun w' => w'.cell? ⟨w.heap.size, 0, none⟩ = some (.int .i64 s) ∧ w'.cell? ⟨w.heap.size, 1, none⟩ = some (.int .i64 m) ∧ w'.cell? ⟨w.heap.size + 1, 0, none⟩ = some (.int .i64 t) ∧ w'.cell? ⟨w.heap.size + 1, 1, none⟩ = some (.int .i64 n) ∧ w'.cell? ⟨6, 15, none⟩ = some (.int .u8 4)) (go_keep)
    (first
    | (go_at_call_of 30 (Value.int IntKind.i64 m); refine (KA.out _).mono ?_; rintro e wa ⟨rfl, hb⟩; have HB := (by first | exact chain HB hb | exact chain_drew HB hb : Hid (Below w.heap.size w wa)); have c1 := cell_later hb (by first | exact c1 | assumption); have c2 := cell_later hb (by first | exact c2 | assumption); have c3 := cell_later hb (by first | exact c3 | assumption); have c4 := cell_later hb (by first | exact c4 | assumption); have ht := cell_later hb (by first | exact ht | assumption); clear hb)
    | (go_at_call_of 30 (Value.int IntKind.i64 n); refine (KB.out _).mono ?_; rintro e wa ⟨rfl, hb⟩; have HB := (by first | exact chain HB hb | exact chain_drew HB hb : Hid (Below w.heap.size w wa)); have c1 := cell_later hb (by first | exact c1 | assumption); have c2 := cell_later hb (by first | exact c2 | assumption); have c3 := cell_later hb (by first | exact c3 | assumption); have c4 := cell_later hb (by first | exact c4 | assumption); have ht := cell_later hb (by first | exact ht | assumption); clear hb)
    | (go_at_call 30; refine (KK.out _).mono ?_; rintro e wa ⟨rfl, hb⟩; have HB := (by first | exact chain HB hb | exact chain_drew HB hb : Hid (Below w.heap.size w wa)); have c1 := cell_later hb (by first | exact c1 | assumption); have c2 := cell_later hb (by first | exact c2 | assumption); have c3 := cell_later hb (by first | exact c3 | assumption); have c4 := cell_later hb (by first | exact c4 | assumption); have ht := cell_later hb (by first | exact ht | assumption); clear hb)
    | (go_at_call 25; refine (alive_any _ (by first | exact ht | assumption)).mono ?_; rintro e wz ⟨rfl, hb⟩; have HB := (by first | exact chain HB hb | exact chain_drew HB hb : Hid (Below w.heap.size w wz)); have c1 := cell_later hb (by first | exact c1 | assumption); have c2 := cell_later hb (by first | exact c2 | assumption); have c3 := cell_later hb (by first | exact c3 | assumption); have c4 := cell_later hb (by first | exact c4 | assumption); have ht := cell_later hb (by first | exact ht | assumption); clear hb))
  all_goals go_wp2
  all_goals go_ret
  all_goals exact ⟨rfl, HB.out⟩

set_option maxHeartbeats 2000000 in
theorem NumKeys_no (s m t n x : Int) (w : World) (ht : TabIs4 w)
    (hc : Hid (∀ w, Calls Tryz.prog 32 #[AV s m, AV t n] w fun e w' => e = .returned (.tuple #[.int .i64 x, .bool false]) ∧ Below w.heap.size w w')) :
    Calls Tryz.prog 10 #[AV s m, AV t n] w fun e w' => e = .returned (.bool true) ∧ Below w.heap.size w w' := by
  go_enter Tryz.func10, Tryz.ntmps10
  go_wp2_with fail
  refine (hc.out _).mono ?_
  rintro e w1 ⟨rfl, hb⟩
  have HB : Hid (Below w.heap.size w w1) := end2 hb
  have ht := cell_later hb (alC _ (alC _ ht))
  clear hb hc
  go_wp2_with (first | (go_at_call 25; refine (alive_any _ (by exact ht)).mono ?_; rintro e wz ⟨rfl, hb⟩; have HB := chain HB hb; clear hb))
  go_ret
  exact ⟨rfl, HB.out⟩

theorem NumKeys_any (s m t n : Int) (w : World) (g1 : -9223372036854775808 ≤ m) (g2 : m ≤ 9223372036854775807) (h1 : -9223372036854775808 ≤ n) (h2 : n ≤ 9223372036854775807) (ht : TabIs4 w) :
    Calls Tryz.prog 10 #[AV s m, AV t n] w fun e w' => e = .returned (.bool true) ∧ Below w.heap.size w w' := by
  cases hb : cpB s m t n
  · refine NumKeys_no s m t n (cpN s m t n) w ht (fun w => ?_)
    have h := Cmp_any s m t n w g1 g2 h1 h2
    rw [hb] at h
    exact h
  · have pq : plc s m = true ∧ plc t n = true := by unfold cpB at hb; simpa using hb
    have hv : cpN s m t n = Fm.cmpV (vv s m) (vv t n) := by unfold cpN; unfold cpB at hb; rw [hb]; rfl
    have hc : ∀ w, Calls Tryz.prog 32 #[AV s m, AV t n] w fun e w' => e = .returned (.tuple #[.int .i64 (Fm.cmpV (vv s m) (vv t n)), .bool true]) ∧ Below w.heap.size w w' := fun w => by
      have h := Cmp_any s m t n w g1 g2 h1 h2
      rw [hb, hv] at h
      exact h
    have ka : KeyGives s m (kyT s m) (kyN s m) := fun w => Key_any s m w g1 g2
    have kb : KeyGives t n (kyT t n) (kyN t n) := fun w => Key_any t n w h1 h2
    have kk : KeyGives (kyT s m) (kyN s m) (kyT s m) (kyN s m) := fun w => by
      have b := ky_bounds (t := s) g1 g2
      have h := Key_any (kyT s m) (kyN s m) w b.1 b.2
      rw [(key_key s m).1, (key_key s m).2] at h
      exact h
    have hk := keys_alike pq.1 pq.2 g1 g2 h1 h2
    by_cases he : vv s m = vv t n
    · exact NumKeys_core s m t n _ _ _ _ _ w ht ka kb kk hc (by rw [he, Fm.cmpV_self]; rfl) (hk.1 he)
    · have hx : (Fm.cmpV (vv s m) (vv t n) == 0) = false := by
        rcases Fm.cmpV_cases (vv s m) (vv t n) with h | h | h
        · rw [h.2]; rfl
        · exact absurd h.1 he
        · rw [h.2]; rfl
      by_cases hT : kyT s m = kyT t n
      · exact NumKeys_neN s m t n _ _ _ _ _ w ht ka kb kk hc hx hT (by simp; exact fun hN => he (hk.2 ⟨hT, hN⟩))
      · exact NumKeys_neT s m t n _ _ _ _ _ w ht ka kb kk hc hx (by simp [hT])
end Go.Proofs.YtakpmefkddplhaaGreatDoor
