/- Find. -/
import Derived.Test.YtnfamebihpnjlaaS2
namespace Go.Proofs.Ytnfamebihpnjlaa
open Go.RowKit
set_option linter.unusedSimpArgs false
set_option linter.unusedVariables false

theorem quiet_same {P : Program} {f : FuncId} {args : Array Value} {w : World} {n : Nat} {v : Value}
    (h : Calls P f args (w.drewN n) fun e w' => e = .returned v ∧ w.drewN n = w') : Calls P f args (w.drewN n) fun e w'' => e = .returned v ∧ ∃ m, w'' = w.drewN m :=
  h.mono fun _ _ ⟨he, hm⟩ => ⟨he, n, hm.symm⟩
theorem fd64 (a : ByteArray) (q : Int) (w : World) : (Instr.field 64 (.agg #[.string a, .int .i64 q]) 0).run Try.prog w = .ok (.string a) w := by kernel_rfl
theorem fd64q (a : ByteArray) (q : Int) (w : World) : (Instr.field 64 (.agg #[.string a, .int .i64 q]) 1).run Try.prog w = .ok (.int .i64 q) w := by kernel_rfl
theorem findV_some {L : List Ent} {s : ByteArray} {h : Int} (hf : find L s = some h) : findV L s = .tuple #[.int .i64 h, .bool true] := by simp [findV, hf]
theorem findV_none {L : List Ent} {s : ByteArray} (hf : find L s = none) : findV L s = .tuple #[.int .i64 0, .bool false] := by simp [findV, hf]

/-- No text of the first k of a chain is s. -/
def NoneOf (L : List Ent) (n : Nat) (s : ByteArray) (k : Nat) : Prop := ∀ j (hj : j < (cL L n (bk s n)).length), j < k → ∀ e ∈ L, e.h = (cL L n (bk s n))[j] → e.s ≠ s
theorem NoneOf.all {L : List Ent} {n : Nat} {s : ByteArray} (h : NoneOf L n s (cL L n (bk s n)).length) : find L s = none := by
  rcases find_spec (L := L) (s := s) with ⟨x, hx, hxs, hf⟩ | ⟨_, hf⟩
  · exfalso
    have hm : x.h ∈ cL L n (bk s n) := mem_cL.2 ⟨x, hx, by rw [hxs], rfl⟩
    obtain ⟨j, hj, hje⟩ := List.getElem_of_mem hm
    exact h j hj hj x hx hje.symm hxs
  · exact hf

set_option maxRecDepth 20000 in
set_option maxHeartbeats 1000000 in
theorem Find_any {w : World} {B A C M n p nn : Nat} {vs : List Value} {L : List Ent} (h : Rep w B A C M n p nn vs L) (s : ByteArray) (hs : s.size ≤ maxLen) :
    Calls Try.prog 17 #[.pointer (some ⟨A, 0, none⟩), .string s] w fun e w' => e = .returned (findV L s) ∧ ∃ m, w' = w.drewN m := by
  have hb := bk_lt s (n := n) (by have := h.n1; omega)
  obtain ⟨b, HE⟩ : ∃ b, Hid (b = bk s n) := ⟨_, rfl⟩
  rw [← HE.out] at hb
  have hbv : b < vs.length := by rw [h.len]; exact hb
  have hrow := h.row b hbv
  have hc := ch_cell h.hC hbv
  have HA : Hid (w.heap[A]? = some (tb C n M p)) := h.hA
  have HA' : Hid (∀ m, (w.drewN m).heap[A]? = some (tb C n M p)) := fun m => h.hA
  obtain ⟨a0, a1, a2⟩ := tb_cells h.hA
  have n1 := h.n1
  have n2 := h.n2
  have HS : Hid (s.size ≤ maxLen) := hs
  have HR : Hid (Rep w B A C M n p nn vs L) := h
  have HC34 : Hid (∀ w, Calls Try.prog 34 #[.string s, .int .i64 n] w fun e w' => e = .returned (.int .i64 b) ∧ w = w') := fun w => by
    rw [HE.out]; exact bucket_any s n w HS.out (by omega) (by omega)
  obtain ⟨l, hl⟩ : ∃ l, Hid (l = cL L n b) := ⟨_, rfl⟩
  rw [← hl.out] at hrow
  rcases row_shape hrow with ⟨hv, hl0⟩ | ⟨g, cap, hv, hg, hcap, hcm⟩
  · rw [hv] at hc
    have HF : Hid (find L s = none) := NoneOf.all (n := n) (fun j hj _ => by rw [← HE.out, ← hl.out, hl0] at hj; cases hj)
    clear h hrow hv
    rw [findV_none HF.out]
    go_enter Try.func17, Try.ntmps17
    go_wp2_with (go_at_call 33; refine (made_any _ HA.out).mono ?_; rintro e w' ⟨rfl, rfl⟩)
    go_quiet (first | (go_at_call 16; exact quiet_same (Buckets_any _ (HA'.out _))) | (go_at_call 34; exact quiet_same (HC34.out _)))
    go_wp2_with fail
    go_loop [7, 22] (fun _ i => i = .int .i64 0) (fun _ _ => 0)
    case atStart => rfl
    case round =>
      subst hrel
      go_wp2
      go_ret2
      exact ⟨rfl, _, rfl⟩
  · rw [hv] at hc
    unfold maxLen at hcm
    have HRow : Hid (∀ k (hk : k < l.length), w.cell? ⟨g, k, none⟩ = some (.int .i64 l[k])) := fun k hk => row_cell hrow hv hk
    clear h hrow hv
    go_enter Try.func17, Try.ntmps17
    go_wp2_with (go_at_call 33; refine (made_any _ HA.out).mono ?_; rintro e w' ⟨rfl, rfl⟩)
    go_quiet (first | (go_at_call 16; exact quiet_same (Buckets_any _ (HA'.out _))) | (go_at_call 34; exact quiet_same (HC34.out _)))
    go_wp2_with fail
    go_loop [7, 22] (fun _ i => ∃ k : Nat, k ≤ l.length ∧ i = .int .i64 k ∧ Hid (NoneOf L n s k)) (fun _ i => l.length - (intOf i).toNat)
    case atStart => exact ⟨0, Nat.zero_le _, rfl, fun j hj hlt => by omega⟩
    case round =>
      obtain ⟨k, hk, rfl, hN⟩ := hrel
      by_cases hlt : k < l.length
      · have hm : l[k] ∈ cL L n b := by rw [← hl.out]; exact List.getElem_mem _
        obtain ⟨x, hx, hxb, hxh⟩ := mem_cL.1 hm
        have hm2 : MapIs (w.drewN nq) M nn L.length (lookE L) := HR.out.map
        have hlook := hm2.look (h := l[k]) (by rw [← hxh]; exact wf_pos (HR.out.good.pos x hx).1 (HR.out.good.pos x hx).2)
        rw [← hxh, lookE_mem HR.out.good.hnd hx, hxh] at hlook
        have hlook' : (Instr.lookup 59 (.map (some M)) (.int .i64 l[k]) false).run Try.prog (w.drewN nq) = .ok (.agg #[.string x.s, .int .i64 x.q]) (w.drewN nq) := hlook
        have hck := HRow.out k hlt
        have hfd := fd64 x.s x.q (w.drewN nq)
        have HX : Hid (x ∈ L ∧ x.h = l[k]) := ⟨hx, hxh⟩
        clear hlook hm2
        by_cases hxs : x.s.data.toList = s.data.toList
        · have hxs' : (x.s.toList == s.toList) = true := by rw [ByteArray.toList_eq, ByteArray.toList_eq]; simpa using hxs
          have HF : Hid (find L s = some l[k]) := by
            show _ = _
            rw [find_in_chain (n := n) (h := 0) HR.out.good.snd hx (ba_ext hxs), hxh]
          clear hxs hN hm hx hxb hxh
          go_wp2
          go_ret2
          exact ⟨by rw [findV_some HF.out]; rfl, _, rfl⟩
        · have hxs' : (x.s.toList == s.toList) = false := by rw [ByteArray.toList_eq, ByteArray.toList_eq]; simpa using hxs
          have HN2 : Hid (NoneOf L n s (k + 1)) := fun j hj hlt2 e he heh hes => by
            rcases Nat.lt_succ_iff_lt_or_eq.1 hlt2 with h1 | h1
            · exact hN.out j hj h1 e he heh hes
            · subst h1
              have e1 : e.h = x.h := by
                rw [heh, hxh]
                simp only [← HE.out, hl.out]
              have := lookE_mem HR.out.good.hnd he
              rw [e1, lookE_mem HR.out.good.hnd hx] at this
              have e2 : x.s = e.s := by injection this with this; injection this
              exact hxs (by rw [e2, hes])
          clear hxs hN hm hx hxb hxh
          go_wp2
          go_round
          case rel => exact ⟨k + 1, by omega, by go_num, HN2⟩
          case measure => simp [intOf]; omega
      · have he : k = l.length := by omega
        subst he
        have HF : Hid (find L s = none) := NoneOf.all (n := n) (by
          have := hN.out
          rw [hl.out, HE.out] at this; exact this)
        clear hN
        go_wp2
        go_ret2
        exact ⟨by rw [findV_none HF.out]; rfl, _, rfl⟩
end Go.Proofs.Ytnfamebihpnjlaa
