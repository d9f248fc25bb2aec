/- StrtabOnce. -/
import Derived.Test.YtnfamebihpnjlaaZ2
namespace Go.Proofs.Ytnfamebihpnjlaa
open Go.RowKit
set_option linter.unusedVariables false
set_option linter.unusedSimpArgs false

/-- How many handles stand in the first b chains. -/
def sumC (L : List Ent) (n : Nat) : Nat → Nat
  | 0 => 0
  | b + 1 => sumC L n b + (cL L n b).length
theorem sumC_cons (e : Ent) (L : List Ent) (n : Nat) : ∀ b, sumC (e :: L) n b = sumC L n b + if bk e.s n < b then 1 else 0
  | 0 => by simp [sumC]
  | b + 1 => by
    rw [sumC, sumC, sumC_cons e L n b]
    have h : (cL (e :: L) n b).length = (cL L n b).length + if bk e.s n = b then 1 else 0 := by
      unfold cL
      rw [List.filter_cons]
      by_cases h1 : bk e.s n = b
      · simp [h1]
      · simp [h1]
    rw [h]
    by_cases h1 : bk e.s n = b
    · rw [if_pos h1, if_neg (by omega), if_pos (by omega)]; omega
    · rw [if_neg h1]
      by_cases h2 : bk e.s n < b
      · rw [if_pos h2, if_pos (by omega)]; omega
      · rw [if_neg h2, if_neg (by omega)]; omega
theorem sumC_nil (n : Nat) : ∀ b, sumC [] n b = 0
  | 0 => rfl
  | b + 1 => by rw [sumC, sumC_nil n b]; simp [cL]
theorem sumC_all {n : Nat} (hn : 1 ≤ n) : ∀ L : List Ent, sumC L n n = L.length
  | [] => sumC_nil n n
  | e :: L => by rw [sumC_cons, sumC_all hn L, if_pos (bk_lt e.s hn), List.length_cons]
theorem sumC_le {n : Nat} (L : List Ent) : ∀ b, sumC L n b ≤ b * L.length
  | 0 => by simp [sumC]
  | b + 1 => by
    rw [sumC]
    have := sumC_le (n := n) L b
    have := cL_len L n b
    rw [Nat.succ_mul]; omega

set_option maxRecDepth 20000 in
set_option maxHeartbeats 2000000 in
theorem StrtabOnce_any (v : Value) (L : List Ac) (w : World) (hL : Acts w v L) : Calls Try.prog 4 #[v] w fun e w' => e = .returned (.bool true) ∧ Kept No w w' := by
  have HA : Hid (Acts w v L) := hL
  clear hL
  have HLg : Hid _ := long_any HA.out
  go_enter Try.func4, Try.ntmps4
  go_wp2_with fail
  refine Calls.mono HLg.out ?_
  rintro e w0 ⟨t, rfl, hl, rfl⟩
  clear HLg
  cases t with
  | true =>
    go_wp2_with fail
    refine (alive_any _).mono ?_
    rintro e w1 ⟨rfl, hk1⟩
    have HK : Hid (Kept No w w1) := hk1
    clear hk1
    go_wp2
    go_ret
    exact ⟨rfl, HK.out⟩
  | false =>
    have hl100 : L.length ≤ 100 := hl rfl
    clear hl
    go_wp2_with fail
    refine (lmade_any HA.out hl100).mono ?_
    rintro e w1 ⟨A, rfl, h1⟩
    obtain ⟨p, n, E, hp, ⟨C, M, vs, hR, hk1⟩, hI, hc⟩ := h1
    have hbd := hI.bd
    have n4 := hR.n1
    have hle : E.length ≤ 100 := Nat.le_trans hR.map.le hp
    have HR : Hid (Rep w1 w.heap.size A C M n p p vs E ∧ Kept No w w1) := ⟨hR, hk1⟩
    clear hR hk1 hI hc
    have HBk : Hid (∀ W, Kept No w1 W → Calls Try.prog 16 #[.pointer (some ⟨A, 0, none⟩)] W fun e w' => e = .returned (.int .i64 n) ∧ W = w') := fun W hW => Buckets_any W (HR.out.1.no hW).hA
    have HLn : Hid (∀ W, Kept No w1 W → Calls Try.prog 15 #[.pointer (some ⟨A, 0, none⟩)] W fun e w' => e = .returned (.int .i64 (E.length : Nat)) ∧ W = w') := fun W hW => Len_any W (HR.out.1.no hW).hA (HR.out.1.no hW).map
    go_wp2_with fail
    go_loopw [4, 5, 6, 7, 8, 9, 10, 11] (fun vn vb _ _ _ _ _ _ wr => ∃ b : Nat, b ≤ n ∧ vn = .int .i64 (sumC E n b : Nat) ∧ vb = .int .i64 b ∧ Hid (Kept No w1 wr)) (fun _ vb _ _ _ _ _ _ _ => n - (ivO vb).toNat)
    case atStart => exact ⟨0, Nat.zero_le _, rfl, rfl, Kept.refl _ _⟩
    case round =>
      obtain ⟨b, hb, rfl, rfl, HK⟩ := hrel
      have HB1 : Hid _ := HBk.out wr HK.out
      have hsl := sumC_le (n := n) E b
      have hsl2 : b * E.length ≤ 300 * 100 := Nat.mul_le_mul (by omega) hle
      have hsm : sumC E n b ≤ 30000 := by omega
      clear hsl hsl2
      by_cases hlt : b < n
      · have k1 : (b : Int) < (n : Int) := by omega
        have HCh : Hid _ := Chain_any (HR.out.1.no HK.out) hlt
        have HSu : Hid (sumC E n (b + 1) = sumC E n b + (cL E n b).length) := rfl
        have HMe : Hid (∀ x ∈ (cL E n b).reverse, ∃ e ∈ E, bk e.s n = b ∧ e.h = x) := fun x hx => mem_cL.1 (List.mem_reverse.1 hx)
        have hcl : (cL E n b).length ≤ 100 := Nat.le_trans (cL_len E n b) hle
        generalize sumC E n b = S at hsm HSu ⊢
        go_wp2_with (go_at_call 16; refine Calls.mono HB1.out ?_; rintro e w' ⟨rfl, rfl⟩)
        refine Calls.mono HCh.out ?_
        rintro e w2 ⟨v2, rfl, hr2, hk2⟩
        clear HCh HB1
        have hrl : (cL E n b).length = (cL E n b).reverse.length := by simp
        rw [hrl] at hr2 HSu hcl
        clear hrl
        generalize (cL E n b).reverse = l at hr2 HMe HSu hcl
        have HK2 : Hid (Kept No w1 w2) := HK.out.trans hk2
        have hlen2 := row_len hr2
        have HRw : Hid (∀ W, Kept No w2 W → ∀ g cap, v2 = .slice (some ⟨g, 0, none⟩) l.length cap → ∀ k (hk : k < l.length), W.cell? ⟨g, k, none⟩ = some (.int .i64 l[k])) := fun W hW g cap hv k hk => hW.cell (row_cell hr2 hv hk)
        have HSh : Hid ((v2 = nilS ∧ l = []) ∨ ∃ g cap, v2 = .slice (some ⟨g, 0, none⟩) l.length cap ∧ wr.heap.size ≤ g ∧ l.length ≤ cap ∧ cap ≤ maxLen) := row_shape hr2
        clear hk2 hr2 HK
        go_wp2_with fail
        go_loopw [7, 8, 9, 10, 11] (fun vi _ _ _ _ wx => ∃ i : Nat, i ≤ l.length ∧ vi = .int .i64 i ∧ Hid (Kept No w2 wx)) (fun vi _ _ _ _ _ => l.length - (ivO vi).toNat)
        case atStart => exact ⟨0, Nat.zero_le _, rfl, Kept.refl _ _⟩
        case round =>
          obtain ⟨i, hi, rfl, HKi⟩ := hrel
          by_cases hil : i < l.length
          · have k2 : (i : Int) < (l.length : Int) := by omega
            rcases HSh.out with ⟨_, rfl⟩ | ⟨g, cap, rfl, _⟩
            · exact absurd hil (by simp)
            · have ci := HRw.out wr HKi.out g cap rfl i hil
              obtain ⟨e, he, h1, h2⟩ := HMe.out l[i] (List.getElem_mem hil)
              rw [← h2] at ci
              have hRw := HR.out.1.no (HK2.out.trans HKi.out)
              have hwf := wf_pos (hRw.good.pos e he).1 (hRw.good.pos e he).2
              have HTx : Hid (Calls Try.prog 19 #[.pointer (some ⟨A, 0, none⟩), .int .i64 e.h] wr fun r w' => r = .returned (.tuple #[.string e.s, .bool true]) ∧ Kept No wr w') := by
                have := Text_any hRw e.h hwf
                unfold textV at this
                rw [lookE_mem hRw.good.hnd he] at this; exact this
              have HFd : Hid (∀ W, Kept No wr W → Calls Try.prog 17 #[.pointer (some ⟨A, 0, none⟩), .string e.s] W fun r w' => r = .returned (.tuple #[.int .i64 e.h, .bool true]) ∧ Kept No W w') := fun W hW => by
                have := Find_any (hRw.no hW) e.s (hRw.good.siz e he)
                unfold findV at this
                rw [find_in_chain (n := 0) (h := 0) hRw.good.snd he rfl] at this
                exact this.mono (fun r w' ⟨h3, m, h4⟩ => ⟨h3, by rw [h4]; exact (Kept.refl _ _).drewN m⟩)
              have HHs : Hid (∀ W, Calls Try.prog 25 #[.string e.s] W fun r w' => r = .returned (.int .u32 (hashL e.s.data.toList)) ∧ W = w') := fun W => Hash_any e.s W (hRw.good.siz e he)
              have HCi : Hid (∀ W, Kept No wr W → W.cell? ⟨g, i, none⟩ = some (.int .i64 e.h)) := fun W hW => hW.cell ci
              have hx := hash_bd e.s.data.toList
              have HBe : Hid (bk e.s n = b) := h1
              unfold bk at h1
              generalize hashL e.s.data.toList = x at HHs hx h1
              have hmod : Int.tmod x (n : Int) = (b : Int) := by
                rw [Int.tmod_eq_emod_of_nonneg hx.1]
                have e3 : x = ((x.toNat : Nat) : Int) := by omega
                rw [e3, ← Int.natCast_emod, h1]
              have hmod' : x % (n : Int) = (b : Int) := by
                have e3 : x = ((x.toNat : Nat) : Int) := by omega
                rw [e3, ← Int.natCast_emod, h1]
              have hn0 : (n : Int) ≠ 0 := by omega
              have hbb : ((b : Int) != (b : Int)) = false := by simp
              generalize e.h = y at ci HTx HFd HCi
              generalize e.s = s at HTx HFd HHs
              clear h1 h2 he hRw hwf
              go_wp2_with fail
              refine Calls.mono HTx.out ?_
              rintro r w3 ⟨rfl, hk3⟩
              have HK3 : Hid (Kept No wr w3) := hk3
              clear hk3 HTx
              go_wp2_with fail
              refine Calls.mono (HFd.out _ HK3.out) ?_
              rintro r w4 ⟨rfl, hk4⟩
              have HK4 : Hid (Kept No wr w4) := HK3.out.trans hk4
              have c4 := HCi.out w4 HK4.out
              have HB4 : Hid _ := HBk.out w4 (HK2.out.trans (HKi.out.trans HK4.out))
              clear hk4 HFd ci HCi
              go_wp2_with (first | (go_at_call 25; refine (HHs.out _).mono ?_; rintro e w' ⟨rfl, rfl⟩) | (go_at_call 16; refine Calls.mono HB4.out ?_; rintro e w' ⟨rfl, rfl⟩))
              go_round
              case rel => exact ⟨i + 1, by omega, by first | rfl | go_num, HKi.out.trans HK4.out⟩
              case measure => simp [ivO] <;> omega
          · have k2 : ¬ (i : Int) < (l.length : Int) := by omega
            go_wp2
            go_round
            case rel => exact ⟨b + 1, by omega, by rw [HSu.out]; first | rfl | go_num, by first | rfl | go_num, HK2.out.trans HKi.out⟩
            case measure => simp [ivO] <;> omega
      · have k1 : ¬ (b : Int) < (n : Int) := by omega
        obtain rfl : b = n := by omega
        have HLw : Hid _ := HLn.out wr HK.out
        have hall := sumC_all (n := b) (by omega) E
        rw [hall]
        clear hall hsm
        have hee : (((E.length : Nat) : Int) == ((E.length : Nat) : Int)) = true := by simp
        go_wp2_with (first | (go_at_call 16; refine Calls.mono HB1.out ?_; rintro e w' ⟨rfl, rfl⟩) | (go_at_call 15; refine Calls.mono HLw.out ?_; rintro e w' ⟨rfl, rfl⟩))
        refine (alive_any _).mono ?_
        rintro e w5 ⟨rfl, hk5⟩
        have HF : Hid (Kept No w w5) := HR.out.2.trans (HK.out.trans hk5)
        clear hk5
        go_wp2
        go_ret
        exact ⟨rfl, HF.out⟩
end Go.Proofs.Ytnfamebihpnjlaa
