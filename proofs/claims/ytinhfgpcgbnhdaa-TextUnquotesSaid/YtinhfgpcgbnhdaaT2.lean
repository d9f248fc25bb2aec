/- Quote: a byte as a quote has it, a text between quotation marks. -/
import Derived.Test.YtinhfgpcgbnhdaaT1
import Derived.Lib.AppendStr
import Derived.Deep.AppendLies
import Derived.Deep.RegionHeld3
import Derived.Laws.BytesArg
namespace Go.Proofs.Ytinhfgpcgbnhdaa
open Go.RowKit

/-- Bytes as cells. -/
def bc (l : List Nat) : List Value := l.map fun (n : Nat) => .int .u8 (n : Int)
/-- The sixteen digits. -/
def dg (n : Nat) : Nat := if n < 10 then 48 + n else 87 + n
/-- A byte as it stands in a quote. -/
def qb (c : Nat) : List Nat := if pl c then [c] else [92, 120, dg (c / 16), dg (c % 16)]

theorem qb_plain {c : Nat} (h : pl c = true) : qb c = [c] := by simp [qb, h]
theorem qb_hex {c : Nat} (h : pl c = false) : qb c = [92, 120, dg (c / 16), dg (c % 16)] := by simp [qb, h]
theorem bc_one (l : List Nat) : ∀ u ∈ bc l, u.oneCell' = true := by
  intro u hu; simp only [bc, List.mem_map] at hu; obtain ⟨n, _, rfl⟩ := hu; rfl
theorem bc_append (a b : List Nat) : bc (a ++ b) = bc a ++ bc b := by simp [bc]

theorem info5 : (Try.prog.info? 5).map (fun i => (i.zero, i.size, i.bytes)) = some (some (.int .u8 0), 1, 1) := by kernel_rfl

abbrev digs : ByteArray := ⟨#[48, 49, 50, 51, 52, 53, 54, 55, 56, 57, 97, 98, 99, 100, 101, 102]⟩
theorem digs_get : ∀ (i : Nat) (h : i < digs.size), digs[i].toNat = dg i := by decide

theorem below_own {w w' : World} {base e size n g cap : Nat} {xs : List Value} (hg : w.grownBy w' (Value.ownBlock (.slice (some ⟨g, 0, none⟩) n cap))) (hown : w.ownsRow base e size (.slice (some ⟨g, 0, none⟩) n cap) n xs) (hb : base ≤ w.heap.size) : Below base w w' := by
  have hl := hown.lt g rfl
  exact (Below.refl _ _).grown hg hb (fun k hk => by simp [Value.ownBlock] at hk; omega)

set_option maxHeartbeats 1000000 in
theorem appendByte_any (base n g cap : Nat) (xs : List Nat) (c : Nat) (w : World) (hc : c < 256) (hown : w.ownsRow base 5 1 (.slice (some ⟨g, 0, none⟩) n cap) n (bc xs)) (hb : base ≤ w.heap.size) (hn : n ≤ 20000) :
    Calls Try.prog 31 #[.slice (some ⟨g, 0, none⟩) n cap, .int .u8 c] w fun e w' => ∃ g' cap', e = .returned (.slice (some ⟨g', 0, none⟩) (n + (qb c).length) cap') ∧
      w'.ownsRow base 5 1 (.slice (some ⟨g', 0, none⟩) (n + (qb c).length) cap') (n + (qb c).length) (bc (xs ++ qb c)) ∧ Below base w w' := by
  obtain ⟨i0, hi, hz0, hz1, hz2⟩ := info_parts info5
  have HO : Hid (w.ownsRow base 5 1 (.slice (some ⟨g, 0, none⟩) n cap) n (bc xs)) := hown
  clear hown
  cases hp : pl c
  · have HQ : Hid (qb c = [92, 120, dg (c / 16), dg (c % 16)]) := qb_hex hp
    obtain ⟨h, hh⟩ : ∃ h : Nat, h = c / 16 := ⟨_, rfl⟩
    obtain ⟨l, hl⟩ : ∃ l : Nat, l = c % 16 := ⟨_, rfl⟩
    have h1 : (c : Int) / 16 = (h : Int) := by omega
    have l1 : bits .and .u8 (c : Int) 15 = (l : Int) := by
      rw [u8_and (c : Int) 15 (by omega) (by omega) (by decide) (by decide)]
      have e : (c : Int).toNat &&& (15 : Int).toNat = c % 16 := by
        rw [Int.toNat_natCast]; exact Nat.and_two_pow_sub_one_eq_mod c 4
      rw [e, hl]
    have h2 : h < 16 := by omega
    have l2 : l < 16 := by omega
    have HH : Hid (h = c / 16) := hh
    have HL : Hid (l = c % 16) := hl
    clear hh hl
    have h3 : (0 : Int) ≤ (h : Int) := by omega
    have h4 : (h : Int) < 16 := by omega
    have l3 : (0 : Int) ≤ (l : Int) := by omega
    have l4 : (l : Int) < 16 := by omega
    have h5 : h < digs.size := h2
    have l5 : l < digs.size := l2
    have HG : Hid (digs[h].toNat = dg h ∧ digs[l].toNat = dg l) := ⟨digs_get h h5, digs_get l l5⟩
    go_enter Try.func31, Try.ntmps31
    go_wp2_with (first | (go_at_call 34; refine (plain_any _ _).mono ?_; rintro e w' ⟨rfl, rfl⟩) | (at_builtin; refine Lib.wpList_append_own_string _ rfl (.tmp 11) (.const (.string ⟨#[92, 120]⟩)) 48 9 rfl base 5 i0 Try.underlying48 Try.underlying9 hi hz0 hz1 hz2 _ n (bc xs) rfl HO.out ⟨#[92, 120]⟩ rfl ?_ ?_ ?_ ?_))
    · show n + 2 ≤ 2 ^ 63 - 1; omega
    · show n + 2 ≤ _; omega
    · exact hb
    · intro v1 w1 hown1 hgrow1 _
      obtain ⟨g1, cap1, rfl, _, _⟩ := hown1.form (by show 0 < n + 2; omega)
      have HB : Hid (Below base w w1) := below_own hgrow1 HO.out hb
      have hb1 : base ≤ w1.heap.size := Nat.le_trans hb (by have := HB.out.size; exact this)
      have HO1 : Hid (w1.ownsRow base 5 1 (.slice (some ⟨g1, 0, none⟩) (n + 2) cap1) (n + 2) (bc (xs ++ [92, 120]))) := by
        show World.ownsRow _ _ _ _ _ _ _; rw [bc_append]; exact hown1
      clear hown1 hgrow1
      go_wp2
      go_region_held3 (fun _ => True) (trivial) ((refine step_append_lies _ (by rfl) _ _ _ (by rfl) base 5 i0 _ 1 1 Try.underlying48 hi hz0 hz1 hz2 rfl (by omega) _ (n + 2) (bc (xs ++ [92, 120])) (by rfl) ((HO1.out.alloc _).drew) ⟨w1.heap.size, 0, none⟩ 2 2 [.int .u8 digs[h].toNat, .int .u8 digs[l].toNat] (by rfl) (by rfl) (World.news_of_block (cs := #[.int .u8 digs[h].toNat, .int .u8 digs[l].toNat]) (t := 5) (fr := (0, 0)) (heap_alloc_new w1 _)) (by simp [Value.oneCell']) (by omega) (by unfold maxLen; omega) (by omega) (by simp; omega) (w1.heap.size + 1) (by simp) ?_; intro g2 cap2 w2 hown2 hgrow2 _ _))
      all_goals
        have HB2 : Hid (Below base w w2) := HB.out.trans ((((Below.refl base w1).alloc hb1 _).drew).trans (below_own hgrow2 ((HO1.out.alloc _).drew) (by simp; omega)))
        have HO2 : Hid (w2.ownsRow base 5 1 (.slice (some ⟨g2, 0, none⟩) (n + 4) cap2) (n + 4) (bc (xs ++ [92, 120, dg (c / 16), dg (c % 16)]))) := by
          have e : bc (xs ++ [92, 120, dg (c / 16), dg (c % 16)]) = bc (xs ++ [92, 120]) ++ [.int .u8 digs[h].toNat, .int .u8 digs[l].toNat] := by
            rw [HG.out.1, HG.out.2, HH.out, HL.out]; simp [bc]
          show World.ownsRow _ _ _ _ _ _ _; rw [e]; exact hown2
        clear hown2 hgrow2
        go_wp2
        go_ret
        rw [HQ.out]
        exact ⟨g2, cap2, rfl, HO2.out, HB2.out⟩
  · have HQ : Hid (qb c = [c]) := qb_plain hp
    go_enter Try.func31, Try.ntmps31
    go_wp2_with (first | (go_at_call 34; refine (plain_any _ _).mono ?_; rintro e w' ⟨rfl, rfl⟩) | (at_builtin; refine wpList_append_lies _ rfl _ _ 48 rfl base 5 i0 (.int .u8 0) 1 1 Try.underlying48 hi hz0 hz1 hz2 rfl (by decide) _ n (bc xs) rfl (HO.out.alloc _) ⟨w.heap.size, 0, none⟩ 1 1 [.int .u8 c] rfl rfl ?_ ?_ (by decide) ?_ ?_ ?_ (w.heap.size + 1) ?_ ?_))
    · exact World.news_of_block (cs := #[.int .u8 c]) (t := 5) (fr := (0, 0)) (heap_alloc_new w _)
    · exact bc_one [c]
    · unfold maxLen; omega
    · omega
    · simp; omega
    · simp
    · intro g1 cap1 w1 hown1 hgrow1 _ _
      have HB : Hid (Below base w w1) := ((Below.refl _ _).alloc hb _).trans (below_own hgrow1 (HO.out.alloc _) (by simp; omega))
      have HO1 : Hid (w1.ownsRow base 5 1 (.slice (some ⟨g1, 0, none⟩) (n + 1) cap1) (n + 1) (bc (xs ++ [c]))) := by
        show World.ownsRow _ _ _ _ _ _ _; rw [bc_append]; exact hown1
      clear hown1 hgrow1
      go_wp2
      go_ret
      rw [HQ.out]
      exact ⟨g1, cap1, rfl, HO1.out, HB.out⟩
end Go.Proofs.Ytinhfgpcgbnhdaa
