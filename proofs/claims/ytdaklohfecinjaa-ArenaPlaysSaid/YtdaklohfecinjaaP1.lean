/- Handles: the handles of an arena, rising. -/
import Derived.Test.YtdaklohfecinjaaK1
import Derived.Test.YtdaklohfecinjaaSh
namespace Go.Proofs.Ytdaklohfecinjaa
open Go.RowKit Go.Maps Go.Sort Go.Shelf
set_option linter.unusedSimpArgs false
set_option linter.unusedVariables false

/-- slices.Sort's two contracts here. -/
theorem sortsA (m : Nat) : AnyZI.SortsIn Try.prog Try.sortedA_ren Fence.wide m :=
  ⟨fun blk off cap ss W hH hblk hsz => callsIn_wide.2 (AnyM.slices_Sort_int Try.sortA blk off cap ss W hH hblk hsz),
   fun p cap W => callsIn_wide.2 (AnyM.slices_Sort_int_none Try.sortA p cap W)⟩

/-- Handles as ints. -/
def hs (hb : List (Nat × Nd)) : List Int := hb.map fun x => (x.1 : Int)
/-- .. rising. -/
def hsS (hb : List (Nat × Nd)) : List Int := (hs hb).mergeSort fun x y => decide (x ≤ y)

theorem hs_nodup {hb : List (Nat × Nd)} (h : (hb.map Prod.fst).Nodup) : (hs hb).Nodup := by
  unfold hs
  rw [List.Nodup, List.pairwise_map] at h ⊢
  exact h.imp (fun {a b} h1 e => h1 (by omega))

theorem look_isSome {hb : List (Nat × Nd)} (hnd : (hb.map Prod.fst).Nodup) (i : Int) : i ∈ hs hb ↔ (look hb i).isSome = true := by
  constructor
  · intro h
    obtain ⟨x, hx, rfl⟩ := List.mem_map.1 h
    rw [look_mem hnd hx]; rfl
  · intro h
    obtain ⟨p, hp⟩ := Option.isSome_iff_exists.1 h
    obtain ⟨x, hx, h1, _⟩ := look_some hp
    exact List.mem_map.2 ⟨x, hx, h1⟩

theorem perm_of {w : World} {M n : Nat} {hb : List (Nat × Nd)} (h : MapIs w M n (look hb)) (hnd : (hb.map Prod.fst).Nodup) :
    ∃ D : DataW Unit, w.ownsMap Try.prog 3 pR M n D ∧ (hs hb).Perm (intKeys D) ∧ Maps.size D = hb.length := by
  obtain ⟨D, ho, hD⟩ := h
  refine ⟨D, ho, ?_⟩
  obtain ⟨es, hE, hpw, _⟩ := ho.entries keyed3
  obtain ⟨es', hE', hko⟩ := ho.keysOf
  obtain rfl : es = es' := by rw [hE] at hE'; simpa using hE'
  subst hE
  have hp : (hs hb).Perm (intKeys (.map es)) := perm_intKeys hpw (fun p hp => by
    obtain ⟨v, hv⟩ := hko p hp
    obtain ⟨x, _, hx, _⟩ := Maps.keyOf_i64 Try.underlying3 hv
    exact ⟨x, hx⟩) (hs_nodup hnd) (fun x => by rw [look_isSome hnd, ← (hD x).2])
  refine ⟨hp, ?_⟩
  have h1 := hp.length_eq
  have h2 : (intKeys (DataW.map es)).length = es.length := by simp [intKeys]
  have h3 : (hs hb).length = hb.length := by simp [hs]
  show es.length = hb.length
  omega

set_option maxHeartbeats 1000000 in
theorem Handles_any {w : World} {A C M F f size least nn : Nat} {cs : List Int} {hb : List (Nat × Nd)} (h : Rp w A C M F f size least nn cs hb) :
    Calls Try.prog 23 #[.pointer (some ⟨A, 0, none⟩)] w fun e w' => ∃ v : Value, e = .returned v ∧ w'.ownsRow w.heap.size 3 1 v hb.length ((hsS hb).map (Value.int .i64)) ∧ Below w.heap.size w w' := by
  obtain ⟨D, hown, hperm, hsize⟩ := perm_of h.map h.hnd
  have HA : Hid (w.heap[A]? = some (ar C M F f size least)) := h.hA
  obtain ⟨a0, a1, a2, a3, a4⟩ := ar_cells h.hA
  have hlb := h.length_le
  have hsz := h.sz
  clear h
  refine (callsIn_wide (n := 6)).1 ?_
  have hbl := hown.lt
  have hseq : SeqGives Fence.wide 2 Try.prog 71 #[.pointer (some ⟨w.heap.size, 0, none⟩)] encZ (fun ss => ss.Perm (intKeys D)) (Maps.size D) (w.alloc (.cells #[.map (some M)] 62)) :=
    AnyZI.keys_gives (ρ := Try.keysA_ren) { Try.keysA with } Fence.wide _ trivial rfl (by omega) w.heap.size M nn D _ (by simp) (by simp) (by
      obtain ⟨es, clock, hb, Ft, hs, hD⟩ := hown
      exact ⟨es, clock, (Below.heap_alloc _ _ M hbl).trans hb, Ft, hs, hD⟩)
  have cK : ∀ mb W, CallsIn Fence.wide 5 Try.prog 54 #[.map mb] W fun e w' => e = .returned (.func (.func 71) #[] #[.pointer (some ⟨W.heap.size, 0, none⟩)]) ∧ w' = W.alloc (.cells #[.map mb] 62) := fun mb W => AnyZI.keys_in Try.keysA Fence.wide 5 trivial rfl mb W
  have cS := AnyZI.sorted_in Try.sortedA Fence.wide 5 trivial trivial trivial trivial rfl (by omega) (sortsA _) (enters_of Try.func70 (by kernel_rfl) rfl) 71 #[.pointer (some ⟨w.heap.size, 0, none⟩)] trivial (enters_of Try.func71 (by kernel_rfl) rfl) _ _ (by rw [hsize]; unfold maxLen; omega) (by rw [hsize]; omega) _ hseq
  change CallsIn _ _ Try.prog 53 _ _ _ at cS
  have hfK : Fence.wide.fn 54 := trivial
  have hfS : Fence.wide.fn 53 := trivial
  have hfM : Fence.wide.fn 52 := trivial
  have cM : CallsIn Fence.wide 5 Try.prog 52 #[.pointer (some ⟨A, 0, none⟩)] w fun e w' => e = .returned (.bool true) ∧ w = w' := callsIn_wide.2 (made_any w HA.out)
  refine callsIn_of_wp Try.func23 rfl trivial ?_ rfl
  simp only [Try.ntmps23, List.size_toArray, List.length_cons, List.length_nil, Nat.reduceAdd, Nat.reduceSub, Array.replicate_succ, Array.replicate_zero, List.push_toArray, List.append_toArray, List.nil_append, List.cons_append]
  gi_wp2_with (first
    | (gi_at_call 52; refine cM.mono ?_; rintro e w' ⟨rfl, rfl⟩)
    | (gi_at_call 54; refine (cK _ _).mono ?_; rintro e w' ⟨rfl, rfl⟩)
    | (gi_at_call 53; refine cS.mono ?_; rintro e w' ⟨v, ss, rfl, hS, hrow, hnil, hb2⟩))
  go_ret
  refine ⟨v, rfl, ?_, ((Below.refl _ w).alloc (Nat.le_refl _) _).trans (hb2.mono (by simp))⟩
  have e1 : ss.length = hb.length := by rw [hS.length_eq, ← hperm.length_eq]; simp [hs]
  have e2 : ss.mergeSort (fun x y => decide (x ≤ y)) = hsS hb := mergeSort_of_perm_i (hS.trans hperm.symm)
  have := ownsRow_base_a hrow (base' := w.heap.size) (by simp)
  rw [e1, e2] at this
  exact this
end Go.Proofs.Ytdaklohfecinjaa
