/- m[k] op= v: the entry is made or found, then its value is stored; together they are the map's update. -/
import Derived.Maps.OwnSet
import Derived.Maps.OwnIn
import Derived.Test.YtgkgpjbbmnfnmaaGreatDoorRows
namespace Go.Proofs.YtgkgpjbbmnfnmaaGreatDoor
open Go.ChangeShapes Go.WideShapes Go.MapKept Go.Maps
open Go.ChangeMaps (setBlock modify_eq_set)
open Go.WideElems (Fit)
set_option linter.unusedSimpArgs false
set_option linter.unusedVariables false

theorem heap_set2 {w : World} {b : Nat} {o o1 : Obj} (o2 : Obj) (h : w.heap[b]? = some o) : setBlock (setBlock w b o1) b o2 = setBlock w b o2 := by
  unfold setBlock
  simp [Array.setIfInBounds_setIfInBounds]
theorem born_new {es : Array MapEntry} {clock : Nat} (hs : Stamped es clock) (x : MapEntry) (hx : x.born = clock) : (es.push x).findIdx? (fun e => (e.born : Int) == (clock : Int)) = some es.size := by
  rw [Array.findIdx?_eq_some_iff_getElem]
  refine ⟨by simp, by simp [hx], fun j hj => ?_⟩
  have h1 : j < es.size := hj
  rw [Array.getElem_push_lt h1]
  have := hs.1 es[j] (by simp)
  simp
  omega
theorem born_old {es : Array MapEntry} {clock : Nat} (hs : Stamped es clock) {j : Nat} {e0 : MapEntry} (hj : es[j]? = some e0) : es.findIdx? (fun e => (e.born : Int) == (e0.born : Int)) = some j := by
  obtain ⟨hl, he⟩ := Array.getElem?_eq_some_iff.1 hj
  rw [Array.findIdx?_eq_some_iff_getElem]
  refine ⟨hl, by simp [he], fun i hi => ?_⟩
  have hil : i < es.size := Nat.lt_trans hi hl
  have hn := hs.2.1
  have h2 := (List.nodup_iff_pairwise_ne.1 hn)
  have h3 := List.pairwise_iff_getElem.1 h2 i j (by simpa using hil) (by simpa using hl) hi
  simp only [List.getElem_map, Array.getElem_toList] at h3
  rw [he] at h3
  simp
  omega

variable {H : Type} {P : Program} {k t e : TypeId} {R : Value → Option (DataW H × List MemPlace)}
theorem entry_store {w : World} {b : Nat} {es : Array MapEntry} {clock : Nat} (K : Keyed P k) (ht : P.underlying t = some (.map k e)) (hb : w.heap[b]? = some (.map es clock)) (F : Fit P k R es clock) {key val z : Value} {kl : Lit} (hkey : keyOf P k key = some kl) (hz : (zeroValue e).run P w = .ok z w) :
    ∃ zz stamp es1 c1 es' clock', (Instr.mapEntry t (.map (some b)) key).run P w = .ok (.tuple #[zz, .int .i64 stamp]) (setBlock w b (.map es1 c1)) ∧
      (Instr.entryStore t (.map (some b)) (.int .i64 stamp) val).run P (setBlock w b (.map es1 c1)) = .ok () (setBlock w b (.map es' clock')) ∧
      (Instr.mapUpdate t (.map (some b)) key val).run P w = .ok () (setBlock w b (.map es' clock')) ∧
      (Instr.lookup t (.map (some b)) key false).run P w = .ok zz w ∧ (Instr.lookup t (.map (some b)) key false).run P (setBlock w b (.map es1 c1)) = .ok zz (setBlock w b (.map es1 c1)) := by
  have hset : ∀ o, (setBlock w b o).heap[b]? = some o := fun o => (heap_set hb).1
  rcases K.find w hkey es.toList F.keys with ⟨h1, h2⟩ | ⟨j, e0, h1, h2, h3⟩
  · refine ⟨z, (clock : Int), es.push ⟨key, z, clock⟩, clock + 1, es.push ⟨key, val, clock⟩, clock + 1, ?_, ?_, ?_, ?_, ?_⟩
    · simp [Instr.mapEntry, run_underlying ht, Go.MapKept.run_getObj_map hb, K.check w false hkey, h1, hz, Go.MapKept.run_setObj_map _ hb, Result.andThen, setBlock, goInt]
    · have e1 := born_new F.stamped ⟨key, z, clock⟩ rfl
      have e2 : (es.push ⟨key, z, clock⟩).modify es.size (fun e => { e with val := val }) = es.push ⟨key, val, clock⟩ := by
        apply Array.ext'
        rw [Array.toList_modify, Array.toList_push, Array.toList_push, modify_eq_set _ _ _ ⟨key, z, clock⟩ (by simp)]
        simp
      simp only [Instr.entryStore, Sem.run_bind, Go.MapKept.run_getObj_map (hset _), Result.andThen, asInt, asIntOf, Sem.run_pure, e1, Go.MapKept.run_setObj_map _ (hset _), e2]
      exact congrArg (Result.ok ()) (heap_set2 _ hb)
    · simp [Instr.mapUpdate, run_underlying ht, Go.MapKept.run_getObj_map hb, K.check w false hkey, h1, Go.MapKept.run_setObj_map _ hb, Result.andThen, setBlock]
    · simp [Instr.lookup, run_underlying ht, Go.MapKept.run_getObj_map hb, K.check w _ hkey, h1, hz, Result.andThen]
    · have hk1 : ∀ x ∈ (es.push ⟨key, z, clock⟩).toList, ∃ kl, keyOf P k x.key = some kl := by
        intro x hx
        simp only [Array.toList_push, List.mem_append, List.mem_singleton] at hx
        rcases hx with hx | rfl
        · exact F.keys x hx
        · exact ⟨kl, hkey⟩
      have hf : (Instr.findKey k key (es.push ⟨key, z, clock⟩).toList).run P (setBlock w b (.map (es.push ⟨key, z, clock⟩) (clock + 1))) = .ok (some (es.size, z)) (setBlock w b (.map (es.push ⟨key, z, clock⟩) (clock + 1))) := by
        rcases K.find (setBlock w b (.map (es.push ⟨key, z, clock⟩) (clock + 1))) hkey _ hk1 with ⟨g1, g2⟩ | ⟨j, e0, g1, g2, g3⟩
        · exact absurd rfl (g2 ⟨key, z, clock⟩ (by simp))
        · rw [g1]
          obtain ⟨hl, he⟩ := List.getElem?_eq_some_iff.1 g2
          by_cases hj : j < es.size
          · exfalso
            have : e0 ∈ es.toList := by
              rw [← he]
              simp only [Array.toList_push]
              rw [List.getElem_append_left (by simpa using hj)]
              exact List.getElem_mem _
            exact h2 e0 this g3
          · have hj2 : j = es.size := by simp at hl; omega
            subst hj2
            simp at he
            rw [← he]
      simp only [Array.toList_push] at hf
      simp [Instr.lookup, run_underlying ht, Go.MapKept.run_getObj_map (hset _), K.check _ _ hkey, hf, Result.andThen]
  · have hj : es[j]? = some e0 := by simpa using h2
    refine ⟨e0.val, (e0.born : Int), es.modify j (fun e' => { e' with key := key }), clock, es.modify j (fun e' => { e' with key := key, val := val }), clock, ?_, ?_, ?_, ?_, ?_⟩
    · simp [Instr.mapEntry, run_underlying ht, Go.MapKept.run_getObj_map hb, K.check w false hkey, h1, hj, h3, K.stays w hkey, Go.MapKept.run_setObj_map _ hb, Result.andThen, setBlock, goInt]
    · have hm : es.modify j (fun e' => { e' with key := key }) = es := by
        apply Array.ext'
        rw [Array.toList_modify, modify_eq_set _ _ _ _ h2, ← h3]
        obtain ⟨hl, he⟩ := List.getElem?_eq_some_iff.1 h2
        rw [← he]
        exact List.set_getElem_self hl
      have e1 := born_old F.stamped hj
      have e2 : es.modify j (fun e => { e with val := val }) = es.modify j (fun e' => { e' with key := key, val := val }) := by
        apply Array.ext'
        rw [Array.toList_modify, Array.toList_modify, modify_eq_set _ _ _ _ h2, modify_eq_set _ _ _ _ h2, ← h3]
      rw [hm]
      simp only [Instr.entryStore, Sem.run_bind, Go.MapKept.run_getObj_map (hset _), Result.andThen, asInt, asIntOf, Sem.run_pure, e1, Go.MapKept.run_setObj_map _ (hset _), e2]
      exact congrArg (Result.ok ()) (heap_set2 _ hb)
    · simp [Instr.mapUpdate, run_underlying ht, Go.MapKept.run_getObj_map hb, K.check w false hkey, h1, hj, h3, K.stays w hkey, Go.MapKept.run_setObj_map _ hb, Result.andThen, setBlock]
    · simp [Instr.lookup, run_underlying ht, Go.MapKept.run_getObj_map hb, K.check w _ hkey, h1, Result.andThen]
    · have hm : es.modify j (fun e' => { e' with key := key }) = es := by
        apply Array.ext'
        rw [Array.toList_modify, modify_eq_set _ _ _ _ h2, ← h3]
        obtain ⟨hl, he⟩ := List.getElem?_eq_some_iff.1 h2
        rw [← he]
        exact List.set_getElem_self hl
      rw [hm]
      have hf : (Instr.findKey k key es.toList).run P (setBlock w b (.map es clock)) = .ok (some (j, e0.val)) (setBlock w b (.map es clock)) := by
        rcases K.find (setBlock w b (.map es clock)) hkey es.toList F.keys with ⟨g1, g2⟩ | ⟨j', e', g1, g2, g3⟩
        · exact absurd h3 (g2 e0 (List.mem_of_getElem? h2))
        · by_cases hjj : j' = j
          · subst hjj
            rw [h2] at g2; cases g2
            exact g1
          · exact absurd (g3.trans h3.symm) (Go.WideElems.other_key F h2 g2 (fun e => hjj e))
      simp [Instr.lookup, run_underlying ht, Go.MapKept.run_getObj_map (hset _), K.check _ _ hkey, hf, Result.andThen]
end Go.Proofs.YtgkgpjbbmnfnmaaGreatDoor
