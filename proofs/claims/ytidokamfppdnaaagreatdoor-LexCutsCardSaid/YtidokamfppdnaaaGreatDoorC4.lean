/- A cutter in memory; a token cut out. -/
import Derived.Test.YtidokamfppdnaaaGreatDoorC3
import Derived.Test.YtidokamfppdnaaaGreatDoorN5
import Derived.Test.YtidokamfppdnaaaGreatDoorU1
namespace Go.Proofs.YtidokamfppdnaaaGreatDoor
open Go.RowKit
set_option linter.unusedSimpArgs false
set_option linter.unusedVariables false

/-- A token. -/
structure Tk where
  k : Int
  t : ByteArray
  vt : Int
  vn : Int
  sy : ByteArray
  a : Int
  e : Int
/-- .. as a value. -/
def tv (x : Tk) : Value := .agg #[.int .i64 x.k, .string x.t, .int .i64 x.vt, .int .i64 x.vn, .string x.sy, .int .i64 x.a, .int .i64 x.e]
/-- No token. -/
def t0 : Tk := ⟨0, ⟨#[]⟩, 0, 0, ⟨#[]⟩, 0, 0⟩
def mth (f c : Nat) : Value := .func (.func f) #[.pointer (some ⟨c, 0, none⟩)] #[]
/-- A cutter. -/
structure Cu (w : World) (c : Nat) (s : ByteArray) : Prop where
  ex : ∃ M K, w.heap[c]? = some (.cells #[.string s, .map (some M), .slice (some ⟨K, 0, none⟩) 4 4] 47 (0, 0)) ∧ w.heap[K]? = some (.cells #[mth 16 c, mth 17 c, mth 18 c, mth 19 c] 40 (0, 0)) ∧ WIs w M 18 wordsL
theorem Cu.no {w w' : World} {c : Nat} {s : ByteArray} (h : Cu w c s) (hk : Kept No w w') : Cu w' c s := by
  obtain ⟨M, K, h1, h2, h3⟩ := h.ex
  exact ⟨M, K, hk.heap h1 id, hk.heap h2 id, h3.no hk⟩
theorem Cu.src {w : World} {c : Nat} {s : ByteArray} (h : Cu w c s) : w.cell? ⟨c, 0, none⟩ = some (.string s) := by
  obtain ⟨M, K, h1, h2, h3⟩ := h.ex
  rw [cell_of h1]; rfl

set_option maxHeartbeats 1000000 in
theorem cut_any {w : World} {c : Nat} {s : ByteArray} (h : Cu w c s) (k : Int) (a e : Nat) (hae : a ≤ e) (he : e ≤ s.size) (hs : s.size ≤ 100000) :
    Calls Tryz.prog 31 #[.pointer (some ⟨c, 0, none⟩), .int .i64 k, .int .i64 (a : Int), .int .i64 (e : Int)] w fun r w' => r = .returned (tv ⟨k, s.extract a e, 0, 0, ⟨#[]⟩, a, e⟩) ∧ Kept No w w' := by
  have c1 : ∀ o, (w.alloc o).cell? ⟨c, 0, none⟩ = some (.string s) := fun o => (h.no ((Kept.refl No w).alloc o)).src
  have q1 : (a : Int) ≤ (e : Int) := by omega
  have q2 : (e : Int) ≤ (s.size : Int) := by omega
  clear h
  go_enter Tryz.func31, Tryz.ntmps31
  go_wp2
  refine bodyPost_ret (v := tv ⟨k, s.extract a e, 0, 0, ⟨#[]⟩, a, e⟩) (by simp [results, Tryz.results31, go_sem, tv]) rfl ⟨rfl, ?_⟩
  exact (Kept.refl No w).alloc _
end Go.Proofs.YtidokamfppdnaaaGreatDoor
