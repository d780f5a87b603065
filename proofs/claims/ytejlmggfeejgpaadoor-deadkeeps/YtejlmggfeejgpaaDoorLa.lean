/- The sweep in memory: set, get. -/
import Derived.Test.YtejlmggfeejgpaaDoorKa
import Derived.Test.YtejlmggfeejgpaaDoorBx
import Derived.Lib.SliceRun
namespace Go.Proofs.YtejlmggfeejgpaaDoor
open Go.RowKit
set_option linter.unusedVariables false
set_option linter.unusedSimpArgs false
set_option maxRecDepth 8000

/-- A sweep's cells: what is seen, what is set anew. -/
def swA (sv : Value) (S : List Bool) : Array Value := (sv :: S.map Value.bool).toArray
def anewL (t : List Opr) : List Bool := (List.range 37).map (fun n => anew n t)
theorem anewL_len (t : List Opr) : (anewL t).length = 37 := by simp [anewL]
theorem anewL_at (t : List Opr) {n : Nat} (h : n < 37) : (anewL t)[n]? = some (anew n t) := by
  unfold anewL
  rw [List.getElem?_map, List.getElem?_range h]; rfl
theorem sw_get (sv : Value) {S : List Bool} {n : Nat} {b : Bool} (h : S[n]? = some b) : (swA sv S)[n + 1]? = some (.bool b) := by
  unfold swA
  simp [h]
theorem sw_set (sv : Value) (S : List Bool) (n : Nat) (b : Bool) : (swA sv S).setIfInBounds (n + 1) (.bool b) = swA sv (S.set n b) := by
  unfold swA
  simp [List.map_set]
theorem sw_zero (sv : Value) (S : List Bool) : (swA sv S)[0]? = some sv := rfl
/-- What a sweep's method leaves. -/
def SwT (p : Nat) (sv : Value) (S : List Bool) (w w' : World) : Prop := w'.heap[p]? = some (.cells (swA sv S) 68) ∧ Goes (fun k => k = p) w w'
/-- 'clear' on a slice of a row of one's own, of one-cell elements. -/
theorem run_clear_row (w : World) (t e ty : TypeId) (z : Value) (ht : Tryd.prog.underlying t = some (.slice e)) (hv : ∀ w, (zeroValue e).run Tryd.prog w = .ok z w) (hz : z.cells = #[z]) (h1 : z.oneCell' = true) (b o n c q : Nat) (cur : Array Value) (hg : w.heap[b]? = some (.cells cur q)) (hn : 0 < n) (hfit : o + n ≤ cur.size) :
    (Builtin.clear_ #[t] ty #[.slice (some ⟨b, o, none⟩) n c]).run Tryd.prog w = .ok (.tuple #[]) (w.setRow b (cur.toList.take o ++ List.replicate n z ++ cur.toList.drop (o + n)).toArray) := by
  have hzc : (Builtin.zeroCells z.cells n).toList = List.replicate n z := by
    rw [hz]
    simp [Builtin.zeroCells]
    apply List.ext_getElem
    · simp
    · intro i h1 h2
      simp [Nat.mod_one]
  have hst := run_storeCells_at (P := Tryd.prog) b o q (List.replicate n z) 0 cur w hg (by simpa using hfit) (by intro v hv'; rw [List.eq_of_mem_replicate hv']; exact h1)
  simp only [Nat.add_zero, List.length_replicate] at hst
  obtain ⟨m, rfl⟩ : ∃ m, n = m + 1 := ⟨n - 1, by omega⟩
  simp [Builtin.clear_, run_underlying ht, hv, hzc, hst]
theorem zeroB (w : World) : (zeroValue 4).run Tryd.prog w = .ok (.bool false) w := by kernel_rfl
section
variable {w w' : World} {p : Nat} {sv : Value} {S : List Bool} {n : Nat} {x : Bool}
theorem SwT.set (hp : w.heap[p]? = some (.cells (swA sv S) 68)) (b : Bool) : SwT p sv (S.set n b) w (w.setCell ⟨p, n + 1, none⟩ (.bool b)) := by
  refine ⟨?_, goes_setCell w (F := fun k => k = p) rfl _ _⟩
  rw [heap_setCell_same w p (n + 1) _ 68 _ hp, sw_set]
theorem set_c (hp : w.heap[p]? = some (.cells (swA sv S) 68)) (hn : n < 37) (hx : S[n]? = some x) : Calls Tryd.prog 43 #[ptr p 0, vI n] w fun e w' => e = .returned (.bool (!x)) ∧ SwT p sv (S.set n true) w w' := by
  have z : w.cell? ⟨p, n + 1, none⟩ = some (.bool x) := by rw [cell_of_row _ _ _ _ _ _ hp]; exact sw_get sv hx
  have z1 : w.cell? ⟨p, 1 + n, none⟩ = some (.bool x) := by rw [Nat.add_comm]; exact z
  have f := frozen_of_row w p (n + 1) _ _ hp
  have f1 : w.frozen? ⟨p, 1 + n, none⟩ = false := frozen_of_row w p (1 + n) _ _ hp
  have hlt : (n : Int) < 37 := by omega
  go_enter Tryd.func43, Tryd.ntmps43
  go_wp2
  go_ret
  refine ⟨rfl, ?_⟩
  have := SwT.set (n := n) hp true
  rwa [Nat.add_comm n 1] at this
theorem get_c (hp : w.heap[p]? = some (.cells (swA sv S) 68)) (hn : n < 37) (hl : S.length = 37) : Calls Tryd.prog 44 #[ptr p 0, vI n] w fun e w' => (∃ v, e = .returned v) ∧ SwT p sv (S.set n false) w w' := by
  obtain ⟨x, hx⟩ : ∃ x, S[n]? = some x := ⟨S[n], List.getElem?_eq_getElem (by omega)⟩
  have z : w.cell? ⟨p, n + 1, none⟩ = some (.bool x) := by rw [cell_of_row _ _ _ _ _ _ hp]; exact sw_get sv hx
  have z1 : w.cell? ⟨p, 1 + n, none⟩ = some (.bool x) := by rw [Nat.add_comm]; exact z
  have f1 : w.frozen? ⟨p, 1 + n, none⟩ = false := frozen_of_row w p (1 + n) _ _ hp
  have hlt : (n : Int) < 37 := by omega
  go_enter Tryd.func44, Tryd.ntmps44
  go_wp2
  go_end0
  refine ⟨⟨_, rfl⟩, ?_⟩
  have := SwT.set (n := n) hp false
  rwa [Nat.add_comm n 1] at this
end
end Go.Proofs.YtejlmggfeejgpaaDoor
