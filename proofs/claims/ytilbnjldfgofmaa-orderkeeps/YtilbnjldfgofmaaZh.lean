/- A row of items without one: its place. -/
import Derived.Test.YtilbnjldfgofmaaZg
namespace Go.Proofs.Ytilbnjldfgofmaa
open Go.RowKit
set_option linter.unusedVariables false
set_option linter.unusedSimpArgs false
set_option maxRecDepth 8000

theorem run_clear_row (w : World) (t e ty : TypeId) (z : Value) (ht : Try.prog.underlying t = some (.slice e)) (hv : ∀ w, (zeroValue e).run Try.prog w = .ok z w) (hz : z.cells = #[z]) (h1 : z.oneCell' = true) (b o n c q : Nat) (cur : Array Value) (hg : w.heap[b]? = some (.cells cur q)) (hn : 0 < n) (hfit : o + n ≤ cur.size) :
    (Builtin.clear_ #[t] ty #[.slice (some ⟨b, o, none⟩) n c]).run Try.prog w = .ok (.tuple #[]) (w.setRow b (cur.toList.take o ++ List.replicate n z ++ cur.toList.drop (o + n)).toArray) := by
  have hzc : (Builtin.zeroCells z.cells n).toList = List.replicate n z := by
    rw [hz]
    simp [Builtin.zeroCells]
    apply List.ext_getElem
    · simp
    · intro i h1 h2
      simp [Nat.mod_one]
  have hst := run_storeCells_at (P := Try.prog) b o q (List.replicate n z) 0 cur w hg (by simpa using hfit) (by intro v hv'; rw [List.eq_of_mem_replicate hv']; exact h1)
  simp only [Nat.add_zero, List.length_replicate] at hst
  obtain ⟨m, rfl⟩ : ∃ m, n = m + 1 := ⟨n - 1, by omega⟩
  simp [Builtin.clear_, run_underlying ht, hv, hzc, hst]
theorem zeroP (w : World) : (zeroValue 62).run Try.prog w = .ok (.pointer none) w := by kernel_rfl
/-- A row of pointers, and what lies behind. -/
def roA (xs : List Nat) (R : List Value) : Array Value := ((xs.map fun i => ptr i 0) ++ R).toArray
theorem roA_get {xs : List Nat} {R : List Value} {k : Nat} (h : k < xs.length) : (roA xs R)[k]? = some (ptr (idAt xs k) 0) := by
  unfold roA
  simp only [List.getElem?_toArray]
  rw [List.getElem?_append_left (by simpa using h), List.getElem?_map, idAt_some h]; rfl
theorem roA_set {xs : List Nat} {R : List Value} {k : Nat} (h : k < xs.length) (x : Nat) : (roA xs R).setIfInBounds k (ptr x 0) = roA (xs.set k x) R := by
  unfold roA
  rw [List.setIfInBounds_toArray, List.set_append_left _ _ (by simpa using h), List.map_set]
theorem roA_size (xs : List Nat) (R : List Value) : (roA xs R).size = xs.length + R.length := by simp [roA]
/-- While those behind one are moved ahead by one place: the row ahead of the j-th. -/
def shR (xs : List Nat) (k j : Nat) : List Nat := (List.range xs.length).map fun x => idAt xs (if k ≤ x ∧ x + 1 < j then x + 1 else x)
theorem shR_len (xs : List Nat) (k j : Nat) : (shR xs k j).length = xs.length := by simp [shR]
theorem shR_at {xs : List Nat} {k j x : Nat} (h : x < xs.length) : idAt (shR xs k j) x = idAt xs (if k ≤ x ∧ x + 1 < j then x + 1 else x) := by
  unfold shR
  conv => lhs; unfold idAt
  rw [List.getD_eq_getElem?_getD, List.getElem?_map, List.getElem?_range h]; rfl
theorem list_ext_id {xs ys : List Nat} (hl : xs.length = ys.length) (h : ∀ i, i < xs.length → idAt xs i = idAt ys i) : xs = ys := by
  apply List.ext_getElem hl
  intro i h1 h2
  have := h i h1
  have a := idAt_some h1
  have b := idAt_some h2
  rw [List.getElem?_eq_getElem h1] at a
  rw [List.getElem?_eq_getElem h2] at b
  rw [Option.some.inj a, Option.some.inj b, this]
theorem shR_zero (xs : List Nat) (k : Nat) : shR xs k (k + 1) = xs := by
  refine list_ext_id (shR_len ..) fun i hi => ?_
  rw [shR_len] at hi
  rw [shR_at hi, if_neg (by omega)]
theorem idAt_set {xs : List Nat} {k : Nat} (hk : k < xs.length) (x i : Nat) : idAt (xs.set k x) i = if i = k then x else idAt xs i := by
  unfold idAt
  rw [List.getD_eq_getElem?_getD, List.getElem?_set]
  by_cases e : k = i
  · subst e; rw [if_pos rfl, if_pos hk, if_pos rfl]; rfl
  · rw [if_neg e, if_neg (fun q => e q.symm), List.getD_eq_getElem?_getD]
theorem shR_step {xs : List Nat} {k j : Nat} (hk : k < j) (hj : j < xs.length) : (shR xs k j).set (j - 1) (idAt xs j) = shR xs k (j + 1) := by
  refine list_ext_id (by rw [List.length_set, shR_len, shR_len]) fun i hi => ?_
  rw [List.length_set, shR_len] at hi
  rw [idAt_set (by rw [shR_len]; omega), shR_at hi, shR_at hi]
  by_cases e : i = j - 1
  · rw [if_pos e, if_pos (by omega)]; congr 1; omega
  · rw [if_neg e]
    by_cases q : k ≤ i ∧ i + 1 < j
    · rw [if_pos q, if_pos (by omega)]
    · rw [if_neg q, if_neg (by omega)]
theorem shR_end {xs : List Nat} {k : Nat} (hk : k < xs.length) : (shR xs k xs.length).take (xs.length - 1) = xs.eraseIdx k := by
  refine list_ext_id (by rw [List.length_take, shR_len, List.length_eraseIdx, if_pos hk]; omega) fun i hi => ?_
  rw [List.length_take, shR_len] at hi
  have e1 : idAt ((shR xs k xs.length).take (xs.length - 1)) i = idAt (shR xs k xs.length) i := by
    unfold idAt
    rw [List.getD_eq_getElem?_getD, List.getElem?_take, if_pos (by omega), List.getD_eq_getElem?_getD]
  rw [e1, shR_at (by omega)]
  unfold idAt
  rw [List.getD_eq_getElem?_getD, List.getD_eq_getElem?_getD, List.getElem?_eraseIdx]
  by_cases q : i < k
  · rw [if_pos q, if_neg (by omega)]
  · rw [if_neg q, if_pos (by omega)]
section
variable {ids : List Nat} {w : World} {p g cap gb x y : Nat} {R : List Value}
theorem clo_take_c (hg : w.heap[gb]? = some (.cells #[ptr x 0] 62)) (hx : Is w x) (hy : Is w y) : Calls Try.prog 70 #[ptr y 0, ptr gb 0] w fun e w' => e = .returned (.bool (decide (y = x))) ∧ w' = w := by
  have z : w.cell? ⟨gb, 0, none⟩ = some (ptr x 0) := by rw [cell_of_row _ _ _ _ _ _ hg]; rfl
  have e1 := run_eqP hy hx
  go_enter Try.func70, Try.ntmps70
  go_wp2
  go_ret
  exact ⟨rfl, rfl⟩
set_option maxHeartbeats 1000000 in
theorem index_take_c (hr : w.heap[g]? = some (.cells (roA ids R) 62)) (hg : w.heap[gb]? = some (.cells #[ptr x 0] 62)) (hi : ∀ y ∈ ids, Is w y) (hx : x ∈ ids) (h512 : ids.length ≤ 512) :
    Calls Try.prog 83 #[.slice (some ⟨g, 0, none⟩) ids.length cap, .func (.func 70) #[] #[ptr gb 0]] w fun e w' => e = .returned (vI (ids.idxOf x)) ∧ w' = w := by
  have hk : ids.idxOf x < ids.length := List.idxOf_lt_length_of_mem hx
  have hkx : idAt ids (ids.idxOf x) = x := by
    have := idAt_some hk
    rw [at_idx hx] at this
    exact (Option.some.inj this).symm
  have hno : ∀ j, j < ids.idxOf x → idAt ids j ≠ x := fun j hj e => by
    have := List.not_of_lt_findIdx (p := fun y => y == x) (xs := ids) (i := j) hj
    have e2 := idAt_some (ids := ids) (k := j) (by omega)
    rw [List.getElem?_eq_getElem (by omega)] at e2
    rw [Option.some.inj e2, e] at this
    simp at this
  generalize ids.idxOf x = k at *
  go_enter Try.func83, Try.ntmps83
  go_upto_region 2 with fail
  go_loopw [8] (fun s8 wr => ∃ j : Nat, s8 = vI j ∧ j ≤ k ∧ wr = w) (fun s8 _ => ((k : Int) - intOf s8).toNat)
  case atStart => exact ⟨0, rfl, Nat.zero_le _, by first | rfl | trivial⟩
  case round =>
    obtain ⟨j, rfl, hj, rfl⟩ := hrel
    have hjl : j < ids.length := by omega
    have hlt : (j : Int) < ids.length := by omega
    have z : wr.cell? ⟨g, j, none⟩ = some (ptr (idAt ids j) 0) := by rw [cell_of_row _ _ _ _ _ _ hr]; exact roA_get hjl
    have kc := clo_take_c (y := idAt ids j) hg (hi _ hx) (hi _ (idAt_mem hjl))
    by_cases hlt2 : j < k
    · rw [decide_eq_false (hno j hlt2)] at kc
      clear hno hkx
      go_wp2_with (first | (go_at_call 70; (with_reducible refine kc.mono ?_); clear kc; rintro e w2 ⟨rfl, rfl⟩; dsimp only))
      go_roundw
      case rel => exact ⟨j + 1, by go_num, by omega, by first | rfl | trivial⟩
      case measure => simp [intOf]; omega
    · obtain rfl : j = k := by omega
      rw [decide_eq_true hkx] at kc
      clear hno hkx
      go_wp2_with (first | (go_at_call 70; (with_reducible refine kc.mono ?_); clear kc; rintro e w2 ⟨rfl, rfl⟩; dsimp only))
      go_ret
      exact ⟨rfl, rfl⟩
end
end Go.Proofs.Ytilbnjldfgofmaa
