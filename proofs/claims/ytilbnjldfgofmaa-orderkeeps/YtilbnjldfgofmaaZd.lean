/- The list in memory; the next one. -/
import Derived.Test.YtilbnjldfgofmaaXz
import Derived.Test.YtilbnjldfgofmaaMb
namespace Go.Proofs.Ytilbnjldfgofmaa
open Go.RowKit
set_option linter.unusedVariables false
set_option linter.unusedSimpArgs false
set_option maxRecDepth 8000

theorem stop_c (o : Opr) (hk : isK o.kind = true) (w : World) : Calls Try.prog 43 #[opV o] w fun e w' => e = .returned (.bool (stopK o.kind)) ∧ Below w.heap.size w w' := by
  have hb := below_alloc w (.cells (opA o) 40)
  have H := LocO.new w o
  have z0 := H.c0
  have hO : OpAt (w.alloc (.cells (opA o) 40)) ⟨w.heap.size, 0, none⟩ o := H.at_
  have kl := leaves_c o (w.alloc (.cells (opA o) 40))
  by_cases h : o.kind = 13
  · go_enter Try.func43, Try.ntmps43
    go_upto_region 1 with fail
    generalize w.alloc (.cells (opA o) 40) = w1 at *
    go_wp2
    go_ret
    exact ⟨by simp [stopK, h], hb⟩
  · have q : (o.kind == 13) = false := by simpa using h
    go_enter Try.func43, Try.ntmps43
    go_upto_region 1 with fail
    generalize w.alloc (.cells (opA o) 40) = w1 at *
    go_wp2_with (first | ((with_reducible refine wpList_load42 rfl _ rfl _ rfl _ hO ?_); simp only [Act.put, List.setIfInBounds_toArray, List.set_cons_succ, List.set_cons_zero]) | (go_at_call 68; (with_reducible refine kl.mono ?_); clear kl; rintro e w2 ⟨rfl, B⟩; dsimp only))
    go_ret
    exact ⟨by simp [stopK, h], below_then hb (Nat.le_refl _) B⟩
/-- The list: a box with a row of items. -/
structure Ls (w : World) (p g cap : Nat) (ids : List Nat) : Prop where
  box : w.heap[p]? = some (.cells #[.slice (some ⟨g, 0, none⟩) ids.length cap] 65)
  row : ∃ R : List Value, w.heap[g]? = some (.cells ((ids.map fun i => ptr i 0) ++ R).toArray 62) ∧ ids.length + R.length = cap
  max : cap ≤ 512
theorem Ls.boxc {w : World} {p g cap : Nat} {ids : List Nat} (L : Ls w p g cap ids) : w.cell? ⟨p, 0, none⟩ = some (.slice (some ⟨g, 0, none⟩) ids.length cap) := by rw [cell_of_row _ _ _ _ _ _ L.box]; rfl
theorem Ls.cell {w : World} {p g cap : Nat} {ids : List Nat} (L : Ls w p g cap ids) {k : Nat} (h : k < ids.length) : w.cell? ⟨g, k, none⟩ = some (ptr (idAt ids k) 0) := by
  obtain ⟨R, e, _⟩ := L.row
  rw [cell_of_row _ _ _ _ _ _ e]
  simp only [List.getElem?_toArray]
  rw [List.getElem?_append_left (by simpa using h), List.getElem?_map, idAt_some h]; rfl
theorem Ls.grow {w w' : World} {p g cap : Nat} {ids : List Nat} (L : Ls w p g cap ids) (hb : Below w.heap.size w w') : Ls w' p g cap ids := by
  obtain ⟨R, e, q⟩ := L.row
  exact ⟨by rw [hb.block _ (lt_of_some L.box)]; exact L.box, ⟨R, by rw [hb.block _ (lt_of_some e)]; exact e, q⟩, L.max⟩
theorem Ls.drew {w : World} {p g cap : Nat} {ids : List Nat} (L : Ls w p g cap ids) (n : Nat) : Ls (w.drewN n) p g cap ids := L.grow (below_drewN (Below.refl _ w))
section
variable {pc words el : Int} {l : List Opr} {ids : List Nat} {w : World} {p g cap : Nat}

set_option maxHeartbeats 1000000 in
theorem nextLoud_c (h : rightB pc words el l = true) (L : Ls w p g cap ids) (G : Gr ids l w) {k : Nat} (hk : k + 1 < l.length) :
    Calls Try.prog 42 #[ptr p 0, vI k, .func (.func 50) #[] #[]] w fun e w' => e = .returned (vI (nextK loudK l k)) ∧ Below w.heap.size w w' := by
  have hlen := G.len
  have h512 := (right_lens h).2.1
  obtain ⟨n1, n2, n3, n4⟩ := next_at (P := loudK) h (fun k a b => by have := k128 a b; first | exact this.2.1 | exact this.2.2) hk
  generalize nextK loudK l k = j at *
  go_enter Try.func42, Try.ntmps42
  go_upto_region 2 with fail
  go_loopw [7] (fun s7 wr => ∃ m : Nat, s7 = vI m ∧ k < m ∧ m ≤ j ∧ Ls wr p g cap ids ∧ Gr ids l wr ∧ Below w.heap.size w wr) (fun s7 _ => ((j : Int) - intOf s7).toNat)
  case atStart => exact ⟨k + 1, by first | go_num | (simp; done) | rfl, by omega, by omega, L, G, Below.refl _ _⟩
  case round =>
    obtain ⟨m, rfl, hm1, hm2, L1, G1, B1⟩ := hrel
    have hml : m < l.length := by omega
    obtain ⟨d, hd, fd⟩ := G1.node m hml
    have z := L1.boxc
    have zk := L1.cell (k := m) (by omega)
    have hi : (m : Int) < ids.length := by omega
    have hO := hd.opAt
    have kf := isLoud_c d.op (by rw [fd.kind]; exact kind_at (right_at h hml)) wr
    rw [fd.kind] at kf
    by_cases hlt : m < j
    · rw [n4 m hm1 hlt] at kf
      go_wp2_with (first | ((with_reducible refine wpList_load42 rfl _ rfl _ rfl _ hO ?_); simp only [Act.put, List.setIfInBounds_toArray, List.set_cons_succ, List.set_cons_zero]) | (go_at_call 50; (with_reducible refine kf.mono ?_); clear kf; rintro e w2 ⟨rfl, B⟩; dsimp only))
      go_roundw
      case rel => exact ⟨m + 1, by go_num, by omega, by omega, L1.grow B, G1.grow B, below_then B1 (Nat.le_refl _) B⟩
      case measure => simp [intOf]; omega
    · obtain rfl : m = j := by omega
      rw [n3] at kf
      go_wp2_with (first | ((with_reducible refine wpList_load42 rfl _ rfl _ rfl _ hO ?_); simp only [Act.put, List.setIfInBounds_toArray, List.set_cons_succ, List.set_cons_zero]) | (go_at_call 50; (with_reducible refine kf.mono ?_); clear kf; rintro e w2 ⟨rfl, B⟩; dsimp only))
      go_ret
      exact ⟨rfl, below_then B1 (Nat.le_refl _) B⟩

set_option maxHeartbeats 1000000 in
theorem nextStop_c (h : rightB pc words el l = true) (L : Ls w p g cap ids) (G : Gr ids l w) {k : Nat} (hk : k + 1 < l.length) :
    Calls Try.prog 42 #[ptr p 0, vI k, .func (.func 43) #[] #[]] w fun e w' => e = .returned (vI (nextK stopK l k)) ∧ Below w.heap.size w w' := by
  have hlen := G.len
  have h512 := (right_lens h).2.1
  obtain ⟨n1, n2, n3, n4⟩ := next_at (P := stopK) h (fun k a b => by have := k128 a b; first | exact this.2.1 | exact this.2.2) hk
  generalize nextK stopK l k = j at *
  go_enter Try.func42, Try.ntmps42
  go_upto_region 2 with fail
  go_loopw [7] (fun s7 wr => ∃ m : Nat, s7 = vI m ∧ k < m ∧ m ≤ j ∧ Ls wr p g cap ids ∧ Gr ids l wr ∧ Below w.heap.size w wr) (fun s7 _ => ((j : Int) - intOf s7).toNat)
  case atStart => exact ⟨k + 1, by first | go_num | (simp; done) | rfl, by omega, by omega, L, G, Below.refl _ _⟩
  case round =>
    obtain ⟨m, rfl, hm1, hm2, L1, G1, B1⟩ := hrel
    have hml : m < l.length := by omega
    obtain ⟨d, hd, fd⟩ := G1.node m hml
    have z := L1.boxc
    have zk := L1.cell (k := m) (by omega)
    have hi : (m : Int) < ids.length := by omega
    have hO := hd.opAt
    have kf := stop_c d.op (by rw [fd.kind]; exact kind_at (right_at h hml)) wr
    rw [fd.kind] at kf
    by_cases hlt : m < j
    · rw [n4 m hm1 hlt] at kf
      go_wp2_with (first | ((with_reducible refine wpList_load42 rfl _ rfl _ rfl _ hO ?_); simp only [Act.put, List.setIfInBounds_toArray, List.set_cons_succ, List.set_cons_zero]) | (go_at_call 43; (with_reducible refine kf.mono ?_); clear kf; rintro e w2 ⟨rfl, B⟩; dsimp only))
      go_roundw
      case rel => exact ⟨m + 1, by go_num, by omega, by omega, L1.grow B, G1.grow B, below_then B1 (Nat.le_refl _) B⟩
      case measure => simp [intOf]; omega
    · obtain rfl : m = j := by omega
      rw [n3] at kf
      go_wp2_with (first | ((with_reducible refine wpList_load42 rfl _ rfl _ rfl _ hO ?_); simp only [Act.put, List.setIfInBounds_toArray, List.set_cons_succ, List.set_cons_zero]) | (go_at_call 43; (with_reducible refine kf.mono ?_); clear kf; rintro e w2 ⟨rfl, B⟩; dsimp only))
      go_ret
      exact ⟨rfl, below_then B1 (Nat.le_refl _) B⟩
end
end Go.Proofs.Ytilbnjldfgofmaa
