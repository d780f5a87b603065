/- right, bearsOn. -/
import Derived.Test.YtbdmemjenpnjgaaTi
namespace Go.Proofs.Ytbdmemjenpnjgaa
open Go.RowKit
set_option linter.unusedVariables false
set_option linter.unusedSimpArgs false
set_option maxRecDepth 8000

open Go.Shelf
theorem keeps_below {B : Nat} {W W' : World} (h : Below W.heap.size W W') : KeepsFrom B W W' := ⟨h.size, fun k o _ hk _ => by rw [h.block k (lt_of_some hk)]; exact hk⟩
theorem asks_plain {tr : List Nt} {v : Value} {hf : Nat} {fr : Array Value} {hb : Nat → Bool} {w : World} (eh : ∀ args w, (callFunc hf args).run Try.prog w = .ok (.enter hf args) w) (N : Nts w v tr)
    (ask : ∀ k n W, tr[k]? = some n → Calls Try.prog hf (#[ntV n] ++ fr) W fun e W' => e = .returned (.bool (hb k)) ∧ Below W.heap.size W W') : Asks tr v hf fr hb w w (fun _ _ _ => True) :=
  ⟨eh, N, Below.refl _ _, fun _ _ _ _ => trivial, fun _ _ _ _ _ _ => trivial, fun _ _ _ _ _ _ _ _ => trivial, fun Pb k n t W hn _ L => (ask k n W hn).mono fun e W' ⟨h1, h2⟩ => ⟨h1, trivial, L.grow h2, keeps_below h2, goes_of_below h2⟩⟩
def TrOk (tr : List Nt) : Prop := ∀ n ∈ tr, NtOk n
theorem firstB_lt (p : Nat → Bool) : ∀ k i, (decide (firstB p k i < 0)) = (List.range k).all fun j => !p (i + j)
  | 0, i => rfl
  | k + 1, i => by
    unfold firstB
    rw [List.range_succ_eq_map, List.all_cons, List.all_map]
    by_cases h : p i = true
    · rw [if_pos h]; simp [h]
    · rw [if_neg h, firstB_lt p k (i + 1)]
      simp only [Nat.add_zero, h, Bool.not_false, Bool.true_and]
      congr 1
      funext j
      simp [Function.comp, Nat.add_assoc, Nat.add_comm 1 j]
def wrongAt (tr : List Nt) (k : Nat) : Bool := wrongB (tr.getD k ⟨0, 0, 0, 0⟩)
theorem rightL_at (tr : List Nt) : decide (firstB (wrongAt tr) tr.length 0 < 0) = rightL tr := by
  rw [firstB_lt]
  unfold rightL wrongAt
  rw [Bool.eq_iff_iff, List.all_eq_true, List.all_eq_true]
  constructor
  · intro h n hn
    obtain ⟨k, hk⟩ := List.mem_iff_getElem?.1 hn
    have := h k (List.mem_range.2 (List.getElem?_eq_some_iff.1 hk).1)
    simpa [List.getD, hk] using this
  · intro h j hj
    have hj := List.mem_range.1 hj
    have := h tr[j] (List.getElem_mem hj)
    simpa [List.getD, List.getElem?_eq_getElem hj] using this
theorem right_c {tr : List Nt} {v : Value} {w : World} (N : Nts w v tr) (ok : TrOk tr) : Calls Try.prog 23 #[v] w fun e w' => e = .returned (.bool (rightL tr)) ∧ Below w.heap.size w w' := by
  have A : Asks tr v 34 #[] (wrongAt tr) w w (fun _ _ _ => True) := asks_plain (enters_of Try.func34 (by kernel_rfl) rfl) N fun k n W hn => by
    have hg : tr.getD k ⟨0, 0, 0, 0⟩ = n := by simp [List.getD, hn]
    unfold wrongAt
    rw [hg]
    exact isWrong_c n (ok n (List.mem_of_getElem? hn)) W
  have kf := find_c A
  rw [← rightL_at]
  generalize firstB (wrongAt tr) tr.length 0 = z at *
  obtain ⟨ao, cap, rfl⟩ := N.len
  clear A N
  go_enter Try.func23, Try.ntmps23
  go_wp2_with (first | (go_at_call 33; (with_reducible refine kf.mono ?_); clear kf; rintro e w2 ⟨rfl, hB⟩; dsimp only))
  go_ret
  exact ⟨rfl, hB⟩
theorem bearsOn_c (c : Int) (a : Nat) (w : World) : Calls Try.prog 28 #[vI c, vU a] w fun e w' => e = .returned (clo 36 #[ptr (w.heap.size + 1) 0, ptr w.heap.size 0]) ∧ Boxed w' w.heap.size 3 (vI c) ∧ Boxed w' (w.heap.size + 1) 23 (vU a) ∧ Below w.heap.size w w' := by
  go_enter Try.func28, Try.ntmps28
  go_wp2
  go_ret
  refine ⟨rfl, (Boxed.new w 3 _).alloc _, ?_, below_then (below_alloc _ _) (Nat.le_refl _) (below_alloc _ _)⟩
  have := Boxed.new (w.alloc (Obj.cells #[vI c] 3)) 23 (vU a)
  rwa [World.size_alloc] at this
set_option maxHeartbeats 1000000 in
theorem bears_c {n : Nt} (ok : NtOk n) {c : Int} {a : Nat} (ha : a < 18446744073709551616) {ab cb : Nat} {w : World} (X : Boxed w ab 23 (vU a)) (Z : Boxed w cb 3 (vI c)) : Calls Try.prog 36 #[ntV n, ptr ab 0, ptr cb 0] w fun e w' => e = .returned (.bool (bears c a n)) ∧ Below w.heap.size w w' := by
  obtain ⟨R, hR⟩ : ∃ R, bears c a n = R := ⟨_, rfl⟩
  rw [hR]
  have L1 := LocN.new w n
  have B1 := below_alloc w (.cells (ntA n) 34)
  have X1 := X.alloc (.cells (ntA n) 34)
  have Z1 := Z.alloc (.cells (ntA n) 34)
  have beq_line : ((lineN n.addr : Int) == (lineN a : Int)) = (lineN n.addr == lineN a) := by
    by_cases h : lineN n.addr = lineN a
    · rw [beq_iff_eq.2 h, beq_iff_eq.2 (by omega)]
    · rw [beq_eq_false_iff_ne.2 h, beq_eq_false_iff_ne.2 (by omega)]
  have beq_addr : ((n.addr : Int) == (a : Int)) = (n.addr == a) := by
    by_cases h : n.addr = a
    · rw [beq_iff_eq.2 h, beq_iff_eq.2 (by omega)]
    · rw [beq_eq_false_iff_ne.2 h, beq_eq_false_iff_ne.2 (by omega)]
  unfold bears at hR
  go_enter Try.func36, Try.ntmps36
  go_upto_region 1 with fail
  generalize w.alloc (.cells (ntA n) 34) = w' at *
  have c0 := L1.c0
  have c1 := L1.c1
  have c2 := L1.c2
  have x1 := X1.cell
  have z1 := Z1.cell
  by_cases h2 : n.kind = 2
  · rw [h2] at c0 hR
    go_upto_region 5 with fail
    have hst : (fun (_ : Nat) (w2 : World) => LocN w.heap.size n w2 ∧ Boxed w2 ab 23 (vU a) ∧ Below w.heap.size w w2) 0 _ := ⟨L1.grow (Rel.below_draws (n := 1) (Below.refl _ _)), boxed_grow X1 (Rel.below_draws (n := 1) (Below.refl _ _)), B1.trans ((Rel.below_draws (n := 1) (Below.refl _ _)).mono B1.size)⟩
    refine Chn.wp_region_chainL (fun (_ : Nat) (w2 : World) => LocN w.heap.size n w2 ∧ Boxed w2 ab 23 (vU a) ∧ Below w.heap.size w w2) [] [0, 0, 0, 0, 0, 0, 0] [ptr w.heap.size 2, vU n.addr, vU (lineN n.addr), vU a, vU (lineN a), .bool (lineN n.addr == lineN a), .bool (lineN n.addr == lineN a)] (by kernel_rfl) (by kernel_rfl) (by kernel_rfl) (by kernel_rfl) (by kernel_rfl) hst ?_
    clear hst
    refine ⟨fun j w1 hj hC => by exact Chn.upon_pure hC (fun F hF => by (go_simp <;> exact hF)), ?_⟩
    simp only [Act.put, List.setIfInBounds_toArray, List.set_cons_succ, List.set_cons_zero]
    refine ⟨fun j w1 hj hC => by
      have z := hC.1.c2
      exact Chn.upon_pure hC (fun F hF => by (go_simp <;> exact hF)), ?_⟩
    simp only [Act.put, List.setIfInBounds_toArray, List.set_cons_succ, List.set_cons_zero]
    refine ⟨fun j w1 hj hC => by
      exact Chn.upon_call (C := (fun (_ : Nat) (w2 : World) => LocN w.heap.size n w2 ∧ Boxed w2 ab 23 (vU a) ∧ Below w.heap.size w w2) j) (line_c n.addr ok.addr w1) (fun e2 w2 hh => ⟨hh.1, by rw [hh.2]; exact hC⟩) (fun F hF => by (go_simp <;> exact hF)), ?_⟩
    simp only [Act.put, List.setIfInBounds_toArray, List.set_cons_succ, List.set_cons_zero]
    refine ⟨fun j w1 hj hC => by
      have z := hC.2.1.cell
      exact Chn.upon_pure hC (fun F hF => by (go_simp <;> exact hF)), ?_⟩
    simp only [Act.put, List.setIfInBounds_toArray, List.set_cons_succ, List.set_cons_zero]
    refine ⟨fun j w1 hj hC => by
      exact Chn.upon_call (C := (fun (_ : Nat) (w2 : World) => LocN w.heap.size n w2 ∧ Boxed w2 ab 23 (vU a) ∧ Below w.heap.size w w2) j) (line_c a ha w1) (fun e2 w2 hh => ⟨hh.1, by rw [hh.2]; exact hC⟩) (fun F hF => by (go_simp <;> exact hF)), ?_⟩
    simp only [Act.put, List.setIfInBounds_toArray, List.set_cons_succ, List.set_cons_zero]
    refine ⟨fun j w1 hj hC => by
      have z := beq_line
      exact Chn.upon_pure hC (fun F hF => by (go_simp <;> exact hF)), ?_⟩
    simp only [Act.put, List.setIfInBounds_toArray, List.set_cons_succ, List.set_cons_zero]
    refine ⟨fun j w1 hj hC => by exact Chn.upon_pure hC (fun F hF => by (go_simp <;> exact hF)), ?_⟩
    simp only [Act.put, List.setIfInBounds_toArray, List.set_cons_succ, List.set_cons_zero]
    intro w5 hC

    go_wp2
    go_ret
    exact ⟨by rw [← hR]; rfl, hC.2.2⟩
  have k2 : (n.kind == 2) = false := beq_eq_false_iff_ne.2 h2
  by_cases h1 : n.kind = 1
  · rw [h1] at c0 hR
    go_wp2
    go_ret
    exact ⟨by rw [← hR]; simp [beq_addr], B1⟩
  have k1 : (n.kind == 1) = false := beq_eq_false_iff_ne.2 h1
  by_cases h3 : n.kind = 3
  · rw [h3] at c0 hR
    go_wp2
    go_ret
    exact ⟨by rw [← hR]; simp, B1⟩
  have k3 : (n.kind == 3) = false := beq_eq_false_iff_ne.2 h3
  by_cases h4 : n.kind = 4
  · rw [h4] at c0 hR
    go_wp2
    go_ret
    exact ⟨by rw [← hR]; simp, B1⟩
  have k4 : (n.kind == 4) = false := beq_eq_false_iff_ne.2 h4
  rw [k1, k2, k3, k4] at hR
  clear h1 h2 h3 h4
  go_wp2
  go_ret
  exact ⟨by rw [← hR]; simp, B1⟩
end Go.Proofs.Ytbdmemjenpnjgaa
