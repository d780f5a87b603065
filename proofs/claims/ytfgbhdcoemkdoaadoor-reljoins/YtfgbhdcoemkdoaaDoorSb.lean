/- The queue: Len, Less, Swap, Push. -/
import Derived.Test.YtfgbhdcoemkdoaaDoorSa
import Derived.Test.YtfgbhdcoemkdoaaDoorRf
import Derived.Test.YtfgbhdcoemkdoaaDoorChx
import Derived.Great.BuildSlice
import Derived.Deep.AppendLies
import Derived.Deep.QuietTactic
namespace Go.Proofs.YtfgbhdcoemkdoaaDoor
open Go.RowKit
set_option linter.unusedVariables false
set_option linter.unusedSimpArgs false
set_option maxRecDepth 8000

open Hq
abbrev flN (l : List Nat) : List Value := l.map fun x : Nat => vI x
/-- The queue's block, and the row that it names. -/
structure QAt (base q : Nat) (v : Value) (l : List Nat) (w : World) : Prop where
  hd : w.heap[q]? = some (.cells #[v] 74)
  row : w.ownsRow base 3 1 v l.length (flN l)
  hq : base ≤ q
section
variable {base q : Nat} {v : Value} {l : List Nat} {w w' : World}
theorem QAt.c0 (H : QAt base q v l w) : w.cell? ⟨q, 0, none⟩ = some v := by rw [cell_of_row _ _ _ _ _ _ H.hd]; rfl
theorem QAt.grow (H : QAt base q v l w) (hb : Below w.heap.size w w') : QAt base q v l w' :=
  ⟨by rw [hb.block _ (lt_of_some H.hd)]; exact H.hd, own_of_block H.row fun k hk => hb.block k (H.row.lt k hk).2, H.hq⟩
theorem QAt.turn {B : Nat} (H : QAt base q v l w) (hb : Rg.Turn B w w') : QAt base q v l w' := ⟨hb.cells H.hd, hb.own H.row, H.hq⟩
theorem own_cell (R : w.ownsRow base 3 1 v l.length (flN l)) {b cap : Nat} (ev : v = .slice (some ⟨b, 0, none⟩) l.length cap) {k t : Nat} (h : l[k]? = some t) : w.cell? ⟨b, k, none⟩ = some (vI t) := by
  have hk := (List.getElem?_eq_some_iff.1 h).1
  subst ev
  rw [R.cellAt k (by omega)]
  simp [flN, h]
end
theorem len_c (ao : Option Addr) (m cap : Nat) (w : World) : Calls Tryd.prog 49 #[.slice ao m cap] w fun e w' => e = .returned (vI m) ∧ w' = w := by
  go_enter Tryd.func49, Tryd.ntmps49
  go_wp2
  go_ret
  exact ⟨rfl, rfl⟩
theorem less_c {base : Nat} {v : Value} {l : List Nat} {w : World} (R : w.ownsRow base 3 1 v l.length (flN l)) {i j s t : Nat} (hi : l[i]? = some s) (hj : l[j]? = some t) : Calls Tryd.prog 82 #[v, vI i, vI j] w fun e w' => e = .returned (.bool (decide (s < t))) ∧ Below w.heap.size w w' := by
  have hi' := (List.getElem?_eq_some_iff.1 hi).1
  have hj' := (List.getElem?_eq_some_iff.1 hj).1
  obtain ⟨b, cap, ev, h1, h2, _, _, _⟩ := own_addr R (by omega)
  have a0 := own_cell R ev hi
  have b0 := own_cell R ev hj
  subst ev
  have k1 : (i : Int) < l.length := by omega
  have k2 : (j : Int) < l.length := by omega
  clear R hi hj h1 h2 hi' hj'
  go_enter Tryd.func82, Tryd.ntmps82
  go_wp2
  go_quiet (fail)
  go_wp2
  go_ret
  exact ⟨rfl, Rel.below_draws (Below.refl _ _)⟩
theorem inf3 : (Tryd.prog.info? 3).map (·.size) = some 1 := by kernel_rfl
theorem inf74 : (Tryd.prog.info? 74).map (·.size) = some 1 := by kernel_rfl
def SwC (base : Nat) (v : Value) (l : List Nat) (i j s t : Nat) (w : World) : Nat → World → Prop
  | 0, w' => w'.ownsRow base 3 1 v l.length (flN l) ∧ Goes (fun k => v.ownBlock = some k) w w'
  | 1, w' => w'.ownsRow base 3 1 v l.length (flN (l.set i t)) ∧ Goes (fun k => v.ownBlock = some k) w w'
  | 2, w' => w'.ownsRow base 3 1 v l.length (flN (swp l i j s t)) ∧ Goes (fun k => v.ownBlock = some k) w w'
  | _, _ => False
theorem swC_row {base : Nat} {v : Value} {l : List Nat} {i j s t : Nat} {w w1 : World} {m : Nat} (hm : m ≤ 0) (hC : SwC base v l i j s t w m w1) : w1.ownsRow base 3 1 v l.length (flN l) := by
  obtain rfl : m = 0 := by omega
  exact hC.1
theorem flN_set (l : List Nat) (k t : Nat) : (flN l).set k (vI t) = flN (l.set k t) := by simp [flN, List.map_set]
theorem own_put {base n b cap : Nat} {l : List Nat} {w : World} (R : w.ownsRow base 3 1 (.slice (some ⟨b, 0, none⟩) n cap) n (flN l)) (k t : Nat) : (w.setCell ⟨b, k, none⟩ (vI t)).ownsRow base 3 1 (.slice (some ⟨b, 0, none⟩) n cap) n (flN (l.set k t)) := by
  have h1 := (R.stored k (vI t)).1
  rw [flN_set] at h1
  exact h1
theorem own_run {base n b cap : Nat} {l : List Nat} {w : World} (R : w.ownsRow base 3 1 (.slice (some ⟨b, 0, none⟩) n cap) n (flN l)) (hn : n = l.length) {k : Nat} (hk : k < l.length) (t : Nat) : (storeVar 3 ⟨b, k, none⟩ (vI t)).run Tryd.prog w = .ok () (w.setCell ⟨b, k, none⟩ (vI t)) :=
  run_cell w 3 b k _ (vI l[k]) inf3 rfl rfl (by rw [R.cellAt k (by omega)]; simp [flN, hk]) (R.frozenAt _)
theorem swap_c {base : Nat} {v : Value} {l : List Nat} {w : World} (R : w.ownsRow base 3 1 v l.length (flN l)) {i j s t : Nat} (hi : l[i]? = some s) (hj : l[j]? = some t) : Calls Tryd.prog 85 #[v, vI i, vI j] w fun e w' => e = .returned (.tuple #[]) ∧ w'.ownsRow base 3 1 v l.length (flN (swp l i j s t)) ∧ Goes (fun k => v.ownBlock = some k) w w' := by
  have hi' := (List.getElem?_eq_some_iff.1 hi).1
  have hj' := (List.getElem?_eq_some_iff.1 hj).1
  obtain ⟨b, cap, ev, _, _, _, _, _⟩ := own_addr R (by omega)
  subst ev
  have k1 : (i : Int) < l.length := by omega
  have k2 : (j : Int) < l.length := by omega
  have hj0 := hj
  go_enter Tryd.func85, Tryd.ntmps85
  have hst : (SwC base (.slice (some ⟨b, 0, none⟩) l.length cap) l i j s t w) 0 { w with drawn := w.drawn + 1 } := ⟨own_of_block R fun _ _ => rfl, goes_of_below (Rel.below_draws (n := 1) (Below.refl _ _))⟩
  refine Chn.wp_region_chainL (SwC base (.slice (some ⟨b, 0, none⟩) l.length cap) l i j s t w) [13, 15] [2, 2, 2, 2, 2, 2, 2, 0, 2, 2, 2, 0, 2, 2, 2, 2] [.slice (some ⟨b, 0, none⟩) l.length cap, vI i, .slice (some ⟨b, 0, none⟩) l.length cap, vI j, .slice (some ⟨b, 0, none⟩) l.length cap, vI j, ptr b j, vI t, .slice (some ⟨b, 0, none⟩) l.length cap, vI i, ptr b i, vI s, ptr b i, undef, ptr b j, undef] (by kernel_rfl) (by kernel_rfl) (by kernel_rfl) (by kernel_rfl) (by kernel_rfl) hst ?_
  clear hst
  refine ⟨fun j w1 hj hC => by exact Chn.upon_pure hC (fun F hF => by (go_simp <;> exact hF)), ?_⟩
  simp only [Act.put, List.setIfInBounds_toArray, List.set_cons_succ, List.set_cons_zero]
  refine ⟨fun j w1 hj hC => by exact Chn.upon_pure hC (fun F hF => by (go_simp <;> exact hF)), ?_⟩
  simp only [Act.put, List.setIfInBounds_toArray, List.set_cons_succ, List.set_cons_zero]
  refine ⟨fun j w1 hj hC => by exact Chn.upon_pure hC (fun F hF => by (go_simp <;> exact hF)), ?_⟩
  simp only [Act.put, List.setIfInBounds_toArray, List.set_cons_succ, List.set_cons_zero]
  refine ⟨fun j w1 hj hC => by exact Chn.upon_pure hC (fun F hF => by (go_simp <;> exact hF)), ?_⟩
  simp only [Act.put, List.setIfInBounds_toArray, List.set_cons_succ, List.set_cons_zero]
  refine ⟨fun j w1 hj hC => by exact Chn.upon_pure hC (fun F hF => by (go_simp <;> exact hF)), ?_⟩
  simp only [Act.put, List.setIfInBounds_toArray, List.set_cons_succ, List.set_cons_zero]
  refine ⟨fun j w1 hj hC => by exact Chn.upon_pure hC (fun F hF => by (go_simp <;> exact hF)), ?_⟩
  simp only [Act.put, List.setIfInBounds_toArray, List.set_cons_succ, List.set_cons_zero]
  refine ⟨fun j w1 hj hC => by exact Chn.upon_pure hC (fun F hF => by (go_simp <;> exact hF)), ?_⟩
  simp only [Act.put, List.setIfInBounds_toArray, List.set_cons_succ, List.set_cons_zero]
  refine ⟨fun j w1 hj hC => by
    have z := own_cell (swC_row hj hC) rfl hj0
    exact Chn.upon_pure hC (fun F hF => by (go_simp <;> exact hF)), ?_⟩
  simp only [Act.put, List.setIfInBounds_toArray, List.set_cons_succ, List.set_cons_zero]
  refine ⟨fun j w1 hj hC => by exact Chn.upon_pure hC (fun F hF => by (go_simp <;> exact hF)), ?_⟩
  simp only [Act.put, List.setIfInBounds_toArray, List.set_cons_succ, List.set_cons_zero]
  refine ⟨fun j w1 hj hC => by exact Chn.upon_pure hC (fun F hF => by (go_simp <;> exact hF)), ?_⟩
  simp only [Act.put, List.setIfInBounds_toArray, List.set_cons_succ, List.set_cons_zero]
  refine ⟨fun j w1 hj hC => by exact Chn.upon_pure hC (fun F hF => by (go_simp <;> exact hF)), ?_⟩
  simp only [Act.put, List.setIfInBounds_toArray, List.set_cons_succ, List.set_cons_zero]
  refine ⟨fun j w1 hj hC => by
    have z := own_cell (swC_row hj hC) rfl hi
    exact Chn.upon_pure hC (fun F hF => by (go_simp <;> exact hF)), ?_⟩
  simp only [Act.put, List.setIfInBounds_toArray, List.set_cons_succ, List.set_cons_zero]
  refine ⟨fun j w1 hj hC => by exact Chn.upon_pure hC (fun F hF => by (go_simp <;> exact hF)), ?_⟩
  simp only [Act.put, List.setIfInBounds_toArray, List.set_cons_succ, List.set_cons_zero]
  refine ⟨fun w1 hC => by
    exact chn_store (C := (SwC base (.slice (some ⟨b, 0, none⟩) l.length cap) l i j s t w) 1) 3 _ _ rfl b (i) rfl (vI t) rfl (own_run hC.1 rfl hi' t) (⟨own_put hC.1 i t, hC.2.trans (goes_setCell w1 (F := fun k => (Value.slice (some ⟨b, 0, none⟩) l.length cap).ownBlock = some k) rfl _ _) (fun _ _ h => h)⟩), ?_⟩
  simp only [Act.put, List.setIfInBounds_toArray, List.set_cons_succ, List.set_cons_zero]
  refine ⟨fun j w1 hj hC => by exact Chn.upon_pure hC (fun F hF => by (go_simp <;> exact hF)), ?_⟩
  simp only [Act.put, List.setIfInBounds_toArray, List.set_cons_succ, List.set_cons_zero]
  refine ⟨fun w1 hC => by
    exact chn_store (C := (SwC base (.slice (some ⟨b, 0, none⟩) l.length cap) l i j s t w) 2) 3 _ _ rfl b (j) rfl (vI s) rfl (own_run hC.1 (by simp) (by simpa using hj') s) (⟨own_put hC.1 j s, hC.2.trans (goes_setCell w1 (F := fun k => (Value.slice (some ⟨b, 0, none⟩) l.length cap).ownBlock = some k) rfl _ _) (fun _ _ h => h)⟩), ?_⟩
  simp only [Act.put, List.setIfInBounds_toArray, List.set_cons_succ, List.set_cons_zero]
  intro w5 hC

  exact bodyPost_end (results_none rfl _ _ _) rfl ⟨rfl, hC⟩
end Go.Proofs.YtfgbhdcoemkdoaaDoor
