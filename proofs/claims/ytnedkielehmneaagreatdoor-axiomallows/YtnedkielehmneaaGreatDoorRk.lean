/- Union, Inter, Minus, Then. -/
import Derived.Test.YtnedkielehmneaaGreatDoorRj
namespace Go.Proofs.YtnedkielehmneaaGreatDoor
open Go.RowKit
set_option linter.unusedVariables false
set_option linter.unusedSimpArgs false
set_option maxRecDepth 8000

theorem union_k {p1 p2 r s n m : Nat} {f g : Nat → Nat} {w : World} (b1 : Boxed w p1 73 (ptr r 0)) (b2 : Boxed w p2 73 (ptr s 0)) (H : RowAt r n f w) (K : RowAt s m g w) (hf : ∀ a, f a < 2 ^ 64) (hg : ∀ a, g a < 2 ^ 64) {a : Nat} (ha : a < 64) : Calls Tryz.prog 132 #[vI a, ptr p1 0, ptr p2 0] w fun e w' => e = .returned (vU ((f a ||| g a : Nat) : Int)) ∧ Below w.heap.size w w' := by
  have ha2 : (a : Int) < 64 := by omega
  go_enter Tryz.func132, Tryz.ntmps132
  go_upto_region 1 with fail
  have hst : (StC w (fun _ => False)) 0 { w with drawn := w.drawn + 1 } := Rel.below_draws (n := 1) (Below.refl _ _)
  refine Chn.wp_region_chainL (StC w (fun _ => False)) [] [0, 0, 0, 0, 0, 0, 0, 0, 0, 0, 0, 0, 0, 0] [ptr r 0, vI a, ptr r 0, ptr r 1, ptr r (1 + a), vU (f a), ptr s 0, vI a, ptr s 0, ptr s 1, ptr s (1 + a), vU (g a), vU ((f a ||| g a : Nat) : Int), vU ((f a ||| g a : Nat) : Int)] (by kernel_rfl) (by kernel_rfl) (by kernel_rfl) (by kernel_rfl) (by kernel_rfl) hst ?_
  clear hst
  refine ⟨fun j w1 hj hC => by
    have z := (boxed_grow b1 (stC_low hj hC)).cell
    exact Chn.upon_pure hC (fun F hF => by (go_simp <;> exact hF)), ?_⟩
  simp only [Act.put, List.setIfInBounds_toArray, List.set_cons_succ, List.set_cons_zero]
  refine ⟨fun j w1 hj hC => by exact Chn.upon_pure hC (fun F hF => by (go_simp <;> exact hF)), ?_⟩
  simp only [Act.put, List.setIfInBounds_toArray, List.set_cons_succ, List.set_cons_zero]
  refine ⟨fun j w1 hj hC => by exact Chn.upon_pure hC (fun F hF => by (go_simp <;> exact hF)), ?_⟩
  simp only [Act.put, List.setIfInBounds_toArray, List.set_cons_succ, List.set_cons_zero]
  refine ⟨fun j w1 hj hC => by exact Chn.upon_pure hC (fun F hF => by (go_simp <;> exact hF)), ?_⟩
  simp only [Act.put, List.setIfInBounds_toArray, List.set_cons_succ, List.set_cons_zero]
  refine ⟨fun j w1 hj hC => by exact Chn.upon_pure hC (fun F hF => by (go_simp <;> exact hF)), ?_⟩
  simp only [Act.put, List.setIfInBounds_toArray, List.set_cons_succ, List.set_cons_zero]
  refine ⟨fun j w1 hj hC => by
    have z := (H.grow (stC_low hj hC)).cell ha
    exact Chn.upon_pure hC (fun F hF => by (go_simp <;> exact hF)), ?_⟩
  simp only [Act.put, List.setIfInBounds_toArray, List.set_cons_succ, List.set_cons_zero]
  refine ⟨fun j w1 hj hC => by
    have z := (boxed_grow b2 (stC_low hj hC)).cell
    exact Chn.upon_pure hC (fun F hF => by (go_simp <;> exact hF)), ?_⟩
  simp only [Act.put, List.setIfInBounds_toArray, List.set_cons_succ, List.set_cons_zero]
  refine ⟨fun j w1 hj hC => by exact Chn.upon_pure hC (fun F hF => by (go_simp <;> exact hF)), ?_⟩
  simp only [Act.put, List.setIfInBounds_toArray, List.set_cons_succ, List.set_cons_zero]
  refine ⟨fun j w1 hj hC => by exact Chn.upon_pure hC (fun F hF => by (go_simp <;> exact hF)), ?_⟩
  simp only [Act.put, List.setIfInBounds_toArray, List.set_cons_succ, List.set_cons_zero]
  refine ⟨fun j w1 hj hC => by exact Chn.upon_pure hC (fun F hF => by (go_simp <;> exact hF)), ?_⟩
  simp only [Act.put, List.setIfInBounds_toArray, List.set_cons_succ, List.set_cons_zero]
  refine ⟨fun j w1 hj hC => by exact Chn.upon_pure hC (fun F hF => by (go_simp <;> exact hF)), ?_⟩
  simp only [Act.put, List.setIfInBounds_toArray, List.set_cons_succ, List.set_cons_zero]
  refine ⟨fun j w1 hj hC => by
    have z := (K.grow (stC_low hj hC)).cell ha
    exact Chn.upon_pure hC (fun F hF => by (go_simp <;> exact hF)), ?_⟩
  simp only [Act.put, List.setIfInBounds_toArray, List.set_cons_succ, List.set_cons_zero]
  refine ⟨fun j w1 hj hC => by exact Chn.upon_int hC _ (Bit.or_bit (hf a) (hg a)) (fun F hF => by (go_simp <;> exact hF)), ?_⟩
  simp only [Act.put, List.setIfInBounds_toArray, List.set_cons_succ, List.set_cons_zero]
  refine ⟨fun j w1 hj hC => by exact Chn.upon_pure hC (fun F hF => by (go_simp <;> exact hF)), ?_⟩
  simp only [Act.put, List.setIfInBounds_toArray, List.set_cons_succ, List.set_cons_zero]
  intro w5 hC

  go_wp2
  go_ret
  exact ⟨rfl, hC⟩

theorem inter_k {p1 p2 r s n m : Nat} {f g : Nat → Nat} {w : World} (b1 : Boxed w p1 73 (ptr r 0)) (b2 : Boxed w p2 73 (ptr s 0)) (H : RowAt r n f w) (K : RowAt s m g w) (hf : ∀ a, f a < 2 ^ 64) (hg : ∀ a, g a < 2 ^ 64) {a : Nat} (ha : a < 64) : Calls Tryz.prog 133 #[vI a, ptr p1 0, ptr p2 0] w fun e w' => e = .returned (vU ((f a &&& g a : Nat) : Int)) ∧ Below w.heap.size w w' := by
  have ha2 : (a : Int) < 64 := by omega
  go_enter Tryz.func133, Tryz.ntmps133
  go_upto_region 1 with fail
  have hst : (StC w (fun _ => False)) 0 { w with drawn := w.drawn + 1 } := Rel.below_draws (n := 1) (Below.refl _ _)
  refine Chn.wp_region_chainL (StC w (fun _ => False)) [] [0, 0, 0, 0, 0, 0, 0, 0, 0, 0, 0, 0, 0, 0] [ptr r 0, vI a, ptr r 0, ptr r 1, ptr r (1 + a), vU (f a), ptr s 0, vI a, ptr s 0, ptr s 1, ptr s (1 + a), vU (g a), vU ((f a &&& g a : Nat) : Int), vU ((f a &&& g a : Nat) : Int)] (by kernel_rfl) (by kernel_rfl) (by kernel_rfl) (by kernel_rfl) (by kernel_rfl) hst ?_
  clear hst
  refine ⟨fun j w1 hj hC => by
    have z := (boxed_grow b1 (stC_low hj hC)).cell
    exact Chn.upon_pure hC (fun F hF => by (go_simp <;> exact hF)), ?_⟩
  simp only [Act.put, List.setIfInBounds_toArray, List.set_cons_succ, List.set_cons_zero]
  refine ⟨fun j w1 hj hC => by exact Chn.upon_pure hC (fun F hF => by (go_simp <;> exact hF)), ?_⟩
  simp only [Act.put, List.setIfInBounds_toArray, List.set_cons_succ, List.set_cons_zero]
  refine ⟨fun j w1 hj hC => by exact Chn.upon_pure hC (fun F hF => by (go_simp <;> exact hF)), ?_⟩
  simp only [Act.put, List.setIfInBounds_toArray, List.set_cons_succ, List.set_cons_zero]
  refine ⟨fun j w1 hj hC => by exact Chn.upon_pure hC (fun F hF => by (go_simp <;> exact hF)), ?_⟩
  simp only [Act.put, List.setIfInBounds_toArray, List.set_cons_succ, List.set_cons_zero]
  refine ⟨fun j w1 hj hC => by exact Chn.upon_pure hC (fun F hF => by (go_simp <;> exact hF)), ?_⟩
  simp only [Act.put, List.setIfInBounds_toArray, List.set_cons_succ, List.set_cons_zero]
  refine ⟨fun j w1 hj hC => by
    have z := (H.grow (stC_low hj hC)).cell ha
    exact Chn.upon_pure hC (fun F hF => by (go_simp <;> exact hF)), ?_⟩
  simp only [Act.put, List.setIfInBounds_toArray, List.set_cons_succ, List.set_cons_zero]
  refine ⟨fun j w1 hj hC => by
    have z := (boxed_grow b2 (stC_low hj hC)).cell
    exact Chn.upon_pure hC (fun F hF => by (go_simp <;> exact hF)), ?_⟩
  simp only [Act.put, List.setIfInBounds_toArray, List.set_cons_succ, List.set_cons_zero]
  refine ⟨fun j w1 hj hC => by exact Chn.upon_pure hC (fun F hF => by (go_simp <;> exact hF)), ?_⟩
  simp only [Act.put, List.setIfInBounds_toArray, List.set_cons_succ, List.set_cons_zero]
  refine ⟨fun j w1 hj hC => by exact Chn.upon_pure hC (fun F hF => by (go_simp <;> exact hF)), ?_⟩
  simp only [Act.put, List.setIfInBounds_toArray, List.set_cons_succ, List.set_cons_zero]
  refine ⟨fun j w1 hj hC => by exact Chn.upon_pure hC (fun F hF => by (go_simp <;> exact hF)), ?_⟩
  simp only [Act.put, List.setIfInBounds_toArray, List.set_cons_succ, List.set_cons_zero]
  refine ⟨fun j w1 hj hC => by exact Chn.upon_pure hC (fun F hF => by (go_simp <;> exact hF)), ?_⟩
  simp only [Act.put, List.setIfInBounds_toArray, List.set_cons_succ, List.set_cons_zero]
  refine ⟨fun j w1 hj hC => by
    have z := (K.grow (stC_low hj hC)).cell ha
    exact Chn.upon_pure hC (fun F hF => by (go_simp <;> exact hF)), ?_⟩
  simp only [Act.put, List.setIfInBounds_toArray, List.set_cons_succ, List.set_cons_zero]
  refine ⟨fun j w1 hj hC => by exact Chn.upon_int hC _ (Bit.and_bit (hf a) (hg a)) (fun F hF => by (go_simp <;> exact hF)), ?_⟩
  simp only [Act.put, List.setIfInBounds_toArray, List.set_cons_succ, List.set_cons_zero]
  refine ⟨fun j w1 hj hC => by exact Chn.upon_pure hC (fun F hF => by (go_simp <;> exact hF)), ?_⟩
  simp only [Act.put, List.setIfInBounds_toArray, List.set_cons_succ, List.set_cons_zero]
  intro w5 hC

  go_wp2
  go_ret
  exact ⟨rfl, hC⟩

theorem minus_k {p1 p2 r s n m : Nat} {f g : Nat → Nat} {w : World} (b1 : Boxed w p1 73 (ptr r 0)) (b2 : Boxed w p2 73 (ptr s 0)) (H : RowAt r n f w) (K : RowAt s m g w) (hf : ∀ a, f a < 2 ^ 64) (hg : ∀ a, g a < 2 ^ 64) {a : Nat} (ha : a < 64) : Calls Tryz.prog 144 #[vI a, ptr p1 0, ptr p2 0] w fun e w' => e = .returned (vU ((Bit.less (f a) (g a) : Nat) : Int)) ∧ Below w.heap.size w w' := by
  have ha2 : (a : Int) < 64 := by omega
  go_enter Tryz.func144, Tryz.ntmps144
  go_upto_region 1 with fail
  have hst : (StC w (fun _ => False)) 0 { w with drawn := w.drawn + 1 } := Rel.below_draws (n := 1) (Below.refl _ _)
  refine Chn.wp_region_chainL (StC w (fun _ => False)) [] [0, 0, 0, 0, 0, 0, 0, 0, 0, 0, 0, 0, 0, 0] [ptr r 0, vI a, ptr r 0, ptr r 1, ptr r (1 + a), vU (f a), ptr s 0, vI a, ptr s 0, ptr s 1, ptr s (1 + a), vU (g a), vU ((Bit.less (f a) (g a) : Nat) : Int), vU ((Bit.less (f a) (g a) : Nat) : Int)] (by kernel_rfl) (by kernel_rfl) (by kernel_rfl) (by kernel_rfl) (by kernel_rfl) hst ?_
  clear hst
  refine ⟨fun j w1 hj hC => by
    have z := (boxed_grow b1 (stC_low hj hC)).cell
    exact Chn.upon_pure hC (fun F hF => by (go_simp <;> exact hF)), ?_⟩
  simp only [Act.put, List.setIfInBounds_toArray, List.set_cons_succ, List.set_cons_zero]
  refine ⟨fun j w1 hj hC => by exact Chn.upon_pure hC (fun F hF => by (go_simp <;> exact hF)), ?_⟩
  simp only [Act.put, List.setIfInBounds_toArray, List.set_cons_succ, List.set_cons_zero]
  refine ⟨fun j w1 hj hC => by exact Chn.upon_pure hC (fun F hF => by (go_simp <;> exact hF)), ?_⟩
  simp only [Act.put, List.setIfInBounds_toArray, List.set_cons_succ, List.set_cons_zero]
  refine ⟨fun j w1 hj hC => by exact Chn.upon_pure hC (fun F hF => by (go_simp <;> exact hF)), ?_⟩
  simp only [Act.put, List.setIfInBounds_toArray, List.set_cons_succ, List.set_cons_zero]
  refine ⟨fun j w1 hj hC => by exact Chn.upon_pure hC (fun F hF => by (go_simp <;> exact hF)), ?_⟩
  simp only [Act.put, List.setIfInBounds_toArray, List.set_cons_succ, List.set_cons_zero]
  refine ⟨fun j w1 hj hC => by
    have z := (H.grow (stC_low hj hC)).cell ha
    exact Chn.upon_pure hC (fun F hF => by (go_simp <;> exact hF)), ?_⟩
  simp only [Act.put, List.setIfInBounds_toArray, List.set_cons_succ, List.set_cons_zero]
  refine ⟨fun j w1 hj hC => by
    have z := (boxed_grow b2 (stC_low hj hC)).cell
    exact Chn.upon_pure hC (fun F hF => by (go_simp <;> exact hF)), ?_⟩
  simp only [Act.put, List.setIfInBounds_toArray, List.set_cons_succ, List.set_cons_zero]
  refine ⟨fun j w1 hj hC => by exact Chn.upon_pure hC (fun F hF => by (go_simp <;> exact hF)), ?_⟩
  simp only [Act.put, List.setIfInBounds_toArray, List.set_cons_succ, List.set_cons_zero]
  refine ⟨fun j w1 hj hC => by exact Chn.upon_pure hC (fun F hF => by (go_simp <;> exact hF)), ?_⟩
  simp only [Act.put, List.setIfInBounds_toArray, List.set_cons_succ, List.set_cons_zero]
  refine ⟨fun j w1 hj hC => by exact Chn.upon_pure hC (fun F hF => by (go_simp <;> exact hF)), ?_⟩
  simp only [Act.put, List.setIfInBounds_toArray, List.set_cons_succ, List.set_cons_zero]
  refine ⟨fun j w1 hj hC => by exact Chn.upon_pure hC (fun F hF => by (go_simp <;> exact hF)), ?_⟩
  simp only [Act.put, List.setIfInBounds_toArray, List.set_cons_succ, List.set_cons_zero]
  refine ⟨fun j w1 hj hC => by
    have z := (K.grow (stC_low hj hC)).cell ha
    exact Chn.upon_pure hC (fun F hF => by (go_simp <;> exact hF)), ?_⟩
  simp only [Act.put, List.setIfInBounds_toArray, List.set_cons_succ, List.set_cons_zero]
  refine ⟨fun j w1 hj hC => by exact Chn.upon_int hC _ (andnot_bit (hf a) (hg a)) (fun F hF => by (go_simp <;> exact hF)), ?_⟩
  simp only [Act.put, List.setIfInBounds_toArray, List.set_cons_succ, List.set_cons_zero]
  refine ⟨fun j w1 hj hC => by exact Chn.upon_pure hC (fun F hF => by (go_simp <;> exact hF)), ?_⟩
  simp only [Act.put, List.setIfInBounds_toArray, List.set_cons_succ, List.set_cons_zero]
  intro w5 hC

  go_wp2
  go_ret
  exact ⟨rfl, hC⟩

theorem then_k {p1 p2 r s n m : Nat} {f g : Nat → Nat} {w : World} (b1 : Boxed w p1 73 (ptr s 0)) (b2 : Boxed w p2 73 (ptr r 0)) (H : RowAt r n f w) (K : RowAt s m g w) (hf : ∀ a, f a < 2 ^ 64) (hg : ∀ a, g a < 2 ^ 64) (hT : Tab w) {a : Nat} (ha : a < 64) : Calls Tryz.prog 139 #[vI a, ptr p1 0, ptr p2 0] w fun e w' => e = .returned (vU ((accW g (els (f a)) : Nat) : Int)) ∧ Below w.heap.size w w' := by
  have ha2 : (a : Int) < 64 := by omega
  go_enter Tryz.func139, Tryz.ntmps139
  go_upto_region 1 with fail
  have hst : (StC w (fun _ => False)) 0 { w with drawn := w.drawn + 1 } := Rel.below_draws (n := 1) (Below.refl _ _)
  refine Chn.wp_region_chainL (StC w (fun _ => False)) [] [0, 0, 0, 0, 0, 0, 0, 0, 0] [ptr s 0, ptr r 0, vI a, ptr r 0, ptr r 1, ptr r (1 + a), vU (f a), vU ((accW g (els (f a)) : Nat) : Int), vU ((accW g (els (f a)) : Nat) : Int)] (by kernel_rfl) (by kernel_rfl) (by kernel_rfl) (by kernel_rfl) (by kernel_rfl) hst ?_
  clear hst
  refine ⟨fun j w1 hj hC => by
    have z := (boxed_grow b1 (stC_low hj hC)).cell
    exact Chn.upon_pure hC (fun F hF => by (go_simp <;> exact hF)), ?_⟩
  simp only [Act.put, List.setIfInBounds_toArray, List.set_cons_succ, List.set_cons_zero]
  refine ⟨fun j w1 hj hC => by
    have z := (boxed_grow b2 (stC_low hj hC)).cell
    exact Chn.upon_pure hC (fun F hF => by (go_simp <;> exact hF)), ?_⟩
  simp only [Act.put, List.setIfInBounds_toArray, List.set_cons_succ, List.set_cons_zero]
  refine ⟨fun j w1 hj hC => by exact Chn.upon_pure hC (fun F hF => by (go_simp <;> exact hF)), ?_⟩
  simp only [Act.put, List.setIfInBounds_toArray, List.set_cons_succ, List.set_cons_zero]
  refine ⟨fun j w1 hj hC => by exact Chn.upon_pure hC (fun F hF => by (go_simp <;> exact hF)), ?_⟩
  simp only [Act.put, List.setIfInBounds_toArray, List.set_cons_succ, List.set_cons_zero]
  refine ⟨fun j w1 hj hC => by exact Chn.upon_pure hC (fun F hF => by (go_simp <;> exact hF)), ?_⟩
  simp only [Act.put, List.setIfInBounds_toArray, List.set_cons_succ, List.set_cons_zero]
  refine ⟨fun j w1 hj hC => by exact Chn.upon_pure hC (fun F hF => by (go_simp <;> exact hF)), ?_⟩
  simp only [Act.put, List.setIfInBounds_toArray, List.set_cons_succ, List.set_cons_zero]
  refine ⟨fun j w1 hj hC => by
    have z := (H.grow (stC_low hj hC)).cell ha
    exact Chn.upon_pure hC (fun F hF => by (go_simp <;> exact hF)), ?_⟩
  simp only [Act.put, List.setIfInBounds_toArray, List.set_cons_succ, List.set_cons_zero]
  refine ⟨fun j w1 hj hC => by
    exact Chn.upon_call (C := (StC w (fun _ => False)) j) (from_c (K.grow (stC_low hj hC)) hg (hT.grow (stC_low hj hC)) (f a) (hf a)) (fun e2 w2 hh => ⟨hh.1, by obtain rfl : j = 0 := Nat.le_zero.1 hj; exact below_then hC (Nat.le_refl _) hh.2⟩) (fun F hF => by (go_simp <;> exact hF)), ?_⟩
  simp only [Act.put, List.setIfInBounds_toArray, List.set_cons_succ, List.set_cons_zero]
  refine ⟨fun j w1 hj hC => by exact Chn.upon_pure hC (fun F hF => by (go_simp <;> exact hF)), ?_⟩
  simp only [Act.put, List.setIfInBounds_toArray, List.set_cons_succ, List.set_cons_zero]
  intro w5 hC
  go_wp2
  go_ret
  exact ⟨rfl, hC⟩

set_option maxHeartbeats 1000000 in
theorem union_no {r s n m : Nat} {f g : Nat → Nat} {w : World} (H : RowAt r n f w) (K : RowAt s m g w) (hnm : n ≠ m) : Calls Tryz.prog 90 #[ptr r 0, ptr s 0] w fun e w' => e = .returned (.tuple #[.pointer none, vI 6]) ∧ Below w.heap.size w w' := by
  go_enter Tryz.func90, Tryz.ntmps90
  go_upto_region 1 with fail
  have hB : Below w.heap.size w ((w.alloc (Obj.cells #[ptr r 0] 73)).alloc (Obj.cells #[ptr s 0] 73)) := ((Below.refl _ w).alloc (Nat.le_refl _) _).alloc (by simp) _
  have b1 : Boxed ((w.alloc (Obj.cells #[ptr r 0] 73)).alloc (Obj.cells #[ptr s 0] 73)) w.heap.size 73 (ptr r 0) := (Boxed.new w 73 (ptr r 0)).alloc _
  have b2 : Boxed ((w.alloc (Obj.cells #[ptr r 0] 73)).alloc (Obj.cells #[ptr s 0] 73)) (w.heap.size + 1) 73 (ptr s 0) := by
    have := Boxed.new (w.alloc (Obj.cells #[ptr r 0] 73)) 73 (ptr s 0)
    rwa [World.size_alloc] at this
  have H1 := H.grow hB
  have K1 := K.grow hB
  generalize ((w.alloc (Obj.cells #[ptr r 0] 73)).alloc (Obj.cells #[ptr s 0] 73)) = W at *
  have c1 := b1.cell
  have c2 := b2.cell
  have hm := matched_no H1 K1 hnm (.func (.func 132) #[] #[ptr w.heap.size 0, ptr (w.heap.size + 1) 0])
  go_wp2_with (first | (go_at_call 131; with_reducible refine hm.mono ?_; rintro e w2 ⟨rfl, hB2⟩; dsimp only))
  go_ret2
  exact ⟨rfl, hB.trans (hB2.mono hB.size)⟩
set_option maxHeartbeats 1000000 in
theorem union_c {r s n : Nat} {f g : Nat → Nat} {w : World} (H : RowAt r n f w) (K : RowAt s n g w) (hn : n ≤ 64) (hf : ∀ a, f a < 2 ^ 64) (hg : ∀ a, g a < 2 ^ 64) (hT : Tab w) : Calls Tryz.prog 90 #[ptr r 0, ptr s 0] w fun e w' => ∃ q, e = .returned (.tuple #[ptr q 0, vI 0]) ∧ RowAt q n (fun a => if a < n then f a ||| g a else 0) w' ∧ w.heap.size ≤ q ∧ Below w.heap.size w w' := by
  go_enter Tryz.func90, Tryz.ntmps90
  go_upto_region 1 with fail
  have hB : Below w.heap.size w ((w.alloc (Obj.cells #[ptr r 0] 73)).alloc (Obj.cells #[ptr s 0] 73)) := ((Below.refl _ w).alloc (Nat.le_refl _) _).alloc (by simp) _
  have b1 : Boxed ((w.alloc (Obj.cells #[ptr r 0] 73)).alloc (Obj.cells #[ptr s 0] 73)) w.heap.size 73 (ptr r 0) := (Boxed.new w 73 (ptr r 0)).alloc _
  have b2 : Boxed ((w.alloc (Obj.cells #[ptr r 0] 73)).alloc (Obj.cells #[ptr s 0] 73)) (w.heap.size + 1) 73 (ptr s 0) := by
    have := Boxed.new (w.alloc (Obj.cells #[ptr r 0] 73)) 73 (ptr s 0)
    rwa [World.size_alloc] at this
  have H1 := H.grow hB
  have K1 := K.grow hB
  have T1 := hT.grow hB
  generalize ((w.alloc (Obj.cells #[ptr r 0] 73)).alloc (Obj.cells #[ptr s 0] 73)) = W at *
  have c1 := b1.cell
  have c2 := b2.cell
  have hm := matched_c H1 K1 hn 132 (ptr w.heap.size 0) (ptr (w.heap.size + 1) 0) (fun a => f a ||| g a) (enters_of Tryz.func132 (by kernel_rfl) rfl) (fun a ha W' hW' => union_k (boxed_grow b1 hW') (boxed_grow b2 hW') (H1.grow hW') (K1.grow hW') hf hg (by omega))
  go_wp2_with (first | (go_at_call 131; with_reducible refine hm.mono ?_; rintro e w2 ⟨q, rfl, hR, hq, hB2⟩; dsimp only))
  go_ret2
  exact ⟨q, rfl, hR, Nat.le_trans hB.size hq, hB.trans (hB2.mono hB.size)⟩

set_option maxHeartbeats 1000000 in
theorem inter_no {r s n m : Nat} {f g : Nat → Nat} {w : World} (H : RowAt r n f w) (K : RowAt s m g w) (hnm : n ≠ m) : Calls Tryz.prog 91 #[ptr r 0, ptr s 0] w fun e w' => e = .returned (.tuple #[.pointer none, vI 6]) ∧ Below w.heap.size w w' := by
  go_enter Tryz.func91, Tryz.ntmps91
  go_upto_region 1 with fail
  have hB : Below w.heap.size w ((w.alloc (Obj.cells #[ptr r 0] 73)).alloc (Obj.cells #[ptr s 0] 73)) := ((Below.refl _ w).alloc (Nat.le_refl _) _).alloc (by simp) _
  have b1 : Boxed ((w.alloc (Obj.cells #[ptr r 0] 73)).alloc (Obj.cells #[ptr s 0] 73)) w.heap.size 73 (ptr r 0) := (Boxed.new w 73 (ptr r 0)).alloc _
  have b2 : Boxed ((w.alloc (Obj.cells #[ptr r 0] 73)).alloc (Obj.cells #[ptr s 0] 73)) (w.heap.size + 1) 73 (ptr s 0) := by
    have := Boxed.new (w.alloc (Obj.cells #[ptr r 0] 73)) 73 (ptr s 0)
    rwa [World.size_alloc] at this
  have H1 := H.grow hB
  have K1 := K.grow hB
  generalize ((w.alloc (Obj.cells #[ptr r 0] 73)).alloc (Obj.cells #[ptr s 0] 73)) = W at *
  have c1 := b1.cell
  have c2 := b2.cell
  have hm := matched_no H1 K1 hnm (.func (.func 133) #[] #[ptr w.heap.size 0, ptr (w.heap.size + 1) 0])
  go_wp2_with (first | (go_at_call 131; with_reducible refine hm.mono ?_; rintro e w2 ⟨rfl, hB2⟩; dsimp only))
  go_ret2
  exact ⟨rfl, hB.trans (hB2.mono hB.size)⟩
set_option maxHeartbeats 1000000 in
theorem inter_c {r s n : Nat} {f g : Nat → Nat} {w : World} (H : RowAt r n f w) (K : RowAt s n g w) (hn : n ≤ 64) (hf : ∀ a, f a < 2 ^ 64) (hg : ∀ a, g a < 2 ^ 64) (hT : Tab w) : Calls Tryz.prog 91 #[ptr r 0, ptr s 0] w fun e w' => ∃ q, e = .returned (.tuple #[ptr q 0, vI 0]) ∧ RowAt q n (fun a => if a < n then f a &&& g a else 0) w' ∧ w.heap.size ≤ q ∧ Below w.heap.size w w' := by
  go_enter Tryz.func91, Tryz.ntmps91
  go_upto_region 1 with fail
  have hB : Below w.heap.size w ((w.alloc (Obj.cells #[ptr r 0] 73)).alloc (Obj.cells #[ptr s 0] 73)) := ((Below.refl _ w).alloc (Nat.le_refl _) _).alloc (by simp) _
  have b1 : Boxed ((w.alloc (Obj.cells #[ptr r 0] 73)).alloc (Obj.cells #[ptr s 0] 73)) w.heap.size 73 (ptr r 0) := (Boxed.new w 73 (ptr r 0)).alloc _
  have b2 : Boxed ((w.alloc (Obj.cells #[ptr r 0] 73)).alloc (Obj.cells #[ptr s 0] 73)) (w.heap.size + 1) 73 (ptr s 0) := by
    have := Boxed.new (w.alloc (Obj.cells #[ptr r 0] 73)) 73 (ptr s 0)
    rwa [World.size_alloc] at this
  have H1 := H.grow hB
  have K1 := K.grow hB
  have T1 := hT.grow hB
  generalize ((w.alloc (Obj.cells #[ptr r 0] 73)).alloc (Obj.cells #[ptr s 0] 73)) = W at *
  have c1 := b1.cell
  have c2 := b2.cell
  have hm := matched_c H1 K1 hn 133 (ptr w.heap.size 0) (ptr (w.heap.size + 1) 0) (fun a => f a &&& g a) (enters_of Tryz.func133 (by kernel_rfl) rfl) (fun a ha W' hW' => inter_k (boxed_grow b1 hW') (boxed_grow b2 hW') (H1.grow hW') (K1.grow hW') hf hg (by omega))
  go_wp2_with (first | (go_at_call 131; with_reducible refine hm.mono ?_; rintro e w2 ⟨q, rfl, hR, hq, hB2⟩; dsimp only))
  go_ret2
  exact ⟨q, rfl, hR, Nat.le_trans hB.size hq, hB.trans (hB2.mono hB.size)⟩

set_option maxHeartbeats 1000000 in
theorem minus_no {r s n m : Nat} {f g : Nat → Nat} {w : World} (H : RowAt r n f w) (K : RowAt s m g w) (hnm : n ≠ m) : Calls Tryz.prog 138 #[ptr r 0, ptr s 0] w fun e w' => e = .returned (.tuple #[.pointer none, vI 6]) ∧ Below w.heap.size w w' := by
  go_enter Tryz.func138, Tryz.ntmps138
  go_upto_region 1 with fail
  have hB : Below w.heap.size w ((w.alloc (Obj.cells #[ptr r 0] 73)).alloc (Obj.cells #[ptr s 0] 73)) := ((Below.refl _ w).alloc (Nat.le_refl _) _).alloc (by simp) _
  have b1 : Boxed ((w.alloc (Obj.cells #[ptr r 0] 73)).alloc (Obj.cells #[ptr s 0] 73)) w.heap.size 73 (ptr r 0) := (Boxed.new w 73 (ptr r 0)).alloc _
  have b2 : Boxed ((w.alloc (Obj.cells #[ptr r 0] 73)).alloc (Obj.cells #[ptr s 0] 73)) (w.heap.size + 1) 73 (ptr s 0) := by
    have := Boxed.new (w.alloc (Obj.cells #[ptr r 0] 73)) 73 (ptr s 0)
    rwa [World.size_alloc] at this
  have H1 := H.grow hB
  have K1 := K.grow hB
  generalize ((w.alloc (Obj.cells #[ptr r 0] 73)).alloc (Obj.cells #[ptr s 0] 73)) = W at *
  have c1 := b1.cell
  have c2 := b2.cell
  have hm := matched_no H1 K1 hnm (.func (.func 144) #[] #[ptr w.heap.size 0, ptr (w.heap.size + 1) 0])
  go_wp2_with (first | (go_at_call 131; with_reducible refine hm.mono ?_; rintro e w2 ⟨rfl, hB2⟩; dsimp only))
  go_ret2
  exact ⟨rfl, hB.trans (hB2.mono hB.size)⟩
set_option maxHeartbeats 1000000 in
theorem minus_c {r s n : Nat} {f g : Nat → Nat} {w : World} (H : RowAt r n f w) (K : RowAt s n g w) (hn : n ≤ 64) (hf : ∀ a, f a < 2 ^ 64) (hg : ∀ a, g a < 2 ^ 64) (hT : Tab w) : Calls Tryz.prog 138 #[ptr r 0, ptr s 0] w fun e w' => ∃ q, e = .returned (.tuple #[ptr q 0, vI 0]) ∧ RowAt q n (fun a => if a < n then Bit.less (f a) (g a) else 0) w' ∧ w.heap.size ≤ q ∧ Below w.heap.size w w' := by
  go_enter Tryz.func138, Tryz.ntmps138
  go_upto_region 1 with fail
  have hB : Below w.heap.size w ((w.alloc (Obj.cells #[ptr r 0] 73)).alloc (Obj.cells #[ptr s 0] 73)) := ((Below.refl _ w).alloc (Nat.le_refl _) _).alloc (by simp) _
  have b1 : Boxed ((w.alloc (Obj.cells #[ptr r 0] 73)).alloc (Obj.cells #[ptr s 0] 73)) w.heap.size 73 (ptr r 0) := (Boxed.new w 73 (ptr r 0)).alloc _
  have b2 : Boxed ((w.alloc (Obj.cells #[ptr r 0] 73)).alloc (Obj.cells #[ptr s 0] 73)) (w.heap.size + 1) 73 (ptr s 0) := by
    have := Boxed.new (w.alloc (Obj.cells #[ptr r 0] 73)) 73 (ptr s 0)
    rwa [World.size_alloc] at this
  have H1 := H.grow hB
  have K1 := K.grow hB
  have T1 := hT.grow hB
  generalize ((w.alloc (Obj.cells #[ptr r 0] 73)).alloc (Obj.cells #[ptr s 0] 73)) = W at *
  have c1 := b1.cell
  have c2 := b2.cell
  have hm := matched_c H1 K1 hn 144 (ptr w.heap.size 0) (ptr (w.heap.size + 1) 0) (fun a => Bit.less (f a) (g a)) (enters_of Tryz.func144 (by kernel_rfl) rfl) (fun a ha W' hW' => minus_k (boxed_grow b1 hW') (boxed_grow b2 hW') (H1.grow hW') (K1.grow hW') hf hg (by omega))
  go_wp2_with (first | (go_at_call 131; with_reducible refine hm.mono ?_; rintro e w2 ⟨q, rfl, hR, hq, hB2⟩; dsimp only))
  go_ret2
  exact ⟨q, rfl, hR, Nat.le_trans hB.size hq, hB.trans (hB2.mono hB.size)⟩

set_option maxHeartbeats 1000000 in
theorem then_no {r s n m : Nat} {f g : Nat → Nat} {w : World} (H : RowAt r n f w) (K : RowAt s m g w) (hnm : n ≠ m) : Calls Tryz.prog 104 #[ptr r 0, ptr s 0] w fun e w' => e = .returned (.tuple #[.pointer none, vI 6]) ∧ Below w.heap.size w w' := by
  go_enter Tryz.func104, Tryz.ntmps104
  go_upto_region 1 with fail
  have hB : Below w.heap.size w ((w.alloc (Obj.cells #[ptr r 0] 73)).alloc (Obj.cells #[ptr s 0] 73)) := ((Below.refl _ w).alloc (Nat.le_refl _) _).alloc (by simp) _
  have b1 : Boxed ((w.alloc (Obj.cells #[ptr r 0] 73)).alloc (Obj.cells #[ptr s 0] 73)) w.heap.size 73 (ptr r 0) := (Boxed.new w 73 (ptr r 0)).alloc _
  have b2 : Boxed ((w.alloc (Obj.cells #[ptr r 0] 73)).alloc (Obj.cells #[ptr s 0] 73)) (w.heap.size + 1) 73 (ptr s 0) := by
    have := Boxed.new (w.alloc (Obj.cells #[ptr r 0] 73)) 73 (ptr s 0)
    rwa [World.size_alloc] at this
  have H1 := H.grow hB
  have K1 := K.grow hB
  generalize ((w.alloc (Obj.cells #[ptr r 0] 73)).alloc (Obj.cells #[ptr s 0] 73)) = W at *
  have c1 := b1.cell
  have c2 := b2.cell
  have hm := matched_no H1 K1 hnm (.func (.func 139) #[] #[ptr (w.heap.size + 1) 0, ptr w.heap.size 0])
  go_wp2_with (first | (go_at_call 131; with_reducible refine hm.mono ?_; rintro e w2 ⟨rfl, hB2⟩; dsimp only))
  go_ret2
  exact ⟨rfl, hB.trans (hB2.mono hB.size)⟩
set_option maxHeartbeats 1000000 in
theorem then_c {r s n : Nat} {f g : Nat → Nat} {w : World} (H : RowAt r n f w) (K : RowAt s n g w) (hn : n ≤ 64) (hf : ∀ a, f a < 2 ^ 64) (hg : ∀ a, g a < 2 ^ 64) (hT : Tab w) : Calls Tryz.prog 104 #[ptr r 0, ptr s 0] w fun e w' => ∃ q, e = .returned (.tuple #[ptr q 0, vI 0]) ∧ RowAt q n (fun a => if a < n then accW g (els (f a)) else 0) w' ∧ w.heap.size ≤ q ∧ Below w.heap.size w w' := by
  go_enter Tryz.func104, Tryz.ntmps104
  go_upto_region 1 with fail
  have hB : Below w.heap.size w ((w.alloc (Obj.cells #[ptr r 0] 73)).alloc (Obj.cells #[ptr s 0] 73)) := ((Below.refl _ w).alloc (Nat.le_refl _) _).alloc (by simp) _
  have b1 : Boxed ((w.alloc (Obj.cells #[ptr r 0] 73)).alloc (Obj.cells #[ptr s 0] 73)) w.heap.size 73 (ptr r 0) := (Boxed.new w 73 (ptr r 0)).alloc _
  have b2 : Boxed ((w.alloc (Obj.cells #[ptr r 0] 73)).alloc (Obj.cells #[ptr s 0] 73)) (w.heap.size + 1) 73 (ptr s 0) := by
    have := Boxed.new (w.alloc (Obj.cells #[ptr r 0] 73)) 73 (ptr s 0)
    rwa [World.size_alloc] at this
  have H1 := H.grow hB
  have K1 := K.grow hB
  have T1 := hT.grow hB
  generalize ((w.alloc (Obj.cells #[ptr r 0] 73)).alloc (Obj.cells #[ptr s 0] 73)) = W at *
  have c1 := b1.cell
  have c2 := b2.cell
  have hm := matched_c H1 K1 hn 139 (ptr (w.heap.size + 1) 0) (ptr w.heap.size 0) (fun a => accW g (els (f a))) (enters_of Tryz.func139 (by kernel_rfl) rfl) (fun a ha W' hW' => then_k (boxed_grow b2 hW') (boxed_grow b1 hW') (H1.grow hW') (K1.grow hW') hf hg (T1.grow hW') (by omega))
  go_wp2_with (first | (go_at_call 131; with_reducible refine hm.mono ?_; rintro e w2 ⟨q, rfl, hR, hq, hB2⟩; dsimp only))
  go_ret2
  exact ⟨q, rfl, hR, Nat.le_trans hB.size hq, hB.trans (hB2.mono hB.size)⟩
end Go.Proofs.YtnedkielehmneaaGreatDoor
