/- from: what one pair leads to, from one of several. -/
import Derived.Test.YtnedkielehmneaaGreatDoorRd
namespace Go.Proofs.YtnedkielehmneaaGreatDoor
open Go.RowKit
set_option linter.unusedVariables false
set_option linter.unusedSimpArgs false
set_option maxRecDepth 8000

open Go.Shelf
attribute [local go_sem] Oper.semAt_some
/-- The words of several things, one over the other. -/
def accW (f : Nat → Nat) (l : List Int) : Nat := l.foldl (fun acc x => acc ||| f x.toNat) 0
theorem accW_snoc (f : Nat → Nat) (l : List Int) (x : Nat) : accW f (l ++ [(x : Int)]) = accW f l ||| f x := by simp [accW]
theorem accW_lt {f : Nat → Nat} (hf : ∀ a, f a < 2 ^ 64) (l : List Int) : accW f l < 2 ^ 64 := by
  unfold accW
  have key : ∀ (l : List Int) (a : Nat), a < 2 ^ 64 → l.foldl (fun acc x => acc ||| f x.toNat) a < 2 ^ 64 := by
    intro l
    induction l with
    | nil => intro a h; exact h
    | cons x l ih => intro a h; exact ih _ (Nat.or_lt_two_pow h (hf _))
  exact key l 0 (by decide)
theorem accW_test (f : Nat → Nat) (l : List Int) (c : Nat) : (accW f l).testBit c = l.any fun x => (f x.toNat).testBit c := by
  unfold accW
  have key : ∀ (l : List Int) (a : Nat), (l.foldl (fun acc x => acc ||| f x.toNat) a).testBit c = (a.testBit c || l.any fun x => (f x.toNat).testBit c) := by
    intro l
    induction l with
    | nil => intro a; simp
    | cons x l ih => intro a; rw [List.foldl_cons, ih, Nat.testBit_or, List.any_cons, Bool.or_assoc]
  rw [key]; simp
def FrI (s n : Nat) (f : Nat → Nat) (w : World) (pre : List Int) (W : World) : Prop := Boxed W w.heap.size 73 (ptr s 0) ∧ Boxed W (w.heap.size + 1) 94 (vU (accW f pre)) ∧ RowAt s n f W ∧ Below w.heap.size w W ∧ Tab W
theorem boxed_turn {B q : Nat} {t : TypeId} {v : Value} {W W' : World} (h : Boxed W q t v) (k : Rg.Turn B W W') : Boxed W' q t v := k.cells h
theorem boxed_grow {q : Nat} {t : TypeId} {v : Value} {W W' : World} (h : Boxed W q t v) (k : Below W.heap.size W W') : Boxed W' q t v := by
  unfold Boxed at *
  rw [k.block q (lt_of_some h)]; exact h
theorem FrI.turn {s n : Nat} {f : Nat → Nat} {w : World} {pre : List Int} {B : Nat} {W W' : World} (h : FrI s n f w pre W) (k : Rg.Turn B W W') (hB : w.heap.size < B) : FrI s n f w pre W' :=
  ⟨boxed_turn h.1 k, boxed_turn h.2.1 k, h.2.2.1.turn k, h.2.2.2.1.trans (k.below (by omega) h.2.2.2.1.size), h.2.2.2.2.turn k (by omega)⟩
def FrC (s n : Nat) (f : Nat → Nat) (w : World) (pre : List Int) (B : Nat) (W : World) : Nat → World → Prop
  | 0, w1 => Below W.heap.size W w1
  | 1, w1 => KeepsFrom B W w1 ∧ FrI s n f w pre w1
  | _, _ => False
theorem keeps_below {B : Nat} {W w1 : World} (h : Below W.heap.size W w1) : KeepsFrom B W w1 := Rg.keeps_goes (F := fun _ => False) (goes_of_below h) (fun _ h => h.elim)
theorem frC_low {s n : Nat} {f : Nat → Nat} {w : World} {pre : List Int} {B : Nat} {W w1 : World} {j : Nat} (hj : j ≤ 0) (hC : FrC s n f w pre B W j w1) : Below W.heap.size W w1 := by
  obtain rfl : j = 0 := by omega
  exact hC
theorem frC_put {s n x : Nat} {f : Nat → Nat} {w : World} {pre : List Int} {B : Nat} {W w1 : World} (hI : FrI s n f w pre W) (hC : Below W.heap.size W w1) : FrC s n f w (pre ++ [(x : Int)]) B W 1 (w1.setCell ⟨w.heap.size + 1, 0, none⟩ (vU ((accW f pre ||| f x : Nat) : Int))) := by
  have b0 := boxed_grow hI.1 hC
  have b1 := boxed_grow hI.2.1 hC
  have kk : ∀ k, k ≠ w.heap.size + 1 → (w1.setCell ⟨w.heap.size + 1, 0, none⟩ (vU ((accW f pre ||| f x : Nat) : Int))).heap[k]? = w1.heap[k]? := fun k hk => Below.heap_setCell _ _ _ _ hk
  have hr := hI.2.2.1.grow hC
  have hb : Below w.heap.size w w1 := hI.2.2.2.1.trans (hC.mono hI.2.2.2.1.size)
  refine ⟨(keeps_below hC).trans ((KeepsOthers.setCell _ _ _).from B), ?_, ?_, ?_, ?_, ?_⟩
  · unfold Boxed; rw [kk _ (by omega)]; exact b0
  · rw [accW_snoc]; exact b1.set _
  · exact hr.keep (kk _ fun e => by
      have h2 : w1.heap[s]? = _ := hr
      rw [e] at h2
      exact ne_of_type h2 b1 (by decide) rfl)
  · exact hb.setCell (p := ⟨w.heap.size + 1, 0, none⟩) (by show w.heap.size ≤ w.heap.size + 1; omega) _
  · have := hI.2.2.2.2.grow hC
    exact this.keep (kk _ (by omega))
set_option maxHeartbeats 1000000 in
theorem from_c {s n : Nat} {f : Nat → Nat} {w : World} (H : RowAt s n f w) (hf : ∀ a, f a < 2 ^ 64) (hT : Tab w) (v : Nat) (hv : v < 2 ^ 64) : Calls Tryz.prog 140 #[ptr s 0, vU v] w fun e w' => e = .returned (vU (accW f (els v))) ∧ Below w.heap.size w w' := by
  refine Rg.calls_marks Tryz.func140 rfl ?_
  simp only [Tryz.ntmps140, List.size_toArray, List.length_cons, List.length_nil, Nat.reduceAdd, Nat.reduceSub, Array.replicate_succ, Array.replicate_zero, List.push_toArray, List.append_toArray, List.nil_append, List.cons_append]
  go_wp2
  have b0 : Boxed ((w.alloc (Obj.cells #[ptr s 0] 73)).alloc (Obj.cells #[Value.int IntKind.u64 0] 94)) w.heap.size 73 (ptr s 0) := (Boxed.new w 73 (ptr s 0)).alloc _
  have b1 : Boxed ((w.alloc (Obj.cells #[ptr s 0] 73)).alloc (Obj.cells #[Value.int IntKind.u64 0] 94)) (w.heap.size + 1) 94 (vU 0) := by
    have := Boxed.new (w.alloc (Obj.cells #[ptr s 0] 73)) 94 (vU 0)
    rwa [World.size_alloc] at this
  have hB0 : Below w.heap.size w ((w.alloc (Obj.cells #[ptr s 0] 73)).alloc (Obj.cells #[Value.int IntKind.u64 0] 94)) := ((Below.refl _ w).alloc (Nat.le_refl _) _).alloc (by simp) _
  have hsz : ((w.alloc (Obj.cells #[ptr s 0] 73)).alloc (Obj.cells #[Value.int IntKind.u64 0] 94)).heap.size = w.heap.size + 2 := by simp
  generalize ((w.alloc (Obj.cells #[ptr s 0] 73)).alloc (Obj.cells #[Value.int IntKind.u64 0] 94)) = W0 at *
  refine wp_each v hv rfl (FrI s n f w) (fun pre W W' h k => h.turn k (by omega)) (fun pre W h => h.2.2.2.2) ⟨b0, b1, H.grow hB0, hB0, hT.grow hB0⟩ (fun x => { tmps := #[ptr s 0, vU v, ptr w.heap.size 0, undef, Value.int IntKind.u64 0, ptr (w.heap.size + 1) 0, vI x, vU v, Value.func (Fn.func 85) #[vU v] #[], vI x, undef, undef, undef, undef, undef, undef, undef, undef, undef], defers := [] }) ?assign ?body ?done
  case assign =>
    intro l x W K hK
    gi_wp2
    exact hK
  case body =>
    intro l pre x W hI hx hvx hpre
    have hlt := accW_lt hf pre
    refine wpIn_block ?_
    have hx2 : (x : Int) < 64 := by omega
    have hst : (FrC s n f w (pre ++ [(x : Int)]) W0.heap.size W) 0 { W with drawn := W.drawn + 1 } := Rel.below_draws (n := 1) (Below.refl _ _)
    refine Rg.region_round (by kernel_rfl) (by kernel_rfl) (by rintro ⟨_, _, h⟩; exact h) ?_
    refine Chn.wpAny_region_chainL (FrC s n f w (pre ++ [(x : Int)]) W0.heap.size W) [8] [0, 0, 1, 1, 1, 1, 0, 1, 1] [vU (accW f pre), ptr s 0, vI x, ptr s 0, ptr s 1, ptr s (1 + x), vU (f x), vU ((accW f pre ||| f x : Nat) : Int), undef] (by kernel_rfl) (by kernel_rfl) (by kernel_rfl) (by kernel_rfl) hst ?_
    clear hst
    refine ⟨fun j w1 hj hC => by
      have z := (boxed_grow hI.2.1 (frC_low hj hC)).cell
      exact Chn.upon_pure hC (fun F hF => by (go_simp <;> exact hF)), ?_⟩
    simp only [Act.put, List.setIfInBounds_toArray, List.set_cons_succ, List.set_cons_zero]
    refine ⟨fun j w1 hj hC => by
      have z := (boxed_grow hI.1 (frC_low hj hC)).cell
      exact Chn.upon_pure hC (fun F hF => by (go_simp <;> exact hF)), ?_⟩
    simp only [Act.put, List.setIfInBounds_toArray, List.set_cons_succ, List.set_cons_zero]
    refine ⟨fun j w1 hj hC => by exact Chn.upon_pure hC (fun F hF => by (go_simp <;> exact hF)), ?_⟩
    simp only [Act.put, List.setIfInBounds_toArray, List.set_cons_succ, List.set_cons_zero]
    refine ⟨fun j w1 hj hC => by exact Chn.upon_pure hC (fun F hF => by (go_simp <;> exact hF)), ?_⟩
    simp only [Act.put, List.setIfInBounds_toArray, List.set_cons_succ, List.set_cons_zero]
    refine ⟨fun j w1 hj hC => by exact Chn.upon_pure hC (fun F hF => by (go_simp <;> exact hF)), ?_⟩
    simp only [Act.put, List.setIfInBounds_toArray, List.set_cons_succ, List.set_cons_zero]
    refine ⟨fun j w1 hj hC => by exact Chn.upon_pure hC (fun F hF => by (go_simp <;> exact hF)), ?_⟩
    simp only [Act.put, List.setIfInBounds_toArray, List.set_cons_succ, List.set_cons_zero]
    refine ⟨fun j w1 hj hC => by
      have z := (hI.2.2.1.grow (frC_low hj hC)).cell hx
      exact Chn.upon_pure hC (fun F hF => by (go_simp <;> exact hF)), ?_⟩
    simp only [Act.put, List.setIfInBounds_toArray, List.set_cons_succ, List.set_cons_zero]
    refine ⟨fun j w1 hj hC => by exact Chn.upon_int hC _ (Bit.or_bit hlt (hf x)) (fun F hF => by (go_simp <;> exact hF)), ?_⟩
    simp only [Act.put, List.setIfInBounds_toArray, List.set_cons_succ, List.set_cons_zero]
    refine ⟨fun w1 hC => by
      exact chn_store (C := (FrC s n f w (pre ++ [(x : Int)]) W0.heap.size W) 1) 94 _ _ rfl (w.heap.size + 1) (0) rfl (vU ((accW f pre ||| f x : Nat) : Int)) rfl (run_cell w1 94 _ 0 _ _ inf67 rfl rfl (boxed_grow hI.2.1 hC).cell (boxed_grow hI.2.1 hC).frozen) (frC_put hI hC), ?_⟩
    simp only [Act.put, List.setIfInBounds_toArray, List.set_cons_succ, List.set_cons_zero]
    intro w5 hC

    exact hC
  case done =>
    intro D W hD hI hK
    have hc := hI.2.1.cell
    go_wp2
    exact Rg.ret_marks (Ds := [D]) (w.heap.size + 1) ⟨by simp, fun E hE => by rw [List.mem_singleton.1 hE]; exact hK⟩ (fun E hE => by rw [List.mem_singleton.1 hE]; omega) (fun w' => results_tmp rfl _ _ _) fun w' ht => ⟨rfl, hI.2.2.2.1.trans (ht.below (by omega) hI.2.2.2.1.size)⟩
end Go.Proofs.YtnedkielehmneaaGreatDoor
