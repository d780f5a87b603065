/- The law's step: the document's call, the program's, both answers. -/
import Derived.Test.YtpmlehfnlodmbaaVd
import Derived.Test.YtpmlehfnlodmbaaKd
namespace Go.Proofs.Ytpmlehfnlodmbaa
open Go.RowKit
set_option linter.unusedVariables false
set_option linter.unusedSimpArgs false
set_option maxRecDepth 8000

def PD (B : Nat) (w0 : World) (g h n : Nat) (Q : Pg) (Y : Doc.Ref) (M : Doc.RLay) (wb : Nat) (w' : World) : Prop := ∃ L', PU B w0 g h n Q Y L' M wb w'
/-- Both controllers, and the step's own copy of its entry. -/
def PB (B : Nat) (w0 : World) (g h n : Nat) (P : Pg) (X : Doc.Ref) (L : GLay) (M : Doc.RLay) (wb b : Nat) (o : St5) (w : World) : Prop := PU B w0 g h n P X L M wb w ∧ w.heap[b]? = some (.cells o.row.toArray 35) ∧ ¬ Doc.RFoot h n M b
def SC (S0 S1 : World → Prop) : Nat → World → Prop
  | 0, w => S0 w
  | 1, w => S1 w
  | _, _ => False
section
variable {B : Nat} {w0 : World} {g h n : Nat} {P Q : Pg} {X Y : Doc.Ref} {L : GLay} {M : Doc.RLay} {wb b : Nat} {o : St5} {w w' : World}
theorem PB.draw (H : PB B w0 g h n P X L M wb b o w) : PB B w0 g h n P X L M wb b o { w with drawn := w.drawn + 1 } :=
  ⟨H.1.grow (Rel.below_draws (n := 1) (Below.refl _ _)), H.2.1, H.2.2⟩
theorem PB.doc (H : PB B w0 g h n P X L M wb b o w) (T : Doc.RTurn h n M Y w w') : PB B w0 g h n P Y L M wb b o w' :=
  ⟨H.1.doc T, by rw [T.2.block b (lt_of_some H.2.1) H.2.2]; exact H.2.1, H.2.2⟩
theorem PB.box (H : PU B w0 g h n P X L M wb w) (hb : Below w.heap.size w w') (hn : w'.heap[w.heap.size]? = some (.cells o.row.toArray 35)) : PB B w0 g h n P X L M wb w.heap.size o w' :=
  ⟨H.grow hb, hn, fun hk => Nat.lt_irrefl _ (H.ref.lt hk)⟩
set_option maxHeartbeats 2000000 in
theorem step_0 (H : PU B w0 g h n P X L M wb w) (c id nn : Int) (on : Bool) (E : Int) (hd : ∀ w, Doc.RefAt h n X M w → Calls Try.prog 32 #[ptr h 0, vI 0, vI c, vI id, .bool on, vI nn] w fun e w' => e = .returned (vI E) ∧ Doc.RTurn h n M Y w w') (hp : ∀ w, GicAt g n P L w → Calls Try.prog 26 #[ptr g 0, vI c, vI id, .bool on] w fun e w' => e = .returned (vI E) ∧ GTL g n L Q w w') : Calls Try.prog 12 #[ptr wb 0, St5.val ⟨0, c, id, nn, on⟩] w fun e w' => e = .returned (.bool true) ∧ PD B w0 g h n Q Y M wb w' := by
  go_enter Try.func12, Try.ntmps12
  go_upto_region 1 with fail
  generalize hw2 : World.alloc _ _ = w2
  have B2 : Below w.heap.size w w2 := by rw [← hw2]; exact below_alloc _ _
  have hb : w2.heap[w.heap.size]? = some (.cells (St5.row ⟨0, c, id, nn, on⟩).toArray 35) := by rw [← hw2]; exact heap_alloc_new _ _
  have hB : PB B w0 g h n P X L M wb w.heap.size ⟨0, c, id, nn, on⟩ w2 := PB.box H B2 hb
  clear hw2 B2
  obtain ⟨z0, _, _, _, _⟩ := row_st hb
  go_upto_region 6 with fail
  clear z0 hb
  refine Chn.wp_region_chainL (SC (PB B w0 g h n P X L M wb w.heap.size ⟨0, c, id, nn, on⟩) (PB B w0 g h n P Y L M wb w.heap.size ⟨0, c, id, nn, on⟩)) [14] [1, 1, 1, 0, 1, 0, 1, 0, 1, 0, 1, 0, 1, 0, 1, 1] [ptr wb 0, ptr wb 0, ptr wb 1, ptr h 0, ptr w.heap.size 0, vI 0, ptr w.heap.size 1, vI c, ptr w.heap.size 2, vI id, ptr w.heap.size 4, .bool on, ptr w.heap.size 3, vI nn, vI E, vI E] (by kernel_rfl) (by kernel_rfl) (by kernel_rfl) (by kernel_rfl) (by kernel_rfl) (PB.draw hB) ?_
  iterate 3 (refine ⟨fun j w1 hj hC => by exact Chn.upon_pure hC (fun F hF => by (go_simp <;> exact hF)), ?_⟩; simp only [Act.put, List.setIfInBounds_toArray, List.set_cons_succ, List.set_cons_zero])
  refine ⟨fun j w1 hj hC => by
    obtain rfl : j = 0 := Nat.le_zero.1 hj
    have z := PU.c1 hC.1
    exact Chn.upon_pure hC (fun F hF => by (go_simp <;> exact hF)), ?_⟩
  simp only [Act.put, List.setIfInBounds_toArray, List.set_cons_succ, List.set_cons_zero]
  (refine ⟨fun j w1 hj hC => by exact Chn.upon_pure hC (fun F hF => by (go_simp <;> exact hF)), ?_⟩; simp only [Act.put, List.setIfInBounds_toArray, List.set_cons_succ, List.set_cons_zero])
  refine ⟨fun j w1 hj hC => by
    obtain rfl : j = 0 := Nat.le_zero.1 hj
    obtain ⟨z0, z1, z2, z3, z4⟩ := row_st hC.2.1
    exact Chn.upon_pure hC (fun F hF => by (go_simp <;> exact hF)), ?_⟩
  simp only [Act.put, List.setIfInBounds_toArray, List.set_cons_succ, List.set_cons_zero]
  (refine ⟨fun j w1 hj hC => by exact Chn.upon_pure hC (fun F hF => by (go_simp <;> exact hF)), ?_⟩; simp only [Act.put, List.setIfInBounds_toArray, List.set_cons_succ, List.set_cons_zero])
  refine ⟨fun j w1 hj hC => by
    obtain rfl : j = 0 := Nat.le_zero.1 hj
    obtain ⟨z0, z1, z2, z3, z4⟩ := row_st hC.2.1
    exact Chn.upon_pure hC (fun F hF => by (go_simp <;> exact hF)), ?_⟩
  simp only [Act.put, List.setIfInBounds_toArray, List.set_cons_succ, List.set_cons_zero]
  (refine ⟨fun j w1 hj hC => by exact Chn.upon_pure hC (fun F hF => by (go_simp <;> exact hF)), ?_⟩; simp only [Act.put, List.setIfInBounds_toArray, List.set_cons_succ, List.set_cons_zero])
  refine ⟨fun j w1 hj hC => by
    obtain rfl : j = 0 := Nat.le_zero.1 hj
    obtain ⟨z0, z1, z2, z3, z4⟩ := row_st hC.2.1
    exact Chn.upon_pure hC (fun F hF => by (go_simp <;> exact hF)), ?_⟩
  simp only [Act.put, List.setIfInBounds_toArray, List.set_cons_succ, List.set_cons_zero]
  (refine ⟨fun j w1 hj hC => by exact Chn.upon_pure hC (fun F hF => by (go_simp <;> exact hF)), ?_⟩; simp only [Act.put, List.setIfInBounds_toArray, List.set_cons_succ, List.set_cons_zero])
  refine ⟨fun j w1 hj hC => by
    obtain rfl : j = 0 := Nat.le_zero.1 hj
    obtain ⟨z0, z1, z2, z3, z4⟩ := row_st hC.2.1
    exact Chn.upon_pure hC (fun F hF => by (go_simp <;> exact hF)), ?_⟩
  simp only [Act.put, List.setIfInBounds_toArray, List.set_cons_succ, List.set_cons_zero]
  (refine ⟨fun j w1 hj hC => by exact Chn.upon_pure hC (fun F hF => by (go_simp <;> exact hF)), ?_⟩; simp only [Act.put, List.setIfInBounds_toArray, List.set_cons_succ, List.set_cons_zero])
  refine ⟨fun j w1 hj hC => by
    obtain rfl : j = 0 := Nat.le_zero.1 hj
    obtain ⟨z0, z1, z2, z3, z4⟩ := row_st hC.2.1
    exact Chn.upon_pure hC (fun F hF => by (go_simp <;> exact hF)), ?_⟩
  simp only [Act.put, List.setIfInBounds_toArray, List.set_cons_succ, List.set_cons_zero]
  refine ⟨fun w1 hC => by
    exact Chn.upon_call (C := (SC (PB B w0 g h n P X L M wb w.heap.size ⟨0, c, id, nn, on⟩) (PB B w0 g h n P Y L M wb w.heap.size ⟨0, c, id, nn, on⟩)) 1) (hd w1 hC.1.ref) (fun e2 w2' hh => ⟨hh.1, PB.doc hC hh.2⟩) (fun F hF => by (go_simp <;> exact hF)), ?_⟩
  simp only [Act.put, List.setIfInBounds_toArray, List.set_cons_succ, List.set_cons_zero]
  (refine ⟨fun j w1 hj hC => by exact Chn.upon_pure hC (fun F hF => by (go_simp <;> exact hF)), ?_⟩; simp only [Act.put, List.setIfInBounds_toArray, List.set_cons_succ, List.set_cons_zero])
  clear hB
  intro w5 hB
  replace hB : (PB B w0 g h n P Y L M wb w.heap.size ⟨0, c, id, nn, on⟩) w5 := hB
  obtain ⟨z0, _, _, _, _⟩ := row_st hB.2.1
  go_upto_region 10 with fail
  clear z0
  refine Chn.wp_region_chainL (SC (PB B w0 g h n P Y L M wb w.heap.size ⟨0, c, id, nn, on⟩) (PD B w0 g h n Q Y M wb)) [10] [1, 1, 1, 0, 1, 0, 1, 0, 1, 0, 1, 1] [ptr wb 0, ptr wb 0, ptr wb 0, ptr g 0, ptr w.heap.size 1, vI c, ptr w.heap.size 2, vI id, ptr w.heap.size 4, .bool on, vI E, vI E] (by kernel_rfl) (by kernel_rfl) (by kernel_rfl) (by kernel_rfl) (by kernel_rfl) (PB.draw hB) ?_
  iterate 3 (refine ⟨fun j w1 hj hC => by exact Chn.upon_pure hC (fun F hF => by (go_simp <;> exact hF)), ?_⟩; simp only [Act.put, List.setIfInBounds_toArray, List.set_cons_succ, List.set_cons_zero])
  refine ⟨fun j w1 hj hC => by
    obtain rfl : j = 0 := Nat.le_zero.1 hj
    have z := PU.c0 hC.1
    exact Chn.upon_pure hC (fun F hF => by (go_simp <;> exact hF)), ?_⟩
  simp only [Act.put, List.setIfInBounds_toArray, List.set_cons_succ, List.set_cons_zero]
  (refine ⟨fun j w1 hj hC => by exact Chn.upon_pure hC (fun F hF => by (go_simp <;> exact hF)), ?_⟩; simp only [Act.put, List.setIfInBounds_toArray, List.set_cons_succ, List.set_cons_zero])
  refine ⟨fun j w1 hj hC => by
    obtain rfl : j = 0 := Nat.le_zero.1 hj
    obtain ⟨z0, z1, z2, z3, z4⟩ := row_st hC.2.1
    exact Chn.upon_pure hC (fun F hF => by (go_simp <;> exact hF)), ?_⟩
  simp only [Act.put, List.setIfInBounds_toArray, List.set_cons_succ, List.set_cons_zero]
  (refine ⟨fun j w1 hj hC => by exact Chn.upon_pure hC (fun F hF => by (go_simp <;> exact hF)), ?_⟩; simp only [Act.put, List.setIfInBounds_toArray, List.set_cons_succ, List.set_cons_zero])
  refine ⟨fun j w1 hj hC => by
    obtain rfl : j = 0 := Nat.le_zero.1 hj
    obtain ⟨z0, z1, z2, z3, z4⟩ := row_st hC.2.1
    exact Chn.upon_pure hC (fun F hF => by (go_simp <;> exact hF)), ?_⟩
  simp only [Act.put, List.setIfInBounds_toArray, List.set_cons_succ, List.set_cons_zero]
  (refine ⟨fun j w1 hj hC => by exact Chn.upon_pure hC (fun F hF => by (go_simp <;> exact hF)), ?_⟩; simp only [Act.put, List.setIfInBounds_toArray, List.set_cons_succ, List.set_cons_zero])
  refine ⟨fun j w1 hj hC => by
    obtain rfl : j = 0 := Nat.le_zero.1 hj
    obtain ⟨z0, z1, z2, z3, z4⟩ := row_st hC.2.1
    exact Chn.upon_pure hC (fun F hF => by (go_simp <;> exact hF)), ?_⟩
  simp only [Act.put, List.setIfInBounds_toArray, List.set_cons_succ, List.set_cons_zero]
  refine ⟨fun w1 hC => by
    exact Chn.upon_call (C := (SC (PB B w0 g h n P Y L M wb w.heap.size ⟨0, c, id, nn, on⟩) (PD B w0 g h n Q Y M wb)) 1) (hp w1 hC.1.kw.at_) (fun e2 w2' hh => ⟨hh.1, hC.1.prog hh.2⟩) (fun F hF => by (go_simp <;> exact hF)), ?_⟩
  simp only [Act.put, List.setIfInBounds_toArray, List.set_cons_succ, List.set_cons_zero]
  (refine ⟨fun j w1 hj hC => by exact Chn.upon_pure hC (fun F hF => by (go_simp <;> exact hF)), ?_⟩; simp only [Act.put, List.setIfInBounds_toArray, List.set_cons_succ, List.set_cons_zero])
  clear hB
  intro w5 hB
  replace hB : (PD B w0 g h n Q Y M wb) w5 := hB
  go_wp2
  go_ret
  exact ⟨rfl, hB⟩
set_option maxHeartbeats 2000000 in
theorem step_1 (H : PU B w0 g h n P X L M wb w) (c id nn : Int) (on : Bool) (E : Int) (hd : ∀ w, Doc.RefAt h n X M w → Calls Try.prog 32 #[ptr h 0, vI 1, vI c, vI id, .bool on, vI nn] w fun e w' => e = .returned (vI E) ∧ Doc.RTurn h n M Y w w') (hp : ∀ w, GicAt g n P L w → Calls Try.prog 27 #[ptr g 0, vI c, vI id, .bool on] w fun e w' => e = .returned (vI E) ∧ GTL g n L Q w w') : Calls Try.prog 12 #[ptr wb 0, St5.val ⟨1, c, id, nn, on⟩] w fun e w' => e = .returned (.bool true) ∧ PD B w0 g h n Q Y M wb w' := by
  go_enter Try.func12, Try.ntmps12
  go_upto_region 1 with fail
  generalize hw2 : World.alloc _ _ = w2
  have B2 : Below w.heap.size w w2 := by rw [← hw2]; exact below_alloc _ _
  have hb : w2.heap[w.heap.size]? = some (.cells (St5.row ⟨1, c, id, nn, on⟩).toArray 35) := by rw [← hw2]; exact heap_alloc_new _ _
  have hB : PB B w0 g h n P X L M wb w.heap.size ⟨1, c, id, nn, on⟩ w2 := PB.box H B2 hb
  clear hw2 B2
  obtain ⟨z0, _, _, _, _⟩ := row_st hb
  go_upto_region 6 with fail
  clear z0 hb
  refine Chn.wp_region_chainL (SC (PB B w0 g h n P X L M wb w.heap.size ⟨1, c, id, nn, on⟩) (PB B w0 g h n P Y L M wb w.heap.size ⟨1, c, id, nn, on⟩)) [14] [1, 1, 1, 0, 1, 0, 1, 0, 1, 0, 1, 0, 1, 0, 1, 1] [ptr wb 0, ptr wb 0, ptr wb 1, ptr h 0, ptr w.heap.size 0, vI 1, ptr w.heap.size 1, vI c, ptr w.heap.size 2, vI id, ptr w.heap.size 4, .bool on, ptr w.heap.size 3, vI nn, vI E, vI E] (by kernel_rfl) (by kernel_rfl) (by kernel_rfl) (by kernel_rfl) (by kernel_rfl) (PB.draw hB) ?_
  iterate 3 (refine ⟨fun j w1 hj hC => by exact Chn.upon_pure hC (fun F hF => by (go_simp <;> exact hF)), ?_⟩; simp only [Act.put, List.setIfInBounds_toArray, List.set_cons_succ, List.set_cons_zero])
  refine ⟨fun j w1 hj hC => by
    obtain rfl : j = 0 := Nat.le_zero.1 hj
    have z := PU.c1 hC.1
    exact Chn.upon_pure hC (fun F hF => by (go_simp <;> exact hF)), ?_⟩
  simp only [Act.put, List.setIfInBounds_toArray, List.set_cons_succ, List.set_cons_zero]
  (refine ⟨fun j w1 hj hC => by exact Chn.upon_pure hC (fun F hF => by (go_simp <;> exact hF)), ?_⟩; simp only [Act.put, List.setIfInBounds_toArray, List.set_cons_succ, List.set_cons_zero])
  refine ⟨fun j w1 hj hC => by
    obtain rfl : j = 0 := Nat.le_zero.1 hj
    obtain ⟨z0, z1, z2, z3, z4⟩ := row_st hC.2.1
    exact Chn.upon_pure hC (fun F hF => by (go_simp <;> exact hF)), ?_⟩
  simp only [Act.put, List.setIfInBounds_toArray, List.set_cons_succ, List.set_cons_zero]
  (refine ⟨fun j w1 hj hC => by exact Chn.upon_pure hC (fun F hF => by (go_simp <;> exact hF)), ?_⟩; simp only [Act.put, List.setIfInBounds_toArray, List.set_cons_succ, List.set_cons_zero])
  refine ⟨fun j w1 hj hC => by
    obtain rfl : j = 0 := Nat.le_zero.1 hj
    obtain ⟨z0, z1, z2, z3, z4⟩ := row_st hC.2.1
    exact Chn.upon_pure hC (fun F hF => by (go_simp <;> exact hF)), ?_⟩
  simp only [Act.put, List.setIfInBounds_toArray, List.set_cons_succ, List.set_cons_zero]
  (refine ⟨fun j w1 hj hC => by exact Chn.upon_pure hC (fun F hF => by (go_simp <;> exact hF)), ?_⟩; simp only [Act.put, List.setIfInBounds_toArray, List.set_cons_succ, List.set_cons_zero])
  refine ⟨fun j w1 hj hC => by
    obtain rfl : j = 0 := Nat.le_zero.1 hj
    obtain ⟨z0, z1, z2, z3, z4⟩ := row_st hC.2.1
    exact Chn.upon_pure hC (fun F hF => by (go_simp <;> exact hF)), ?_⟩
  simp only [Act.put, List.setIfInBounds_toArray, List.set_cons_succ, List.set_cons_zero]
  (refine ⟨fun j w1 hj hC => by exact Chn.upon_pure hC (fun F hF => by (go_simp <;> exact hF)), ?_⟩; simp only [Act.put, List.setIfInBounds_toArray, List.set_cons_succ, List.set_cons_zero])
  refine ⟨fun j w1 hj hC => by
    obtain rfl : j = 0 := Nat.le_zero.1 hj
    obtain ⟨z0, z1, z2, z3, z4⟩ := row_st hC.2.1
    exact Chn.upon_pure hC (fun F hF => by (go_simp <;> exact hF)), ?_⟩
  simp only [Act.put, List.setIfInBounds_toArray, List.set_cons_succ, List.set_cons_zero]
  (refine ⟨fun j w1 hj hC => by exact Chn.upon_pure hC (fun F hF => by (go_simp <;> exact hF)), ?_⟩; simp only [Act.put, List.setIfInBounds_toArray, List.set_cons_succ, List.set_cons_zero])
  refine ⟨fun j w1 hj hC => by
    obtain rfl : j = 0 := Nat.le_zero.1 hj
    obtain ⟨z0, z1, z2, z3, z4⟩ := row_st hC.2.1
    exact Chn.upon_pure hC (fun F hF => by (go_simp <;> exact hF)), ?_⟩
  simp only [Act.put, List.setIfInBounds_toArray, List.set_cons_succ, List.set_cons_zero]
  refine ⟨fun w1 hC => by
    exact Chn.upon_call (C := (SC (PB B w0 g h n P X L M wb w.heap.size ⟨1, c, id, nn, on⟩) (PB B w0 g h n P Y L M wb w.heap.size ⟨1, c, id, nn, on⟩)) 1) (hd w1 hC.1.ref) (fun e2 w2' hh => ⟨hh.1, PB.doc hC hh.2⟩) (fun F hF => by (go_simp <;> exact hF)), ?_⟩
  simp only [Act.put, List.setIfInBounds_toArray, List.set_cons_succ, List.set_cons_zero]
  (refine ⟨fun j w1 hj hC => by exact Chn.upon_pure hC (fun F hF => by (go_simp <;> exact hF)), ?_⟩; simp only [Act.put, List.setIfInBounds_toArray, List.set_cons_succ, List.set_cons_zero])
  clear hB
  intro w5 hB
  replace hB : (PB B w0 g h n P Y L M wb w.heap.size ⟨1, c, id, nn, on⟩) w5 := hB
  obtain ⟨z0, _, _, _, _⟩ := row_st hB.2.1
  go_upto_region 12 with fail
  clear z0
  refine Chn.wp_region_chainL (SC (PB B w0 g h n P Y L M wb w.heap.size ⟨1, c, id, nn, on⟩) (PD B w0 g h n Q Y M wb)) [10] [1, 1, 1, 0, 1, 0, 1, 0, 1, 0, 1, 1] [ptr wb 0, ptr wb 0, ptr wb 0, ptr g 0, ptr w.heap.size 1, vI c, ptr w.heap.size 2, vI id, ptr w.heap.size 4, .bool on, vI E, vI E] (by kernel_rfl) (by kernel_rfl) (by kernel_rfl) (by kernel_rfl) (by kernel_rfl) (PB.draw hB) ?_
  iterate 3 (refine ⟨fun j w1 hj hC => by exact Chn.upon_pure hC (fun F hF => by (go_simp <;> exact hF)), ?_⟩; simp only [Act.put, List.setIfInBounds_toArray, List.set_cons_succ, List.set_cons_zero])
  refine ⟨fun j w1 hj hC => by
    obtain rfl : j = 0 := Nat.le_zero.1 hj
    have z := PU.c0 hC.1
    exact Chn.upon_pure hC (fun F hF => by (go_simp <;> exact hF)), ?_⟩
  simp only [Act.put, List.setIfInBounds_toArray, List.set_cons_succ, List.set_cons_zero]
  (refine ⟨fun j w1 hj hC => by exact Chn.upon_pure hC (fun F hF => by (go_simp <;> exact hF)), ?_⟩; simp only [Act.put, List.setIfInBounds_toArray, List.set_cons_succ, List.set_cons_zero])
  refine ⟨fun j w1 hj hC => by
    obtain rfl : j = 0 := Nat.le_zero.1 hj
    obtain ⟨z0, z1, z2, z3, z4⟩ := row_st hC.2.1
    exact Chn.upon_pure hC (fun F hF => by (go_simp <;> exact hF)), ?_⟩
  simp only [Act.put, List.setIfInBounds_toArray, List.set_cons_succ, List.set_cons_zero]
  (refine ⟨fun j w1 hj hC => by exact Chn.upon_pure hC (fun F hF => by (go_simp <;> exact hF)), ?_⟩; simp only [Act.put, List.setIfInBounds_toArray, List.set_cons_succ, List.set_cons_zero])
  refine ⟨fun j w1 hj hC => by
    obtain rfl : j = 0 := Nat.le_zero.1 hj
    obtain ⟨z0, z1, z2, z3, z4⟩ := row_st hC.2.1
    exact Chn.upon_pure hC (fun F hF => by (go_simp <;> exact hF)), ?_⟩
  simp only [Act.put, List.setIfInBounds_toArray, List.set_cons_succ, List.set_cons_zero]
  (refine ⟨fun j w1 hj hC => by exact Chn.upon_pure hC (fun F hF => by (go_simp <;> exact hF)), ?_⟩; simp only [Act.put, List.setIfInBounds_toArray, List.set_cons_succ, List.set_cons_zero])
  refine ⟨fun j w1 hj hC => by
    obtain rfl : j = 0 := Nat.le_zero.1 hj
    obtain ⟨z0, z1, z2, z3, z4⟩ := row_st hC.2.1
    exact Chn.upon_pure hC (fun F hF => by (go_simp <;> exact hF)), ?_⟩
  simp only [Act.put, List.setIfInBounds_toArray, List.set_cons_succ, List.set_cons_zero]
  refine ⟨fun w1 hC => by
    exact Chn.upon_call (C := (SC (PB B w0 g h n P Y L M wb w.heap.size ⟨1, c, id, nn, on⟩) (PD B w0 g h n Q Y M wb)) 1) (hp w1 hC.1.kw.at_) (fun e2 w2' hh => ⟨hh.1, hC.1.prog hh.2⟩) (fun F hF => by (go_simp <;> exact hF)), ?_⟩
  simp only [Act.put, List.setIfInBounds_toArray, List.set_cons_succ, List.set_cons_zero]
  (refine ⟨fun j w1 hj hC => by exact Chn.upon_pure hC (fun F hF => by (go_simp <;> exact hF)), ?_⟩; simp only [Act.put, List.setIfInBounds_toArray, List.set_cons_succ, List.set_cons_zero])
  clear hB
  intro w5 hB
  replace hB : (PD B w0 g h n Q Y M wb) w5 := hB
  go_wp2
  go_ret
  exact ⟨rfl, hB⟩
set_option maxHeartbeats 2000000 in
theorem step_2 (H : PU B w0 g h n P X L M wb w) (c id nn : Int) (on : Bool) (E : Int) (hd : ∀ w, Doc.RefAt h n X M w → Calls Try.prog 32 #[ptr h 0, vI 2, vI c, vI id, .bool on, vI nn] w fun e w' => e = .returned (vI E) ∧ Doc.RTurn h n M Y w w') (hp : ∀ w, GicAt g n P L w → Calls Try.prog 33 #[ptr g 0, vI c, vI id, .bool on] w fun e w' => e = .returned (vI E) ∧ GTL g n L Q w w') : Calls Try.prog 12 #[ptr wb 0, St5.val ⟨2, c, id, nn, on⟩] w fun e w' => e = .returned (.bool true) ∧ PD B w0 g h n Q Y M wb w' := by
  go_enter Try.func12, Try.ntmps12
  go_upto_region 1 with fail
  generalize hw2 : World.alloc _ _ = w2
  have B2 : Below w.heap.size w w2 := by rw [← hw2]; exact below_alloc _ _
  have hb : w2.heap[w.heap.size]? = some (.cells (St5.row ⟨2, c, id, nn, on⟩).toArray 35) := by rw [← hw2]; exact heap_alloc_new _ _
  have hB : PB B w0 g h n P X L M wb w.heap.size ⟨2, c, id, nn, on⟩ w2 := PB.box H B2 hb
  clear hw2 B2
  obtain ⟨z0, _, _, _, _⟩ := row_st hb
  go_upto_region 6 with fail
  clear z0 hb
  refine Chn.wp_region_chainL (SC (PB B w0 g h n P X L M wb w.heap.size ⟨2, c, id, nn, on⟩) (PB B w0 g h n P Y L M wb w.heap.size ⟨2, c, id, nn, on⟩)) [14] [1, 1, 1, 0, 1, 0, 1, 0, 1, 0, 1, 0, 1, 0, 1, 1] [ptr wb 0, ptr wb 0, ptr wb 1, ptr h 0, ptr w.heap.size 0, vI 2, ptr w.heap.size 1, vI c, ptr w.heap.size 2, vI id, ptr w.heap.size 4, .bool on, ptr w.heap.size 3, vI nn, vI E, vI E] (by kernel_rfl) (by kernel_rfl) (by kernel_rfl) (by kernel_rfl) (by kernel_rfl) (PB.draw hB) ?_
  iterate 3 (refine ⟨fun j w1 hj hC => by exact Chn.upon_pure hC (fun F hF => by (go_simp <;> exact hF)), ?_⟩; simp only [Act.put, List.setIfInBounds_toArray, List.set_cons_succ, List.set_cons_zero])
  refine ⟨fun j w1 hj hC => by
    obtain rfl : j = 0 := Nat.le_zero.1 hj
    have z := PU.c1 hC.1
    exact Chn.upon_pure hC (fun F hF => by (go_simp <;> exact hF)), ?_⟩
  simp only [Act.put, List.setIfInBounds_toArray, List.set_cons_succ, List.set_cons_zero]
  (refine ⟨fun j w1 hj hC => by exact Chn.upon_pure hC (fun F hF => by (go_simp <;> exact hF)), ?_⟩; simp only [Act.put, List.setIfInBounds_toArray, List.set_cons_succ, List.set_cons_zero])
  refine ⟨fun j w1 hj hC => by
    obtain rfl : j = 0 := Nat.le_zero.1 hj
    obtain ⟨z0, z1, z2, z3, z4⟩ := row_st hC.2.1
    exact Chn.upon_pure hC (fun F hF => by (go_simp <;> exact hF)), ?_⟩
  simp only [Act.put, List.setIfInBounds_toArray, List.set_cons_succ, List.set_cons_zero]
  (refine ⟨fun j w1 hj hC => by exact Chn.upon_pure hC (fun F hF => by (go_simp <;> exact hF)), ?_⟩; simp only [Act.put, List.setIfInBounds_toArray, List.set_cons_succ, List.set_cons_zero])
  refine ⟨fun j w1 hj hC => by
    obtain rfl : j = 0 := Nat.le_zero.1 hj
    obtain ⟨z0, z1, z2, z3, z4⟩ := row_st hC.2.1
    exact Chn.upon_pure hC (fun F hF => by (go_simp <;> exact hF)), ?_⟩
  simp only [Act.put, List.setIfInBounds_toArray, List.set_cons_succ, List.set_cons_zero]
  (refine ⟨fun j w1 hj hC => by exact Chn.upon_pure hC (fun F hF => by (go_simp <;> exact hF)), ?_⟩; simp only [Act.put, List.setIfInBounds_toArray, List.set_cons_succ, List.set_cons_zero])
  refine ⟨fun j w1 hj hC => by
    obtain rfl : j = 0 := Nat.le_zero.1 hj
    obtain ⟨z0, z1, z2, z3, z4⟩ := row_st hC.2.1
    exact Chn.upon_pure hC (fun F hF => by (go_simp <;> exact hF)), ?_⟩
  simp only [Act.put, List.setIfInBounds_toArray, List.set_cons_succ, List.set_cons_zero]
  (refine ⟨fun j w1 hj hC => by exact Chn.upon_pure hC (fun F hF => by (go_simp <;> exact hF)), ?_⟩; simp only [Act.put, List.setIfInBounds_toArray, List.set_cons_succ, List.set_cons_zero])
  refine ⟨fun j w1 hj hC => by
    obtain rfl : j = 0 := Nat.le_zero.1 hj
    obtain ⟨z0, z1, z2, z3, z4⟩ := row_st hC.2.1
    exact Chn.upon_pure hC (fun F hF => by (go_simp <;> exact hF)), ?_⟩
  simp only [Act.put, List.setIfInBounds_toArray, List.set_cons_succ, List.set_cons_zero]
  (refine ⟨fun j w1 hj hC => by exact Chn.upon_pure hC (fun F hF => by (go_simp <;> exact hF)), ?_⟩; simp only [Act.put, List.setIfInBounds_toArray, List.set_cons_succ, List.set_cons_zero])
  refine ⟨fun j w1 hj hC => by
    obtain rfl : j = 0 := Nat.le_zero.1 hj
    obtain ⟨z0, z1, z2, z3, z4⟩ := row_st hC.2.1
    exact Chn.upon_pure hC (fun F hF => by (go_simp <;> exact hF)), ?_⟩
  simp only [Act.put, List.setIfInBounds_toArray, List.set_cons_succ, List.set_cons_zero]
  refine ⟨fun w1 hC => by
    exact Chn.upon_call (C := (SC (PB B w0 g h n P X L M wb w.heap.size ⟨2, c, id, nn, on⟩) (PB B w0 g h n P Y L M wb w.heap.size ⟨2, c, id, nn, on⟩)) 1) (hd w1 hC.1.ref) (fun e2 w2' hh => ⟨hh.1, PB.doc hC hh.2⟩) (fun F hF => by (go_simp <;> exact hF)), ?_⟩
  simp only [Act.put, List.setIfInBounds_toArray, List.set_cons_succ, List.set_cons_zero]
  (refine ⟨fun j w1 hj hC => by exact Chn.upon_pure hC (fun F hF => by (go_simp <;> exact hF)), ?_⟩; simp only [Act.put, List.setIfInBounds_toArray, List.set_cons_succ, List.set_cons_zero])
  clear hB
  intro w5 hB
  replace hB : (PB B w0 g h n P Y L M wb w.heap.size ⟨2, c, id, nn, on⟩) w5 := hB
  obtain ⟨z0, _, _, _, _⟩ := row_st hB.2.1
  go_upto_region 14 with fail
  clear z0
  refine Chn.wp_region_chainL (SC (PB B w0 g h n P Y L M wb w.heap.size ⟨2, c, id, nn, on⟩) (PD B w0 g h n Q Y M wb)) [10] [1, 1, 1, 0, 1, 0, 1, 0, 1, 0, 1, 1] [ptr wb 0, ptr wb 0, ptr wb 0, ptr g 0, ptr w.heap.size 1, vI c, ptr w.heap.size 2, vI id, ptr w.heap.size 4, .bool on, vI E, vI E] (by kernel_rfl) (by kernel_rfl) (by kernel_rfl) (by kernel_rfl) (by kernel_rfl) (PB.draw hB) ?_
  iterate 3 (refine ⟨fun j w1 hj hC => by exact Chn.upon_pure hC (fun F hF => by (go_simp <;> exact hF)), ?_⟩; simp only [Act.put, List.setIfInBounds_toArray, List.set_cons_succ, List.set_cons_zero])
  refine ⟨fun j w1 hj hC => by
    obtain rfl : j = 0 := Nat.le_zero.1 hj
    have z := PU.c0 hC.1
    exact Chn.upon_pure hC (fun F hF => by (go_simp <;> exact hF)), ?_⟩
  simp only [Act.put, List.setIfInBounds_toArray, List.set_cons_succ, List.set_cons_zero]
  (refine ⟨fun j w1 hj hC => by exact Chn.upon_pure hC (fun F hF => by (go_simp <;> exact hF)), ?_⟩; simp only [Act.put, List.setIfInBounds_toArray, List.set_cons_succ, List.set_cons_zero])
  refine ⟨fun j w1 hj hC => by
    obtain rfl : j = 0 := Nat.le_zero.1 hj
    obtain ⟨z0, z1, z2, z3, z4⟩ := row_st hC.2.1
    exact Chn.upon_pure hC (fun F hF => by (go_simp <;> exact hF)), ?_⟩
  simp only [Act.put, List.setIfInBounds_toArray, List.set_cons_succ, List.set_cons_zero]
  (refine ⟨fun j w1 hj hC => by exact Chn.upon_pure hC (fun F hF => by (go_simp <;> exact hF)), ?_⟩; simp only [Act.put, List.setIfInBounds_toArray, List.set_cons_succ, List.set_cons_zero])
  refine ⟨fun j w1 hj hC => by
    obtain rfl : j = 0 := Nat.le_zero.1 hj
    obtain ⟨z0, z1, z2, z3, z4⟩ := row_st hC.2.1
    exact Chn.upon_pure hC (fun F hF => by (go_simp <;> exact hF)), ?_⟩
  simp only [Act.put, List.setIfInBounds_toArray, List.set_cons_succ, List.set_cons_zero]
  (refine ⟨fun j w1 hj hC => by exact Chn.upon_pure hC (fun F hF => by (go_simp <;> exact hF)), ?_⟩; simp only [Act.put, List.setIfInBounds_toArray, List.set_cons_succ, List.set_cons_zero])
  refine ⟨fun j w1 hj hC => by
    obtain rfl : j = 0 := Nat.le_zero.1 hj
    obtain ⟨z0, z1, z2, z3, z4⟩ := row_st hC.2.1
    exact Chn.upon_pure hC (fun F hF => by (go_simp <;> exact hF)), ?_⟩
  simp only [Act.put, List.setIfInBounds_toArray, List.set_cons_succ, List.set_cons_zero]
  refine ⟨fun w1 hC => by
    exact Chn.upon_call (C := (SC (PB B w0 g h n P Y L M wb w.heap.size ⟨2, c, id, nn, on⟩) (PD B w0 g h n Q Y M wb)) 1) (hp w1 hC.1.kw.at_) (fun e2 w2' hh => ⟨hh.1, hC.1.prog hh.2⟩) (fun F hF => by (go_simp <;> exact hF)), ?_⟩
  simp only [Act.put, List.setIfInBounds_toArray, List.set_cons_succ, List.set_cons_zero]
  (refine ⟨fun j w1 hj hC => by exact Chn.upon_pure hC (fun F hF => by (go_simp <;> exact hF)), ?_⟩; simp only [Act.put, List.setIfInBounds_toArray, List.set_cons_succ, List.set_cons_zero])
  clear hB
  intro w5 hB
  replace hB : (PD B w0 g h n Q Y M wb) w5 := hB
  go_wp2
  go_ret
  exact ⟨rfl, hB⟩
set_option maxHeartbeats 2000000 in
theorem step_3 (H : PU B w0 g h n P X L M wb w) (c id nn : Int) (on : Bool) (E : Int) (hd : ∀ w, Doc.RefAt h n X M w → Calls Try.prog 32 #[ptr h 0, vI 3, vI c, vI id, .bool on, vI nn] w fun e w' => e = .returned (vI E) ∧ Doc.RTurn h n M Y w w') (hp : ∀ w, GicAt g n P L w → Calls Try.prog 25 #[ptr g 0, vI c, vI id, vI nn] w fun e w' => e = .returned (vI E) ∧ GTL g n L Q w w') : Calls Try.prog 12 #[ptr wb 0, St5.val ⟨3, c, id, nn, on⟩] w fun e w' => e = .returned (.bool true) ∧ PD B w0 g h n Q Y M wb w' := by
  go_enter Try.func12, Try.ntmps12
  go_upto_region 1 with fail
  generalize hw2 : World.alloc _ _ = w2
  have B2 : Below w.heap.size w w2 := by rw [← hw2]; exact below_alloc _ _
  have hb : w2.heap[w.heap.size]? = some (.cells (St5.row ⟨3, c, id, nn, on⟩).toArray 35) := by rw [← hw2]; exact heap_alloc_new _ _
  have hB : PB B w0 g h n P X L M wb w.heap.size ⟨3, c, id, nn, on⟩ w2 := PB.box H B2 hb
  clear hw2 B2
  obtain ⟨z0, _, _, _, _⟩ := row_st hb
  go_upto_region 6 with fail
  clear z0 hb
  refine Chn.wp_region_chainL (SC (PB B w0 g h n P X L M wb w.heap.size ⟨3, c, id, nn, on⟩) (PB B w0 g h n P Y L M wb w.heap.size ⟨3, c, id, nn, on⟩)) [14] [1, 1, 1, 0, 1, 0, 1, 0, 1, 0, 1, 0, 1, 0, 1, 1] [ptr wb 0, ptr wb 0, ptr wb 1, ptr h 0, ptr w.heap.size 0, vI 3, ptr w.heap.size 1, vI c, ptr w.heap.size 2, vI id, ptr w.heap.size 4, .bool on, ptr w.heap.size 3, vI nn, vI E, vI E] (by kernel_rfl) (by kernel_rfl) (by kernel_rfl) (by kernel_rfl) (by kernel_rfl) (PB.draw hB) ?_
  iterate 3 (refine ⟨fun j w1 hj hC => by exact Chn.upon_pure hC (fun F hF => by (go_simp <;> exact hF)), ?_⟩; simp only [Act.put, List.setIfInBounds_toArray, List.set_cons_succ, List.set_cons_zero])
  refine ⟨fun j w1 hj hC => by
    obtain rfl : j = 0 := Nat.le_zero.1 hj
    have z := PU.c1 hC.1
    exact Chn.upon_pure hC (fun F hF => by (go_simp <;> exact hF)), ?_⟩
  simp only [Act.put, List.setIfInBounds_toArray, List.set_cons_succ, List.set_cons_zero]
  (refine ⟨fun j w1 hj hC => by exact Chn.upon_pure hC (fun F hF => by (go_simp <;> exact hF)), ?_⟩; simp only [Act.put, List.setIfInBounds_toArray, List.set_cons_succ, List.set_cons_zero])
  refine ⟨fun j w1 hj hC => by
    obtain rfl : j = 0 := Nat.le_zero.1 hj
    obtain ⟨z0, z1, z2, z3, z4⟩ := row_st hC.2.1
    exact Chn.upon_pure hC (fun F hF => by (go_simp <;> exact hF)), ?_⟩
  simp only [Act.put, List.setIfInBounds_toArray, List.set_cons_succ, List.set_cons_zero]
  (refine ⟨fun j w1 hj hC => by exact Chn.upon_pure hC (fun F hF => by (go_simp <;> exact hF)), ?_⟩; simp only [Act.put, List.setIfInBounds_toArray, List.set_cons_succ, List.set_cons_zero])
  refine ⟨fun j w1 hj hC => by
    obtain rfl : j = 0 := Nat.le_zero.1 hj
    obtain ⟨z0, z1, z2, z3, z4⟩ := row_st hC.2.1
    exact Chn.upon_pure hC (fun F hF => by (go_simp <;> exact hF)), ?_⟩
  simp only [Act.put, List.setIfInBounds_toArray, List.set_cons_succ, List.set_cons_zero]
  (refine ⟨fun j w1 hj hC => by exact Chn.upon_pure hC (fun F hF => by (go_simp <;> exact hF)), ?_⟩; simp only [Act.put, List.setIfInBounds_toArray, List.set_cons_succ, List.set_cons_zero])
  refine ⟨fun j w1 hj hC => by
    obtain rfl : j = 0 := Nat.le_zero.1 hj
    obtain ⟨z0, z1, z2, z3, z4⟩ := row_st hC.2.1
    exact Chn.upon_pure hC (fun F hF => by (go_simp <;> exact hF)), ?_⟩
  simp only [Act.put, List.setIfInBounds_toArray, List.set_cons_succ, List.set_cons_zero]
  (refine ⟨fun j w1 hj hC => by exact Chn.upon_pure hC (fun F hF => by (go_simp <;> exact hF)), ?_⟩; simp only [Act.put, List.setIfInBounds_toArray, List.set_cons_succ, List.set_cons_zero])
  refine ⟨fun j w1 hj hC => by
    obtain rfl : j = 0 := Nat.le_zero.1 hj
    obtain ⟨z0, z1, z2, z3, z4⟩ := row_st hC.2.1
    exact Chn.upon_pure hC (fun F hF => by (go_simp <;> exact hF)), ?_⟩
  simp only [Act.put, List.setIfInBounds_toArray, List.set_cons_succ, List.set_cons_zero]
  (refine ⟨fun j w1 hj hC => by exact Chn.upon_pure hC (fun F hF => by (go_simp <;> exact hF)), ?_⟩; simp only [Act.put, List.setIfInBounds_toArray, List.set_cons_succ, List.set_cons_zero])
  refine ⟨fun j w1 hj hC => by
    obtain rfl : j = 0 := Nat.le_zero.1 hj
    obtain ⟨z0, z1, z2, z3, z4⟩ := row_st hC.2.1
    exact Chn.upon_pure hC (fun F hF => by (go_simp <;> exact hF)), ?_⟩
  simp only [Act.put, List.setIfInBounds_toArray, List.set_cons_succ, List.set_cons_zero]
  refine ⟨fun w1 hC => by
    exact Chn.upon_call (C := (SC (PB B w0 g h n P X L M wb w.heap.size ⟨3, c, id, nn, on⟩) (PB B w0 g h n P Y L M wb w.heap.size ⟨3, c, id, nn, on⟩)) 1) (hd w1 hC.1.ref) (fun e2 w2' hh => ⟨hh.1, PB.doc hC hh.2⟩) (fun F hF => by (go_simp <;> exact hF)), ?_⟩
  simp only [Act.put, List.setIfInBounds_toArray, List.set_cons_succ, List.set_cons_zero]
  (refine ⟨fun j w1 hj hC => by exact Chn.upon_pure hC (fun F hF => by (go_simp <;> exact hF)), ?_⟩; simp only [Act.put, List.setIfInBounds_toArray, List.set_cons_succ, List.set_cons_zero])
  clear hB
  intro w5 hB
  replace hB : (PB B w0 g h n P Y L M wb w.heap.size ⟨3, c, id, nn, on⟩) w5 := hB
  obtain ⟨z0, _, _, _, _⟩ := row_st hB.2.1
  go_upto_region 16 with fail
  clear z0
  refine Chn.wp_region_chainL (SC (PB B w0 g h n P Y L M wb w.heap.size ⟨3, c, id, nn, on⟩) (PD B w0 g h n Q Y M wb)) [10] [1, 1, 1, 0, 1, 0, 1, 0, 1, 0, 1, 1] [ptr wb 0, ptr wb 0, ptr wb 0, ptr g 0, ptr w.heap.size 1, vI c, ptr w.heap.size 2, vI id, ptr w.heap.size 3, vI nn, vI E, vI E] (by kernel_rfl) (by kernel_rfl) (by kernel_rfl) (by kernel_rfl) (by kernel_rfl) (PB.draw hB) ?_
  iterate 3 (refine ⟨fun j w1 hj hC => by exact Chn.upon_pure hC (fun F hF => by (go_simp <;> exact hF)), ?_⟩; simp only [Act.put, List.setIfInBounds_toArray, List.set_cons_succ, List.set_cons_zero])
  refine ⟨fun j w1 hj hC => by
    obtain rfl : j = 0 := Nat.le_zero.1 hj
    have z := PU.c0 hC.1
    exact Chn.upon_pure hC (fun F hF => by (go_simp <;> exact hF)), ?_⟩
  simp only [Act.put, List.setIfInBounds_toArray, List.set_cons_succ, List.set_cons_zero]
  (refine ⟨fun j w1 hj hC => by exact Chn.upon_pure hC (fun F hF => by (go_simp <;> exact hF)), ?_⟩; simp only [Act.put, List.setIfInBounds_toArray, List.set_cons_succ, List.set_cons_zero])
  refine ⟨fun j w1 hj hC => by
    obtain rfl : j = 0 := Nat.le_zero.1 hj
    obtain ⟨z0, z1, z2, z3, z4⟩ := row_st hC.2.1
    exact Chn.upon_pure hC (fun F hF => by (go_simp <;> exact hF)), ?_⟩
  simp only [Act.put, List.setIfInBounds_toArray, List.set_cons_succ, List.set_cons_zero]
  (refine ⟨fun j w1 hj hC => by exact Chn.upon_pure hC (fun F hF => by (go_simp <;> exact hF)), ?_⟩; simp only [Act.put, List.setIfInBounds_toArray, List.set_cons_succ, List.set_cons_zero])
  refine ⟨fun j w1 hj hC => by
    obtain rfl : j = 0 := Nat.le_zero.1 hj
    obtain ⟨z0, z1, z2, z3, z4⟩ := row_st hC.2.1
    exact Chn.upon_pure hC (fun F hF => by (go_simp <;> exact hF)), ?_⟩
  simp only [Act.put, List.setIfInBounds_toArray, List.set_cons_succ, List.set_cons_zero]
  (refine ⟨fun j w1 hj hC => by exact Chn.upon_pure hC (fun F hF => by (go_simp <;> exact hF)), ?_⟩; simp only [Act.put, List.setIfInBounds_toArray, List.set_cons_succ, List.set_cons_zero])
  refine ⟨fun j w1 hj hC => by
    obtain rfl : j = 0 := Nat.le_zero.1 hj
    obtain ⟨z0, z1, z2, z3, z4⟩ := row_st hC.2.1
    exact Chn.upon_pure hC (fun F hF => by (go_simp <;> exact hF)), ?_⟩
  simp only [Act.put, List.setIfInBounds_toArray, List.set_cons_succ, List.set_cons_zero]
  refine ⟨fun w1 hC => by
    exact Chn.upon_call (C := (SC (PB B w0 g h n P Y L M wb w.heap.size ⟨3, c, id, nn, on⟩) (PD B w0 g h n Q Y M wb)) 1) (hp w1 hC.1.kw.at_) (fun e2 w2' hh => ⟨hh.1, hC.1.prog hh.2⟩) (fun F hF => by (go_simp <;> exact hF)), ?_⟩
  simp only [Act.put, List.setIfInBounds_toArray, List.set_cons_succ, List.set_cons_zero]
  (refine ⟨fun j w1 hj hC => by exact Chn.upon_pure hC (fun F hF => by (go_simp <;> exact hF)), ?_⟩; simp only [Act.put, List.setIfInBounds_toArray, List.set_cons_succ, List.set_cons_zero])
  clear hB
  intro w5 hB
  replace hB : (PD B w0 g h n Q Y M wb) w5 := hB
  go_wp2
  go_ret
  exact ⟨rfl, hB⟩
set_option maxHeartbeats 2000000 in
theorem step_4 (H : PU B w0 g h n P X L M wb w) (c id nn : Int) (on : Bool) (E : Int) (hd : ∀ w, Doc.RefAt h n X M w → Calls Try.prog 34 #[ptr h 0, vI id, vI c] w fun e w' => e = .returned (vI E) ∧ Doc.RTurn h n M Y w w') (hp : ∀ w, GicAt g n P L w → Calls Try.prog 35 #[ptr g 0, vI id, vI c] w fun e w' => e = .returned (vI E) ∧ GTL g n L Q w w') : Calls Try.prog 12 #[ptr wb 0, St5.val ⟨4, c, id, nn, on⟩] w fun e w' => e = .returned (.bool true) ∧ PD B w0 g h n Q Y M wb w' := by
  go_enter Try.func12, Try.ntmps12
  go_upto_region 1 with fail
  generalize hw2 : World.alloc _ _ = w2
  have B2 : Below w.heap.size w w2 := by rw [← hw2]; exact below_alloc _ _
  have hb : w2.heap[w.heap.size]? = some (.cells (St5.row ⟨4, c, id, nn, on⟩).toArray 35) := by rw [← hw2]; exact heap_alloc_new _ _
  have hB : PB B w0 g h n P X L M wb w.heap.size ⟨4, c, id, nn, on⟩ w2 := PB.box H B2 hb
  clear hw2 B2
  obtain ⟨z0, _, _, _, _⟩ := row_st hb
  go_upto_region 19 with fail
  clear z0 hb
  refine Chn.wp_region_chainL (SC (PB B w0 g h n P X L M wb w.heap.size ⟨4, c, id, nn, on⟩) (PB B w0 g h n P Y L M wb w.heap.size ⟨4, c, id, nn, on⟩)) [8] [1, 1, 1, 0, 1, 0, 1, 0, 1, 1] [ptr wb 0, ptr wb 0, ptr wb 1, ptr h 0, ptr w.heap.size 2, vI id, ptr w.heap.size 1, vI c, vI E, vI E] (by kernel_rfl) (by kernel_rfl) (by kernel_rfl) (by kernel_rfl) (by kernel_rfl) (PB.draw hB) ?_
  iterate 3 (refine ⟨fun j w1 hj hC => by exact Chn.upon_pure hC (fun F hF => by (go_simp <;> exact hF)), ?_⟩; simp only [Act.put, List.setIfInBounds_toArray, List.set_cons_succ, List.set_cons_zero])
  refine ⟨fun j w1 hj hC => by
    obtain rfl : j = 0 := Nat.le_zero.1 hj
    have z := PU.c1 hC.1
    exact Chn.upon_pure hC (fun F hF => by (go_simp <;> exact hF)), ?_⟩
  simp only [Act.put, List.setIfInBounds_toArray, List.set_cons_succ, List.set_cons_zero]
  (refine ⟨fun j w1 hj hC => by exact Chn.upon_pure hC (fun F hF => by (go_simp <;> exact hF)), ?_⟩; simp only [Act.put, List.setIfInBounds_toArray, List.set_cons_succ, List.set_cons_zero])
  refine ⟨fun j w1 hj hC => by
    obtain rfl : j = 0 := Nat.le_zero.1 hj
    obtain ⟨z0, z1, z2, z3, z4⟩ := row_st hC.2.1
    exact Chn.upon_pure hC (fun F hF => by (go_simp <;> exact hF)), ?_⟩
  simp only [Act.put, List.setIfInBounds_toArray, List.set_cons_succ, List.set_cons_zero]
  (refine ⟨fun j w1 hj hC => by exact Chn.upon_pure hC (fun F hF => by (go_simp <;> exact hF)), ?_⟩; simp only [Act.put, List.setIfInBounds_toArray, List.set_cons_succ, List.set_cons_zero])
  refine ⟨fun j w1 hj hC => by
    obtain rfl : j = 0 := Nat.le_zero.1 hj
    obtain ⟨z0, z1, z2, z3, z4⟩ := row_st hC.2.1
    exact Chn.upon_pure hC (fun F hF => by (go_simp <;> exact hF)), ?_⟩
  simp only [Act.put, List.setIfInBounds_toArray, List.set_cons_succ, List.set_cons_zero]
  refine ⟨fun w1 hC => by
    exact Chn.upon_call (C := (SC (PB B w0 g h n P X L M wb w.heap.size ⟨4, c, id, nn, on⟩) (PB B w0 g h n P Y L M wb w.heap.size ⟨4, c, id, nn, on⟩)) 1) (hd w1 hC.1.ref) (fun e2 w2' hh => ⟨hh.1, PB.doc hC hh.2⟩) (fun F hF => by (go_simp <;> exact hF)), ?_⟩
  simp only [Act.put, List.setIfInBounds_toArray, List.set_cons_succ, List.set_cons_zero]
  (refine ⟨fun j w1 hj hC => by exact Chn.upon_pure hC (fun F hF => by (go_simp <;> exact hF)), ?_⟩; simp only [Act.put, List.setIfInBounds_toArray, List.set_cons_succ, List.set_cons_zero])
  clear hB
  intro w5 hB
  replace hB : (PB B w0 g h n P Y L M wb w.heap.size ⟨4, c, id, nn, on⟩) w5 := hB
  go_upto_region 20 with fail
  refine Chn.wp_region_chainL (SC (PB B w0 g h n P Y L M wb w.heap.size ⟨4, c, id, nn, on⟩) (PD B w0 g h n Q Y M wb)) [8] [1, 1, 1, 0, 1, 0, 1, 0, 1, 1, 1, 1] [ptr wb 0, ptr wb 0, ptr wb 0, ptr g 0, ptr w.heap.size 2, vI id, ptr w.heap.size 1, vI c, vI E, vI E, .bool true, .bool true] (by kernel_rfl) (by kernel_rfl) (by kernel_rfl) (by kernel_rfl) (by kernel_rfl) (PB.draw hB) ?_
  iterate 3 (refine ⟨fun j w1 hj hC => by exact Chn.upon_pure hC (fun F hF => by (go_simp <;> exact hF)), ?_⟩; simp only [Act.put, List.setIfInBounds_toArray, List.set_cons_succ, List.set_cons_zero])
  refine ⟨fun j w1 hj hC => by
    obtain rfl : j = 0 := Nat.le_zero.1 hj
    have z := PU.c0 hC.1
    exact Chn.upon_pure hC (fun F hF => by (go_simp <;> exact hF)), ?_⟩
  simp only [Act.put, List.setIfInBounds_toArray, List.set_cons_succ, List.set_cons_zero]
  (refine ⟨fun j w1 hj hC => by exact Chn.upon_pure hC (fun F hF => by (go_simp <;> exact hF)), ?_⟩; simp only [Act.put, List.setIfInBounds_toArray, List.set_cons_succ, List.set_cons_zero])
  refine ⟨fun j w1 hj hC => by
    obtain rfl : j = 0 := Nat.le_zero.1 hj
    obtain ⟨z0, z1, z2, z3, z4⟩ := row_st hC.2.1
    exact Chn.upon_pure hC (fun F hF => by (go_simp <;> exact hF)), ?_⟩
  simp only [Act.put, List.setIfInBounds_toArray, List.set_cons_succ, List.set_cons_zero]
  (refine ⟨fun j w1 hj hC => by exact Chn.upon_pure hC (fun F hF => by (go_simp <;> exact hF)), ?_⟩; simp only [Act.put, List.setIfInBounds_toArray, List.set_cons_succ, List.set_cons_zero])
  refine ⟨fun j w1 hj hC => by
    obtain rfl : j = 0 := Nat.le_zero.1 hj
    obtain ⟨z0, z1, z2, z3, z4⟩ := row_st hC.2.1
    exact Chn.upon_pure hC (fun F hF => by (go_simp <;> exact hF)), ?_⟩
  simp only [Act.put, List.setIfInBounds_toArray, List.set_cons_succ, List.set_cons_zero]
  refine ⟨fun w1 hC => by
    exact Chn.upon_call (C := (SC (PB B w0 g h n P Y L M wb w.heap.size ⟨4, c, id, nn, on⟩) (PD B w0 g h n Q Y M wb)) 1) (hp w1 hC.1.kw.at_) (fun e2 w2' hh => ⟨hh.1, hC.1.prog hh.2⟩) (fun F hF => by (go_simp <;> exact hF)), ?_⟩
  simp only [Act.put, List.setIfInBounds_toArray, List.set_cons_succ, List.set_cons_zero]
  (refine ⟨fun j w1 hj hC => by exact Chn.upon_pure hC (fun F hF => by (go_simp <;> exact hF)), ?_⟩; simp only [Act.put, List.setIfInBounds_toArray, List.set_cons_succ, List.set_cons_zero])
  (refine ⟨fun j w1 hj hC => by exact Chn.upon_pure hC (fun F hF => by (go_simp <;> exact hF)), ?_⟩; simp only [Act.put, List.setIfInBounds_toArray, List.set_cons_succ, List.set_cons_zero])
  (refine ⟨fun j w1 hj hC => by exact Chn.upon_pure hC (fun F hF => by (go_simp <;> exact hF)), ?_⟩; simp only [Act.put, List.setIfInBounds_toArray, List.set_cons_succ, List.set_cons_zero])
  clear hB
  intro w5 hB
  replace hB : (PD B w0 g h n Q Y M wb) w5 := hB
  go_wp2
  go_ret
  exact ⟨rfl, hB⟩
set_option maxHeartbeats 2000000 in
theorem step_5 (H : PU B w0 g h n P X L M wb w) (c id nn : Int) (on : Bool) (E : Int) (hd : ∀ w, Doc.RefAt h n X M w → Calls Try.prog 36 #[ptr h 0, vI c, vI nn] w fun e w' => e = .returned (vI E) ∧ Doc.RTurn h n M Y w w') (hp : ∀ w, GicAt g n P L w → Calls Try.prog 37 #[ptr g 0, vI c, vI nn] w fun e w' => e = .returned (vI E) ∧ GTL g n L Q w w') : Calls Try.prog 12 #[ptr wb 0, St5.val ⟨5, c, id, nn, on⟩] w fun e w' => e = .returned (.bool true) ∧ PD B w0 g h n Q Y M wb w' := by
  go_enter Try.func12, Try.ntmps12
  go_upto_region 1 with fail
  generalize hw2 : World.alloc _ _ = w2
  have B2 : Below w.heap.size w w2 := by rw [← hw2]; exact below_alloc _ _
  have hb : w2.heap[w.heap.size]? = some (.cells (St5.row ⟨5, c, id, nn, on⟩).toArray 35) := by rw [← hw2]; exact heap_alloc_new _ _
  have hB : PB B w0 g h n P X L M wb w.heap.size ⟨5, c, id, nn, on⟩ w2 := PB.box H B2 hb
  clear hw2 B2
  obtain ⟨z0, _, _, _, _⟩ := row_st hb
  go_upto_region 22 with fail
  clear z0 hb
  refine Chn.wp_region_chainL (SC (PB B w0 g h n P X L M wb w.heap.size ⟨5, c, id, nn, on⟩) (PB B w0 g h n P Y L M wb w.heap.size ⟨5, c, id, nn, on⟩)) [8] [1, 1, 1, 0, 1, 0, 1, 0, 1, 1] [ptr wb 0, ptr wb 0, ptr wb 1, ptr h 0, ptr w.heap.size 1, vI c, ptr w.heap.size 3, vI nn, vI E, vI E] (by kernel_rfl) (by kernel_rfl) (by kernel_rfl) (by kernel_rfl) (by kernel_rfl) (PB.draw hB) ?_
  iterate 3 (refine ⟨fun j w1 hj hC => by exact Chn.upon_pure hC (fun F hF => by (go_simp <;> exact hF)), ?_⟩; simp only [Act.put, List.setIfInBounds_toArray, List.set_cons_succ, List.set_cons_zero])
  refine ⟨fun j w1 hj hC => by
    obtain rfl : j = 0 := Nat.le_zero.1 hj
    have z := PU.c1 hC.1
    exact Chn.upon_pure hC (fun F hF => by (go_simp <;> exact hF)), ?_⟩
  simp only [Act.put, List.setIfInBounds_toArray, List.set_cons_succ, List.set_cons_zero]
  (refine ⟨fun j w1 hj hC => by exact Chn.upon_pure hC (fun F hF => by (go_simp <;> exact hF)), ?_⟩; simp only [Act.put, List.setIfInBounds_toArray, List.set_cons_succ, List.set_cons_zero])
  refine ⟨fun j w1 hj hC => by
    obtain rfl : j = 0 := Nat.le_zero.1 hj
    obtain ⟨z0, z1, z2, z3, z4⟩ := row_st hC.2.1
    exact Chn.upon_pure hC (fun F hF => by (go_simp <;> exact hF)), ?_⟩
  simp only [Act.put, List.setIfInBounds_toArray, List.set_cons_succ, List.set_cons_zero]
  (refine ⟨fun j w1 hj hC => by exact Chn.upon_pure hC (fun F hF => by (go_simp <;> exact hF)), ?_⟩; simp only [Act.put, List.setIfInBounds_toArray, List.set_cons_succ, List.set_cons_zero])
  refine ⟨fun j w1 hj hC => by
    obtain rfl : j = 0 := Nat.le_zero.1 hj
    obtain ⟨z0, z1, z2, z3, z4⟩ := row_st hC.2.1
    exact Chn.upon_pure hC (fun F hF => by (go_simp <;> exact hF)), ?_⟩
  simp only [Act.put, List.setIfInBounds_toArray, List.set_cons_succ, List.set_cons_zero]
  refine ⟨fun w1 hC => by
    exact Chn.upon_call (C := (SC (PB B w0 g h n P X L M wb w.heap.size ⟨5, c, id, nn, on⟩) (PB B w0 g h n P Y L M wb w.heap.size ⟨5, c, id, nn, on⟩)) 1) (hd w1 hC.1.ref) (fun e2 w2' hh => ⟨hh.1, PB.doc hC hh.2⟩) (fun F hF => by (go_simp <;> exact hF)), ?_⟩
  simp only [Act.put, List.setIfInBounds_toArray, List.set_cons_succ, List.set_cons_zero]
  (refine ⟨fun j w1 hj hC => by exact Chn.upon_pure hC (fun F hF => by (go_simp <;> exact hF)), ?_⟩; simp only [Act.put, List.setIfInBounds_toArray, List.set_cons_succ, List.set_cons_zero])
  clear hB
  intro w5 hB
  replace hB : (PB B w0 g h n P Y L M wb w.heap.size ⟨5, c, id, nn, on⟩) w5 := hB
  go_upto_region 23 with fail
  refine Chn.wp_region_chainL (SC (PB B w0 g h n P Y L M wb w.heap.size ⟨5, c, id, nn, on⟩) (PD B w0 g h n Q Y M wb)) [8] [1, 1, 1, 0, 1, 0, 1, 0, 1, 1, 1, 1] [ptr wb 0, ptr wb 0, ptr wb 0, ptr g 0, ptr w.heap.size 1, vI c, ptr w.heap.size 3, vI nn, vI E, vI E, .bool true, .bool true] (by kernel_rfl) (by kernel_rfl) (by kernel_rfl) (by kernel_rfl) (by kernel_rfl) (PB.draw hB) ?_
  iterate 3 (refine ⟨fun j w1 hj hC => by exact Chn.upon_pure hC (fun F hF => by (go_simp <;> exact hF)), ?_⟩; simp only [Act.put, List.setIfInBounds_toArray, List.set_cons_succ, List.set_cons_zero])
  refine ⟨fun j w1 hj hC => by
    obtain rfl : j = 0 := Nat.le_zero.1 hj
    have z := PU.c0 hC.1
    exact Chn.upon_pure hC (fun F hF => by (go_simp <;> exact hF)), ?_⟩
  simp only [Act.put, List.setIfInBounds_toArray, List.set_cons_succ, List.set_cons_zero]
  (refine ⟨fun j w1 hj hC => by exact Chn.upon_pure hC (fun F hF => by (go_simp <;> exact hF)), ?_⟩; simp only [Act.put, List.setIfInBounds_toArray, List.set_cons_succ, List.set_cons_zero])
  refine ⟨fun j w1 hj hC => by
    obtain rfl : j = 0 := Nat.le_zero.1 hj
    obtain ⟨z0, z1, z2, z3, z4⟩ := row_st hC.2.1
    exact Chn.upon_pure hC (fun F hF => by (go_simp <;> exact hF)), ?_⟩
  simp only [Act.put, List.setIfInBounds_toArray, List.set_cons_succ, List.set_cons_zero]
  (refine ⟨fun j w1 hj hC => by exact Chn.upon_pure hC (fun F hF => by (go_simp <;> exact hF)), ?_⟩; simp only [Act.put, List.setIfInBounds_toArray, List.set_cons_succ, List.set_cons_zero])
  refine ⟨fun j w1 hj hC => by
    obtain rfl : j = 0 := Nat.le_zero.1 hj
    obtain ⟨z0, z1, z2, z3, z4⟩ := row_st hC.2.1
    exact Chn.upon_pure hC (fun F hF => by (go_simp <;> exact hF)), ?_⟩
  simp only [Act.put, List.setIfInBounds_toArray, List.set_cons_succ, List.set_cons_zero]
  refine ⟨fun w1 hC => by
    exact Chn.upon_call (C := (SC (PB B w0 g h n P Y L M wb w.heap.size ⟨5, c, id, nn, on⟩) (PD B w0 g h n Q Y M wb)) 1) (hp w1 hC.1.kw.at_) (fun e2 w2' hh => ⟨hh.1, hC.1.prog hh.2⟩) (fun F hF => by (go_simp <;> exact hF)), ?_⟩
  simp only [Act.put, List.setIfInBounds_toArray, List.set_cons_succ, List.set_cons_zero]
  (refine ⟨fun j w1 hj hC => by exact Chn.upon_pure hC (fun F hF => by (go_simp <;> exact hF)), ?_⟩; simp only [Act.put, List.setIfInBounds_toArray, List.set_cons_succ, List.set_cons_zero])
  (refine ⟨fun j w1 hj hC => by exact Chn.upon_pure hC (fun F hF => by (go_simp <;> exact hF)), ?_⟩; simp only [Act.put, List.setIfInBounds_toArray, List.set_cons_succ, List.set_cons_zero])
  (refine ⟨fun j w1 hj hC => by exact Chn.upon_pure hC (fun F hF => by (go_simp <;> exact hF)), ?_⟩; simp only [Act.put, List.setIfInBounds_toArray, List.set_cons_succ, List.set_cons_zero])
  clear hB
  intro w5 hB
  replace hB : (PD B w0 g h n Q Y M wb) w5 := hB
  go_wp2
  go_ret
  exact ⟨rfl, hB⟩
set_option maxHeartbeats 2000000 in
theorem step_6 (H : PU B w0 g h n P X L M wb w) (c id nn : Int) (on : Bool) (E : Int) (hd : ∀ w, Doc.RefAt h n X M w → Calls Try.prog 38 #[ptr h 0, vI nn, vI id] w fun e w' => e = .returned (vI E) ∧ Doc.RTurn h n M Y w w') (hp : ∀ w, GicAt g n P L w → Calls Try.prog 29 #[ptr g 0, vI nn, vI id] w fun e w' => e = .returned (vI E) ∧ GTL g n L Q w w') : Calls Try.prog 12 #[ptr wb 0, St5.val ⟨6, c, id, nn, on⟩] w fun e w' => e = .returned (.bool true) ∧ PD B w0 g h n Q Y M wb w' := by
  go_enter Try.func12, Try.ntmps12
  go_upto_region 1 with fail
  generalize hw2 : World.alloc _ _ = w2
  have B2 : Below w.heap.size w w2 := by rw [← hw2]; exact below_alloc _ _
  have hb : w2.heap[w.heap.size]? = some (.cells (St5.row ⟨6, c, id, nn, on⟩).toArray 35) := by rw [← hw2]; exact heap_alloc_new _ _
  have hB : PB B w0 g h n P X L M wb w.heap.size ⟨6, c, id, nn, on⟩ w2 := PB.box H B2 hb
  clear hw2 B2
  obtain ⟨z0, _, _, _, _⟩ := row_st hb
  go_upto_region 25 with fail
  clear z0 hb
  refine Chn.wp_region_chainL (SC (PB B w0 g h n P X L M wb w.heap.size ⟨6, c, id, nn, on⟩) (PB B w0 g h n P Y L M wb w.heap.size ⟨6, c, id, nn, on⟩)) [8] [1, 1, 1, 0, 1, 0, 1, 0, 1, 1] [ptr wb 0, ptr wb 0, ptr wb 1, ptr h 0, ptr w.heap.size 3, vI nn, ptr w.heap.size 2, vI id, vI E, vI E] (by kernel_rfl) (by kernel_rfl) (by kernel_rfl) (by kernel_rfl) (by kernel_rfl) (PB.draw hB) ?_
  iterate 3 (refine ⟨fun j w1 hj hC => by exact Chn.upon_pure hC (fun F hF => by (go_simp <;> exact hF)), ?_⟩; simp only [Act.put, List.setIfInBounds_toArray, List.set_cons_succ, List.set_cons_zero])
  refine ⟨fun j w1 hj hC => by
    obtain rfl : j = 0 := Nat.le_zero.1 hj
    have z := PU.c1 hC.1
    exact Chn.upon_pure hC (fun F hF => by (go_simp <;> exact hF)), ?_⟩
  simp only [Act.put, List.setIfInBounds_toArray, List.set_cons_succ, List.set_cons_zero]
  (refine ⟨fun j w1 hj hC => by exact Chn.upon_pure hC (fun F hF => by (go_simp <;> exact hF)), ?_⟩; simp only [Act.put, List.setIfInBounds_toArray, List.set_cons_succ, List.set_cons_zero])
  refine ⟨fun j w1 hj hC => by
    obtain rfl : j = 0 := Nat.le_zero.1 hj
    obtain ⟨z0, z1, z2, z3, z4⟩ := row_st hC.2.1
    exact Chn.upon_pure hC (fun F hF => by (go_simp <;> exact hF)), ?_⟩
  simp only [Act.put, List.setIfInBounds_toArray, List.set_cons_succ, List.set_cons_zero]
  (refine ⟨fun j w1 hj hC => by exact Chn.upon_pure hC (fun F hF => by (go_simp <;> exact hF)), ?_⟩; simp only [Act.put, List.setIfInBounds_toArray, List.set_cons_succ, List.set_cons_zero])
  refine ⟨fun j w1 hj hC => by
    obtain rfl : j = 0 := Nat.le_zero.1 hj
    obtain ⟨z0, z1, z2, z3, z4⟩ := row_st hC.2.1
    exact Chn.upon_pure hC (fun F hF => by (go_simp <;> exact hF)), ?_⟩
  simp only [Act.put, List.setIfInBounds_toArray, List.set_cons_succ, List.set_cons_zero]
  refine ⟨fun w1 hC => by
    exact Chn.upon_call (C := (SC (PB B w0 g h n P X L M wb w.heap.size ⟨6, c, id, nn, on⟩) (PB B w0 g h n P Y L M wb w.heap.size ⟨6, c, id, nn, on⟩)) 1) (hd w1 hC.1.ref) (fun e2 w2' hh => ⟨hh.1, PB.doc hC hh.2⟩) (fun F hF => by (go_simp <;> exact hF)), ?_⟩
  simp only [Act.put, List.setIfInBounds_toArray, List.set_cons_succ, List.set_cons_zero]
  (refine ⟨fun j w1 hj hC => by exact Chn.upon_pure hC (fun F hF => by (go_simp <;> exact hF)), ?_⟩; simp only [Act.put, List.setIfInBounds_toArray, List.set_cons_succ, List.set_cons_zero])
  clear hB
  intro w5 hB
  replace hB : (PB B w0 g h n P Y L M wb w.heap.size ⟨6, c, id, nn, on⟩) w5 := hB
  go_upto_region 26 with fail
  refine Chn.wp_region_chainL (SC (PB B w0 g h n P Y L M wb w.heap.size ⟨6, c, id, nn, on⟩) (PD B w0 g h n Q Y M wb)) [8] [1, 1, 1, 0, 1, 0, 1, 0, 1, 1, 1, 1] [ptr wb 0, ptr wb 0, ptr wb 0, ptr g 0, ptr w.heap.size 3, vI nn, ptr w.heap.size 2, vI id, vI E, vI E, .bool true, .bool true] (by kernel_rfl) (by kernel_rfl) (by kernel_rfl) (by kernel_rfl) (by kernel_rfl) (PB.draw hB) ?_
  iterate 3 (refine ⟨fun j w1 hj hC => by exact Chn.upon_pure hC (fun F hF => by (go_simp <;> exact hF)), ?_⟩; simp only [Act.put, List.setIfInBounds_toArray, List.set_cons_succ, List.set_cons_zero])
  refine ⟨fun j w1 hj hC => by
    obtain rfl : j = 0 := Nat.le_zero.1 hj
    have z := PU.c0 hC.1
    exact Chn.upon_pure hC (fun F hF => by (go_simp <;> exact hF)), ?_⟩
  simp only [Act.put, List.setIfInBounds_toArray, List.set_cons_succ, List.set_cons_zero]
  (refine ⟨fun j w1 hj hC => by exact Chn.upon_pure hC (fun F hF => by (go_simp <;> exact hF)), ?_⟩; simp only [Act.put, List.setIfInBounds_toArray, List.set_cons_succ, List.set_cons_zero])
  refine ⟨fun j w1 hj hC => by
    obtain rfl : j = 0 := Nat.le_zero.1 hj
    obtain ⟨z0, z1, z2, z3, z4⟩ := row_st hC.2.1
    exact Chn.upon_pure hC (fun F hF => by (go_simp <;> exact hF)), ?_⟩
  simp only [Act.put, List.setIfInBounds_toArray, List.set_cons_succ, List.set_cons_zero]
  (refine ⟨fun j w1 hj hC => by exact Chn.upon_pure hC (fun F hF => by (go_simp <;> exact hF)), ?_⟩; simp only [Act.put, List.setIfInBounds_toArray, List.set_cons_succ, List.set_cons_zero])
  refine ⟨fun j w1 hj hC => by
    obtain rfl : j = 0 := Nat.le_zero.1 hj
    obtain ⟨z0, z1, z2, z3, z4⟩ := row_st hC.2.1
    exact Chn.upon_pure hC (fun F hF => by (go_simp <;> exact hF)), ?_⟩
  simp only [Act.put, List.setIfInBounds_toArray, List.set_cons_succ, List.set_cons_zero]
  refine ⟨fun w1 hC => by
    exact Chn.upon_call (C := (SC (PB B w0 g h n P Y L M wb w.heap.size ⟨6, c, id, nn, on⟩) (PD B w0 g h n Q Y M wb)) 1) (hp w1 hC.1.kw.at_) (fun e2 w2' hh => ⟨hh.1, hC.1.prog hh.2⟩) (fun F hF => by (go_simp <;> exact hF)), ?_⟩
  simp only [Act.put, List.setIfInBounds_toArray, List.set_cons_succ, List.set_cons_zero]
  (refine ⟨fun j w1 hj hC => by exact Chn.upon_pure hC (fun F hF => by (go_simp <;> exact hF)), ?_⟩; simp only [Act.put, List.setIfInBounds_toArray, List.set_cons_succ, List.set_cons_zero])
  (refine ⟨fun j w1 hj hC => by exact Chn.upon_pure hC (fun F hF => by (go_simp <;> exact hF)), ?_⟩; simp only [Act.put, List.setIfInBounds_toArray, List.set_cons_succ, List.set_cons_zero])
  (refine ⟨fun j w1 hj hC => by exact Chn.upon_pure hC (fun F hF => by (go_simp <;> exact hF)), ?_⟩; simp only [Act.put, List.setIfInBounds_toArray, List.set_cons_succ, List.set_cons_zero])
  clear hB
  intro w5 hB
  replace hB : (PD B w0 g h n Q Y M wb) w5 := hB
  go_wp2
  go_ret
  exact ⟨rfl, hB⟩
set_option maxHeartbeats 2000000 in
theorem step_7 (H : PU B w0 g h n P X L M wb w) (c id nn : Int) (on : Bool) (E : Int) (hd : ∀ w, Doc.RefAt h n X M w → Calls Try.prog 39 #[ptr h 0, vI c] w fun e w' => e = .returned (vI E) ∧ Doc.RTurn h n M Y w w') (hp : ∀ w, GicAt g n P L w → Calls Try.prog 24 #[ptr g 0, vI c] w fun e w' => e = .returned (vI E) ∧ GTL g n L Q w w') : Calls Try.prog 12 #[ptr wb 0, St5.val ⟨7, c, id, nn, on⟩] w fun e w' => e = .returned (.bool true) ∧ PD B w0 g h n Q Y M wb w' := by
  go_enter Try.func12, Try.ntmps12
  go_upto_region 1 with fail
  generalize hw2 : World.alloc _ _ = w2
  have B2 : Below w.heap.size w w2 := by rw [← hw2]; exact below_alloc _ _
  have hb : w2.heap[w.heap.size]? = some (.cells (St5.row ⟨7, c, id, nn, on⟩).toArray 35) := by rw [← hw2]; exact heap_alloc_new _ _
  have hB : PB B w0 g h n P X L M wb w.heap.size ⟨7, c, id, nn, on⟩ w2 := PB.box H B2 hb
  clear hw2 B2
  obtain ⟨z0, _, _, _, _⟩ := row_st hb
  go_upto_region 28 with fail
  clear z0 hb
  refine Chn.wp_region_chainL (SC (PB B w0 g h n P X L M wb w.heap.size ⟨7, c, id, nn, on⟩) (PB B w0 g h n P Y L M wb w.heap.size ⟨7, c, id, nn, on⟩)) [6] [1, 1, 1, 0, 1, 0, 1, 1] [ptr wb 0, ptr wb 0, ptr wb 1, ptr h 0, ptr w.heap.size 1, vI c, vI E, vI E] (by kernel_rfl) (by kernel_rfl) (by kernel_rfl) (by kernel_rfl) (by kernel_rfl) (PB.draw hB) ?_
  iterate 3 (refine ⟨fun j w1 hj hC => by exact Chn.upon_pure hC (fun F hF => by (go_simp <;> exact hF)), ?_⟩; simp only [Act.put, List.setIfInBounds_toArray, List.set_cons_succ, List.set_cons_zero])
  refine ⟨fun j w1 hj hC => by
    obtain rfl : j = 0 := Nat.le_zero.1 hj
    have z := PU.c1 hC.1
    exact Chn.upon_pure hC (fun F hF => by (go_simp <;> exact hF)), ?_⟩
  simp only [Act.put, List.setIfInBounds_toArray, List.set_cons_succ, List.set_cons_zero]
  (refine ⟨fun j w1 hj hC => by exact Chn.upon_pure hC (fun F hF => by (go_simp <;> exact hF)), ?_⟩; simp only [Act.put, List.setIfInBounds_toArray, List.set_cons_succ, List.set_cons_zero])
  refine ⟨fun j w1 hj hC => by
    obtain rfl : j = 0 := Nat.le_zero.1 hj
    obtain ⟨z0, z1, z2, z3, z4⟩ := row_st hC.2.1
    exact Chn.upon_pure hC (fun F hF => by (go_simp <;> exact hF)), ?_⟩
  simp only [Act.put, List.setIfInBounds_toArray, List.set_cons_succ, List.set_cons_zero]
  refine ⟨fun w1 hC => by
    exact Chn.upon_call (C := (SC (PB B w0 g h n P X L M wb w.heap.size ⟨7, c, id, nn, on⟩) (PB B w0 g h n P Y L M wb w.heap.size ⟨7, c, id, nn, on⟩)) 1) (hd w1 hC.1.ref) (fun e2 w2' hh => ⟨hh.1, PB.doc hC hh.2⟩) (fun F hF => by (go_simp <;> exact hF)), ?_⟩
  simp only [Act.put, List.setIfInBounds_toArray, List.set_cons_succ, List.set_cons_zero]
  (refine ⟨fun j w1 hj hC => by exact Chn.upon_pure hC (fun F hF => by (go_simp <;> exact hF)), ?_⟩; simp only [Act.put, List.setIfInBounds_toArray, List.set_cons_succ, List.set_cons_zero])
  clear hB
  intro w5 hB
  replace hB : (PB B w0 g h n P Y L M wb w.heap.size ⟨7, c, id, nn, on⟩) w5 := hB
  go_upto_region 29 with fail
  refine Chn.wp_region_chainL (SC (PB B w0 g h n P Y L M wb w.heap.size ⟨7, c, id, nn, on⟩) (PD B w0 g h n Q Y M wb)) [6] [1, 1, 1, 0, 1, 0, 1, 1, 1, 1] [ptr wb 0, ptr wb 0, ptr wb 0, ptr g 0, ptr w.heap.size 1, vI c, vI E, vI E, .bool true, .bool true] (by kernel_rfl) (by kernel_rfl) (by kernel_rfl) (by kernel_rfl) (by kernel_rfl) (PB.draw hB) ?_
  iterate 3 (refine ⟨fun j w1 hj hC => by exact Chn.upon_pure hC (fun F hF => by (go_simp <;> exact hF)), ?_⟩; simp only [Act.put, List.setIfInBounds_toArray, List.set_cons_succ, List.set_cons_zero])
  refine ⟨fun j w1 hj hC => by
    obtain rfl : j = 0 := Nat.le_zero.1 hj
    have z := PU.c0 hC.1
    exact Chn.upon_pure hC (fun F hF => by (go_simp <;> exact hF)), ?_⟩
  simp only [Act.put, List.setIfInBounds_toArray, List.set_cons_succ, List.set_cons_zero]
  (refine ⟨fun j w1 hj hC => by exact Chn.upon_pure hC (fun F hF => by (go_simp <;> exact hF)), ?_⟩; simp only [Act.put, List.setIfInBounds_toArray, List.set_cons_succ, List.set_cons_zero])
  refine ⟨fun j w1 hj hC => by
    obtain rfl : j = 0 := Nat.le_zero.1 hj
    obtain ⟨z0, z1, z2, z3, z4⟩ := row_st hC.2.1
    exact Chn.upon_pure hC (fun F hF => by (go_simp <;> exact hF)), ?_⟩
  simp only [Act.put, List.setIfInBounds_toArray, List.set_cons_succ, List.set_cons_zero]
  refine ⟨fun w1 hC => by
    exact Chn.upon_call (C := (SC (PB B w0 g h n P Y L M wb w.heap.size ⟨7, c, id, nn, on⟩) (PD B w0 g h n Q Y M wb)) 1) (hp w1 hC.1.kw.at_) (fun e2 w2' hh => ⟨hh.1, hC.1.prog hh.2⟩) (fun F hF => by (go_simp <;> exact hF)), ?_⟩
  simp only [Act.put, List.setIfInBounds_toArray, List.set_cons_succ, List.set_cons_zero]
  (refine ⟨fun j w1 hj hC => by exact Chn.upon_pure hC (fun F hF => by (go_simp <;> exact hF)), ?_⟩; simp only [Act.put, List.setIfInBounds_toArray, List.set_cons_succ, List.set_cons_zero])
  (refine ⟨fun j w1 hj hC => by exact Chn.upon_pure hC (fun F hF => by (go_simp <;> exact hF)), ?_⟩; simp only [Act.put, List.setIfInBounds_toArray, List.set_cons_succ, List.set_cons_zero])
  (refine ⟨fun j w1 hj hC => by exact Chn.upon_pure hC (fun F hF => by (go_simp <;> exact hF)), ?_⟩; simp only [Act.put, List.setIfInBounds_toArray, List.set_cons_succ, List.set_cons_zero])
  clear hB
  intro w5 hB
  replace hB : (PD B w0 g h n Q Y M wb) w5 := hB
  go_wp2
  go_ret
  exact ⟨rfl, hB⟩
set_option maxHeartbeats 2000000 in
theorem step_8 (H : PU B w0 g h n P X L M wb w) (c id nn : Int) (on : Bool) (eb : Bool) (E : Int) (hd : ∀ w, Doc.RefAt h n X M w → Calls Try.prog 40 #[ptr h 0, vI c, vI id] w fun e w' => e = .returned (.tuple #[.bool eb, vI E]) ∧ Doc.RTurn h n M Y w w') (hp : ∀ w, GicAt g n P L w → Calls Try.prog 28 #[ptr g 0, vI c, vI id] w fun e w' => e = .returned (.tuple #[.bool eb, vI E]) ∧ GTL g n L Q w w') : Calls Try.prog 12 #[ptr wb 0, St5.val ⟨8, c, id, nn, on⟩] w fun e w' => e = .returned (.bool true) ∧ PD B w0 g h n Q Y M wb w' := by
  go_enter Try.func12, Try.ntmps12
  go_upto_region 1 with fail
  generalize hw2 : World.alloc _ _ = w2
  have B2 : Below w.heap.size w w2 := by rw [← hw2]; exact below_alloc _ _
  have hb : w2.heap[w.heap.size]? = some (.cells (St5.row ⟨8, c, id, nn, on⟩).toArray 35) := by rw [← hw2]; exact heap_alloc_new _ _
  have hB : PB B w0 g h n P X L M wb w.heap.size ⟨8, c, id, nn, on⟩ w2 := PB.box H B2 hb
  clear hw2 B2
  obtain ⟨z0, _, _, _, _⟩ := row_st hb
  go_upto_region 31 with fail
  clear z0 hb
  refine Chn.wp_region_chainL (SC (PB B w0 g h n P X L M wb w.heap.size ⟨8, c, id, nn, on⟩) (PB B w0 g h n P Y L M wb w.heap.size ⟨8, c, id, nn, on⟩)) [8] [1, 1, 1, 0, 1, 0, 1, 0, 1, 1, 1, 1, 1, 1] [ptr wb 0, ptr wb 0, ptr wb 1, ptr h 0, ptr w.heap.size 1, vI c, ptr w.heap.size 2, vI id, .tuple #[.bool eb, vI E], .tuple #[.bool eb, vI E], .bool eb, vI E, .bool eb, vI E] (by kernel_rfl) (by kernel_rfl) (by kernel_rfl) (by kernel_rfl) (by kernel_rfl) (PB.draw hB) ?_
  iterate 3 (refine ⟨fun j w1 hj hC => by exact Chn.upon_pure hC (fun F hF => by (go_simp <;> exact hF)), ?_⟩; simp only [Act.put, List.setIfInBounds_toArray, List.set_cons_succ, List.set_cons_zero])
  refine ⟨fun j w1 hj hC => by
    obtain rfl : j = 0 := Nat.le_zero.1 hj
    have z := PU.c1 hC.1
    exact Chn.upon_pure hC (fun F hF => by (go_simp <;> exact hF)), ?_⟩
  simp only [Act.put, List.setIfInBounds_toArray, List.set_cons_succ, List.set_cons_zero]
  (refine ⟨fun j w1 hj hC => by exact Chn.upon_pure hC (fun F hF => by (go_simp <;> exact hF)), ?_⟩; simp only [Act.put, List.setIfInBounds_toArray, List.set_cons_succ, List.set_cons_zero])
  refine ⟨fun j w1 hj hC => by
    obtain rfl : j = 0 := Nat.le_zero.1 hj
    obtain ⟨z0, z1, z2, z3, z4⟩ := row_st hC.2.1
    exact Chn.upon_pure hC (fun F hF => by (go_simp <;> exact hF)), ?_⟩
  simp only [Act.put, List.setIfInBounds_toArray, List.set_cons_succ, List.set_cons_zero]
  (refine ⟨fun j w1 hj hC => by exact Chn.upon_pure hC (fun F hF => by (go_simp <;> exact hF)), ?_⟩; simp only [Act.put, List.setIfInBounds_toArray, List.set_cons_succ, List.set_cons_zero])
  refine ⟨fun j w1 hj hC => by
    obtain rfl : j = 0 := Nat.le_zero.1 hj
    obtain ⟨z0, z1, z2, z3, z4⟩ := row_st hC.2.1
    exact Chn.upon_pure hC (fun F hF => by (go_simp <;> exact hF)), ?_⟩
  simp only [Act.put, List.setIfInBounds_toArray, List.set_cons_succ, List.set_cons_zero]
  refine ⟨fun w1 hC => by
    exact Chn.upon_call (C := (SC (PB B w0 g h n P X L M wb w.heap.size ⟨8, c, id, nn, on⟩) (PB B w0 g h n P Y L M wb w.heap.size ⟨8, c, id, nn, on⟩)) 1) (hd w1 hC.1.ref) (fun e2 w2' hh => ⟨hh.1, PB.doc hC hh.2⟩) (fun F hF => by (go_simp <;> exact hF)), ?_⟩
  simp only [Act.put, List.setIfInBounds_toArray, List.set_cons_succ, List.set_cons_zero]
  (refine ⟨fun j w1 hj hC => by exact Chn.upon_pure hC (fun F hF => by (go_simp <;> exact hF)), ?_⟩; simp only [Act.put, List.setIfInBounds_toArray, List.set_cons_succ, List.set_cons_zero])
  (refine ⟨fun j w1 hj hC => by exact Chn.upon_pure hC (fun F hF => by (go_simp <;> exact hF)), ?_⟩; simp only [Act.put, List.setIfInBounds_toArray, List.set_cons_succ, List.set_cons_zero])
  (refine ⟨fun j w1 hj hC => by exact Chn.upon_pure hC (fun F hF => by (go_simp <;> exact hF)), ?_⟩; simp only [Act.put, List.setIfInBounds_toArray, List.set_cons_succ, List.set_cons_zero])
  (refine ⟨fun j w1 hj hC => by exact Chn.upon_pure hC (fun F hF => by (go_simp <;> exact hF)), ?_⟩; simp only [Act.put, List.setIfInBounds_toArray, List.set_cons_succ, List.set_cons_zero])
  (refine ⟨fun j w1 hj hC => by exact Chn.upon_pure hC (fun F hF => by (go_simp <;> exact hF)), ?_⟩; simp only [Act.put, List.setIfInBounds_toArray, List.set_cons_succ, List.set_cons_zero])
  clear hB
  intro w5 hB
  replace hB : (PB B w0 g h n P Y L M wb w.heap.size ⟨8, c, id, nn, on⟩) w5 := hB
  go_upto_region 32 with fail
  refine Chn.wp_region_chainL (SC (PB B w0 g h n P Y L M wb w.heap.size ⟨8, c, id, nn, on⟩) (PD B w0 g h n Q Y M wb)) [8] [1, 1, 1, 0, 1, 0, 1, 0, 1, 1, 1, 1, 1, 1] [ptr wb 0, ptr wb 0, ptr wb 0, ptr g 0, ptr w.heap.size 1, vI c, ptr w.heap.size 2, vI id, .tuple #[.bool eb, vI E], .tuple #[.bool eb, vI E], .bool eb, vI E, .bool eb, vI E] (by kernel_rfl) (by kernel_rfl) (by kernel_rfl) (by kernel_rfl) (by kernel_rfl) (PB.draw hB) ?_
  iterate 3 (refine ⟨fun j w1 hj hC => by exact Chn.upon_pure hC (fun F hF => by (go_simp <;> exact hF)), ?_⟩; simp only [Act.put, List.setIfInBounds_toArray, List.set_cons_succ, List.set_cons_zero])
  refine ⟨fun j w1 hj hC => by
    obtain rfl : j = 0 := Nat.le_zero.1 hj
    have z := PU.c0 hC.1
    exact Chn.upon_pure hC (fun F hF => by (go_simp <;> exact hF)), ?_⟩
  simp only [Act.put, List.setIfInBounds_toArray, List.set_cons_succ, List.set_cons_zero]
  (refine ⟨fun j w1 hj hC => by exact Chn.upon_pure hC (fun F hF => by (go_simp <;> exact hF)), ?_⟩; simp only [Act.put, List.setIfInBounds_toArray, List.set_cons_succ, List.set_cons_zero])
  refine ⟨fun j w1 hj hC => by
    obtain rfl : j = 0 := Nat.le_zero.1 hj
    obtain ⟨z0, z1, z2, z3, z4⟩ := row_st hC.2.1
    exact Chn.upon_pure hC (fun F hF => by (go_simp <;> exact hF)), ?_⟩
  simp only [Act.put, List.setIfInBounds_toArray, List.set_cons_succ, List.set_cons_zero]
  (refine ⟨fun j w1 hj hC => by exact Chn.upon_pure hC (fun F hF => by (go_simp <;> exact hF)), ?_⟩; simp only [Act.put, List.setIfInBounds_toArray, List.set_cons_succ, List.set_cons_zero])
  refine ⟨fun j w1 hj hC => by
    obtain rfl : j = 0 := Nat.le_zero.1 hj
    obtain ⟨z0, z1, z2, z3, z4⟩ := row_st hC.2.1
    exact Chn.upon_pure hC (fun F hF => by (go_simp <;> exact hF)), ?_⟩
  simp only [Act.put, List.setIfInBounds_toArray, List.set_cons_succ, List.set_cons_zero]
  refine ⟨fun w1 hC => by
    exact Chn.upon_call (C := (SC (PB B w0 g h n P Y L M wb w.heap.size ⟨8, c, id, nn, on⟩) (PD B w0 g h n Q Y M wb)) 1) (hp w1 hC.1.kw.at_) (fun e2 w2' hh => ⟨hh.1, hC.1.prog hh.2⟩) (fun F hF => by (go_simp <;> exact hF)), ?_⟩
  simp only [Act.put, List.setIfInBounds_toArray, List.set_cons_succ, List.set_cons_zero]
  (refine ⟨fun j w1 hj hC => by exact Chn.upon_pure hC (fun F hF => by (go_simp <;> exact hF)), ?_⟩; simp only [Act.put, List.setIfInBounds_toArray, List.set_cons_succ, List.set_cons_zero])
  (refine ⟨fun j w1 hj hC => by exact Chn.upon_pure hC (fun F hF => by (go_simp <;> exact hF)), ?_⟩; simp only [Act.put, List.setIfInBounds_toArray, List.set_cons_succ, List.set_cons_zero])
  (refine ⟨fun j w1 hj hC => by exact Chn.upon_pure hC (fun F hF => by (go_simp <;> exact hF)), ?_⟩; simp only [Act.put, List.setIfInBounds_toArray, List.set_cons_succ, List.set_cons_zero])
  (refine ⟨fun j w1 hj hC => by exact Chn.upon_pure hC (fun F hF => by (go_simp <;> exact hF)), ?_⟩; simp only [Act.put, List.setIfInBounds_toArray, List.set_cons_succ, List.set_cons_zero])
  (refine ⟨fun j w1 hj hC => by exact Chn.upon_pure hC (fun F hF => by (go_simp <;> exact hF)), ?_⟩; simp only [Act.put, List.setIfInBounds_toArray, List.set_cons_succ, List.set_cons_zero])
  clear hB
  intro w5 hB
  replace hB : (PD B w0 g h n Q Y M wb) w5 := hB
  go_wp2
  go_ret
  exact ⟨rfl, hB⟩
theorem step_x (H : PU B w0 g h n P X L M wb w) (o : St5) (hk : ¬ (0 ≤ o.k ∧ o.k ≤ 8)) : Calls Try.prog 12 #[ptr wb 0, o.val] w fun e w' => e = .returned (.bool true) ∧ PD B w0 g h n P X M wb w' := by
  obtain ⟨k, c, id, nn, on⟩ := o
  dsimp only at hk
  have n0 : (k == 0) = false := by simp; omega
  have n1 : (k == 1) = false := by simp; omega
  have n2 : (k == 2) = false := by simp; omega
  have n3 : (k == 3) = false := by simp; omega
  have n4 : (k == 4) = false := by simp; omega
  have n5 : (k == 5) = false := by simp; omega
  have n6 : (k == 6) = false := by simp; omega
  have n7 : (k == 7) = false := by simp; omega
  have n8 : (k == 8) = false := by simp; omega
  go_enter Try.func12, Try.ntmps12
  go_upto_region 1 with fail
  generalize hw2 : World.alloc _ _ = w2
  have B2 : Below w.heap.size w w2 := by rw [← hw2]; exact below_alloc _ _
  have hb : w2.heap[w.heap.size]? = some (.cells (St5.row ⟨k, c, id, nn, on⟩).toArray 35) := by rw [← hw2]; exact heap_alloc_new _ _
  have hB : PD B w0 g h n P X M wb w2 := ⟨L, H.grow B2⟩
  clear hw2 B2
  obtain ⟨z0, _, _, _, _⟩ := row_st hb
  go_wp2
  go_ret
  exact ⟨rfl, hB⟩
def PX (B : Nat) (w0 : World) (g h n : Nat) (Q : Pg) (M : Doc.RLay) (wb : Nat) (w' : World) : Prop := ∃ Y L', PW B w0 g h n Q Y L' M wb w'
theorem step_c (H : PW B w0 g h n P X L M wb w) (o : St5) (hn : n ≤ 8) (hlen : ∀ c, c < n → (P.wk c).length + 1 < 1000000) : Calls Try.prog 12 #[ptr wb 0, o.val] w fun e w' => e = .returned (.bool true) ∧ PX B w0 g h n (onlyP n P o) M wb w' := by
  by_cases hk : 0 ≤ o.k ∧ o.k ≤ 8
  · obtain ⟨k, c, id, nn, on⟩ := o
    dsimp only at hk
    have : k = 0 ∨ k = 1 ∨ k = 2 ∨ k = 3 ∨ k = 4 ∨ k = 5 ∨ k = 6 ∨ k = 7 ∨ k = 8 := by omega
    rcases this with rfl | rfl | rfl | rfl | rfl | rfl | rfl | rfl | rfl
    · have e1 : onlyP n P ⟨0, c, id, nn, on⟩ = genableP n P c id on := rfl
      rw [e1]
      refine (step_0 (Q := genableP n P c id on) H.pu c id nn on (if genableE n c id on then 1 else 0) (fun w1 h1 => by rw [← setE0 (v := nn)]; exact Doc.set_0 h1 c id nn on) (fun w1 h1 => (genable_c h1 c id on).mono fun e w' hh => ⟨hh.1, hh.2.gtl⟩)).mono fun e w' hh => ⟨hh.1, ?_⟩
      obtain ⟨L', U⟩ := hh.2
      exact ⟨_, L', U.pw (H.lk.en c id nn on)⟩
    · have e1 : onlyP n P ⟨1, c, id, nn, on⟩ = gpendP n P c id on := rfl
      rw [e1]
      refine (step_1 (Q := gpendP n P c id on) H.pu c id nn on (if gpendE n c id on then 1 else 0) (fun w1 h1 => by rw [← setE1 (v := nn)]; exact Doc.set_1 h1 c id nn on) (fun w1 h1 => (gpend_c h1 c id on).mono fun e w' hh => ⟨hh.1, hh.2.gtl⟩)).mono fun e w' hh => ⟨hh.1, ?_⟩
      obtain ⟨L', U⟩ := hh.2
      exact ⟨_, L', U.pw (H.lk.pe c id nn on)⟩
    · have e1 : onlyP n P ⟨2, c, id, nn, on⟩ = glineP n P c id on := rfl
      rw [e1]
      refine (step_2 (Q := glineP n P c id on) H.pu c id nn on (if glineE n c id on then 1 else 0) (fun w1 h1 => by rw [← setE2 (v := nn)]; exact Doc.set_2 h1 c id nn on) (fun w1 h1 => (gline_c h1 c id on).mono fun e w' hh => ⟨hh.1, hh.2.gtl⟩)).mono fun e w' hh => ⟨hh.1, ?_⟩
      obtain ⟨L', U⟩ := hh.2
      exact ⟨_, L', U.pw (H.lk.li c id nn on)⟩
    · have e1 : onlyP n P ⟨3, c, id, nn, on⟩ = grankP n P c id nn := rfl
      rw [e1]
      refine (step_3 (Q := grankP n P c id nn) H.pu c id nn on (if grankE n c id nn then 1 else 0) (fun w1 h1 => by rw [← setE3]; exact Doc.set_3 h1 c id nn on) (fun w1 h1 => (grank_c h1 c id nn).mono fun e w' hh => ⟨hh.1, hh.2.gtl⟩)).mono fun e w' hh => ⟨hh.1, ?_⟩
      obtain ⟨L', U⟩ := hh.2
      exact ⟨_, L', U.pw (H.lk.ra c id nn on)⟩
    · have e1 : onlyP n P ⟨4, c, id, nn, on⟩ = grouteP n P id c := rfl
      rw [e1]
      refine (step_4 (Q := grouteP n P id c) H.pu c id nn on (if grouteE n id c then 1 else 0) (fun w1 h1 => by rw [← routeE_eq]; exact Doc.route_c h1 id c) (fun w1 h1 => (groute_c h1 id c).mono fun e w' hh => ⟨hh.1, hh.2.gtl⟩)).mono fun e w' hh => ⟨hh.1, ?_⟩
      obtain ⟨L', U⟩ := hh.2
      exact ⟨_, L', U.pw (H.lk.ro id c)⟩
    · have e1 : onlyP n P ⟨5, c, id, nn, on⟩ = gmaskP n P c nn := rfl
      rw [e1]
      refine (step_5 (Q := gmaskP n P c nn) H.pu c id nn on (if gmaskE n c nn then 1 else 0) (fun w1 h1 => by rw [← maskE_eq]; exact Doc.mask_c h1 c nn) (fun w1 h1 => (gmask_c h1 c nn).mono fun e w' hh => ⟨hh.1, hh.2.gtl⟩)).mono fun e w' hh => ⟨hh.1, ?_⟩
      obtain ⟨L', U⟩ := hh.2
      exact ⟨_, L', U.pw (H.lk.mskP c nn)⟩
    · have e1 : onlyP n P ⟨6, c, id, nn, on⟩ = gsendP n P nn id := rfl
      rw [e1]
      refine (step_6 (Q := gsendP n P nn id) H.pu c id nn on (if gsendE n nn id then 1 else 0) (fun w1 h1 => by rw [← sendE_eq]; exact Doc.send_c h1 nn id hn) (fun w1 h1 => (gsend_c h1 nn id).mono fun e w' hh => ⟨hh.1, hh.2.gtl⟩)).mono fun e w' hh => ⟨hh.1, ?_⟩
      obtain ⟨L', U⟩ := hh.2
      exact ⟨_, L', U.pw (H.lk.send nn id)⟩
    · have e1 : onlyP n P ⟨7, c, id, nn, on⟩ = ackP n P c := rfl
      rw [e1]
      refine (step_7 (Q := ackP n P c) H.pu c id nn on (ackV n P c) (fun w1 h1 => by rw [← H.lk.ackV]; exact Doc.ack_c h1 c) (fun w1 h1 => (gack_c h1 c hlen).mono fun e w' hh => ⟨hh.1, hh.2⟩)).mono fun e w' hh => ⟨hh.1, ?_⟩
      obtain ⟨L', U⟩ := hh.2
      exact ⟨_, L', U.pw (H.lk.ack c)⟩
    · have e1 : onlyP n P ⟨8, c, id, nn, on⟩ = geoiP n P c id := rfl
      rw [e1]
      refine (step_8 (Q := geoiP n P c id) H.pu c id nn on (eoiB n P c id) (geoiE n c id) (fun w1 h1 => by rw [← H.lk.eoiB, ← Lk.eoiE]; exact Doc.eoi_c h1 c id) (fun w1 h1 => (geoi_c h1 c id).mono fun e w' hh => ⟨hh.1, hh.2⟩)).mono fun e w' hh => ⟨hh.1, ?_⟩
      obtain ⟨L', U⟩ := hh.2
      exact ⟨_, L', U.pw (H.lk.eoi c id)⟩
  · have e : onlyP n P o = P := by
      unfold onlyP
      rw [if_neg (by omega), if_neg (by omega), if_neg (by omega), if_neg (by omega), if_neg (by omega), if_neg (by omega), if_neg (by omega), if_neg (by omega), if_neg (by omega)]
    rw [e]
    refine (step_x H.pu o hk).mono fun e w' hh => ⟨hh.1, ?_⟩
    obtain ⟨L', U⟩ := hh.2
    exact ⟨X, L', U.pw H.lk⟩
end
end Go.Proofs.Ytpmlehfnlodmbaa
