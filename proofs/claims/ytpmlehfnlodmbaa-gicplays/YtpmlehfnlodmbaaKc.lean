/- A call, whatever it answers. -/
import Derived.Test.YtpmlehfnlodmbaaKb
import Derived.Test.YtpmlehfnlodmbaaSc
namespace Go.Proofs.Ytpmlehfnlodmbaa
open Go.RowKit
set_option linter.unusedVariables false
set_option linter.unusedSimpArgs false
set_option maxRecDepth 8000

/-- What a call makes of the controller. -/
def onlyP (n : Nat) (P : Pg) (o : St5) : Pg :=
  if o.k = 0 then genableP n P o.c o.id o.on else if o.k = 1 then gpendP n P o.c o.id o.on else if o.k = 2 then glineP n P o.c o.id o.on else if o.k = 3 then grankP n P o.c o.id o.n
  else if o.k = 4 then grouteP n P o.id o.c else if o.k = 5 then gmaskP n P o.c o.n else if o.k = 6 then gsendP n P o.n o.id else if o.k = 7 then ackP n P o.c else if o.k = 8 then geoiP n P o.c o.id else P
def OnC (g n : Nat) (L : GLay) (P P' : Pg) (w1 : World) : Nat → World → Prop
  | 0, w' => GicAt g n P L w' ∧ Below w1.heap.size w1 w'
  | 1, w' => GTL g n L P' w1 w'
  | _, _ => False
theorem row_st {w : World} {b : Nat} {o : St5} (h : w.heap[b]? = some (.cells o.row.toArray 35)) : w.cell? ⟨b, 0, none⟩ = some (vI o.k) ∧ w.cell? ⟨b, 1, none⟩ = some (vI o.c) ∧ w.cell? ⟨b, 2, none⟩ = some (vI o.id) ∧ w.cell? ⟨b, 3, none⟩ = some (vI o.n) ∧ w.cell? ⟨b, 4, none⟩ = some (.bool o.on) := by
  refine ⟨?_, ?_, ?_, ?_, ?_⟩ <;> rw [cell_of_row _ _ _ _ _ _ h] <;> rfl
section
variable {g n : Nat} {P : Pg} {L : GLay} {w : World}
theorem only_0 (H : GicAt g n P L w) (c id nn : Int) (on : Bool) {wb : Nat} {rv : Value} (hW : w.heap[wb]? = some (.cells #[ptr g 0, rv] 32)) (hlen : ∀ c, c < n → (P.wk c).length + 1 < 1000000) : Calls Try.prog 30 #[ptr wb 0, St5.val ⟨0, c, id, nn, on⟩] w fun e w' => e = .returned (.tuple #[]) ∧ GTL g n L (genableP n P c id on) w w' := by
  go_enter Try.func30, Try.ntmps30
  go_upto_region 1 with fail
  generalize hw2 : World.alloc _ _ = w2
  have B2 : Below w.heap.size w w2 := by rw [← hw2]; exact below_alloc _ _
  have hb : w2.heap[w.heap.size]? = some (.cells (St5.row ⟨0, c, id, nn, on⟩).toArray 35) := by rw [← hw2]; exact heap_alloc_new _ _
  have hW2 : w2.heap[wb]? = some (.cells #[ptr g 0, rv] 32) := by rw [B2.block _ (lt_of_some hW)]; exact hW
  have H2 := H.grow B2
  clear hw2 hW
  obtain ⟨z0, _, _, _, _⟩ := row_st hb
  go_upto_region 3 with fail
  clear z0
  have hst : (OnC g n L P (genableP n P c id on) w2) 0 { w2 with drawn := w2.drawn + 1 } := ⟨H2.grow (Rel.below_draws (n := 1) (Below.refl _ _)), Rel.below_draws (n := 1) (Below.refl _ _)⟩
  refine Chn.wp_region_chainL (OnC g n L P (genableP n P c id on) w2) [10] [1, 1, 1, 0, 1, 0, 1, 0, 1, 0, 1] [ptr wb 0, ptr wb 0, ptr wb 0, ptr g 0, ptr w.heap.size 1, vI c, ptr w.heap.size 2, vI id, ptr w.heap.size 4, .bool on, vI (if genableE n c id on then 1 else 0)] (by kernel_rfl) (by kernel_rfl) (by kernel_rfl) (by kernel_rfl) (by kernel_rfl) hst ?_
  clear hst
  iterate 3 (refine ⟨fun j w1 hj hC => by exact Chn.upon_pure hC (fun F hF => by (go_simp <;> exact hF)), ?_⟩; simp only [Act.put, List.setIfInBounds_toArray, List.set_cons_succ, List.set_cons_zero])
  refine ⟨fun j w1 hj hC => by
    obtain rfl : j = 0 := Nat.le_zero.1 hj
    have z : w1.cell? ⟨wb, 0, none⟩ = some (ptr g 0) := by rw [cell_of_row _ _ _ _ _ _ ((hC.2.block _ (lt_of_some hW2)).trans hW2)]; rfl
    exact Chn.upon_pure hC (fun F hF => by (go_simp <;> exact hF)), ?_⟩
  simp only [Act.put, List.setIfInBounds_toArray, List.set_cons_succ, List.set_cons_zero]
  (refine ⟨fun j w1 hj hC => by exact Chn.upon_pure hC (fun F hF => by (go_simp <;> exact hF)), ?_⟩; simp only [Act.put, List.setIfInBounds_toArray, List.set_cons_succ, List.set_cons_zero])
  refine ⟨fun j w1 hj hC => by
    obtain rfl : j = 0 := Nat.le_zero.1 hj
    obtain ⟨_, z1, z2, z3, z4⟩ := row_st ((hC.2.block _ (lt_of_some hb)).trans hb)
    exact Chn.upon_pure hC (fun F hF => by (go_simp <;> exact hF)), ?_⟩
  simp only [Act.put, List.setIfInBounds_toArray, List.set_cons_succ, List.set_cons_zero]
  (refine ⟨fun j w1 hj hC => by exact Chn.upon_pure hC (fun F hF => by (go_simp <;> exact hF)), ?_⟩; simp only [Act.put, List.setIfInBounds_toArray, List.set_cons_succ, List.set_cons_zero])
  refine ⟨fun j w1 hj hC => by
    obtain rfl : j = 0 := Nat.le_zero.1 hj
    obtain ⟨_, z1, z2, z3, z4⟩ := row_st ((hC.2.block _ (lt_of_some hb)).trans hb)
    exact Chn.upon_pure hC (fun F hF => by (go_simp <;> exact hF)), ?_⟩
  simp only [Act.put, List.setIfInBounds_toArray, List.set_cons_succ, List.set_cons_zero]
  (refine ⟨fun j w1 hj hC => by exact Chn.upon_pure hC (fun F hF => by (go_simp <;> exact hF)), ?_⟩; simp only [Act.put, List.setIfInBounds_toArray, List.set_cons_succ, List.set_cons_zero])
  refine ⟨fun j w1 hj hC => by
    obtain rfl : j = 0 := Nat.le_zero.1 hj
    obtain ⟨_, z1, z2, z3, z4⟩ := row_st ((hC.2.block _ (lt_of_some hb)).trans hb)
    exact Chn.upon_pure hC (fun F hF => by (go_simp <;> exact hF)), ?_⟩
  simp only [Act.put, List.setIfInBounds_toArray, List.set_cons_succ, List.set_cons_zero]
  refine ⟨fun w1 hC => by
    have hc := genable_c hC.1 c id on
    exact Chn.upon_call (C := (OnC g n L P (genableP n P c id on) w2) 1) hc (fun e2 w2' hh => ⟨hh.1, by
      have h2 := hh.2.gtl
      exact GTL.ahead (g := g) (n := n) (L := L) (Q := P) ⟨hC.1, goes_of_below hC.2⟩ h2⟩) (fun F hF => by (go_simp <;> exact hF)), ?_⟩
  simp only [Act.put, List.setIfInBounds_toArray, List.set_cons_succ, List.set_cons_zero]
  intro w5 hC
  replace hC : GTL g n L (genableP n P c id on) w2 w5 := hC
  go_wp2
  all_goals exact bodyPost_end (results_none rfl _ _ _) rfl ⟨rfl, GTL.ahead (Q := P) ⟨H2, goes_of_below B2⟩ hC⟩
theorem only_1 (H : GicAt g n P L w) (c id nn : Int) (on : Bool) {wb : Nat} {rv : Value} (hW : w.heap[wb]? = some (.cells #[ptr g 0, rv] 32)) (hlen : ∀ c, c < n → (P.wk c).length + 1 < 1000000) : Calls Try.prog 30 #[ptr wb 0, St5.val ⟨1, c, id, nn, on⟩] w fun e w' => e = .returned (.tuple #[]) ∧ GTL g n L (gpendP n P c id on) w w' := by
  go_enter Try.func30, Try.ntmps30
  go_upto_region 1 with fail
  generalize hw2 : World.alloc _ _ = w2
  have B2 : Below w.heap.size w w2 := by rw [← hw2]; exact below_alloc _ _
  have hb : w2.heap[w.heap.size]? = some (.cells (St5.row ⟨1, c, id, nn, on⟩).toArray 35) := by rw [← hw2]; exact heap_alloc_new _ _
  have hW2 : w2.heap[wb]? = some (.cells #[ptr g 0, rv] 32) := by rw [B2.block _ (lt_of_some hW)]; exact hW
  have H2 := H.grow B2
  clear hw2 hW
  obtain ⟨z0, _, _, _, _⟩ := row_st hb
  go_upto_region 5 with fail
  clear z0
  have hst : (OnC g n L P (gpendP n P c id on) w2) 0 { w2 with drawn := w2.drawn + 1 } := ⟨H2.grow (Rel.below_draws (n := 1) (Below.refl _ _)), Rel.below_draws (n := 1) (Below.refl _ _)⟩
  refine Chn.wp_region_chainL (OnC g n L P (gpendP n P c id on) w2) [10] [1, 1, 1, 0, 1, 0, 1, 0, 1, 0, 1] [ptr wb 0, ptr wb 0, ptr wb 0, ptr g 0, ptr w.heap.size 1, vI c, ptr w.heap.size 2, vI id, ptr w.heap.size 4, .bool on, vI (if gpendE n c id on then 1 else 0)] (by kernel_rfl) (by kernel_rfl) (by kernel_rfl) (by kernel_rfl) (by kernel_rfl) hst ?_
  clear hst
  iterate 3 (refine ⟨fun j w1 hj hC => by exact Chn.upon_pure hC (fun F hF => by (go_simp <;> exact hF)), ?_⟩; simp only [Act.put, List.setIfInBounds_toArray, List.set_cons_succ, List.set_cons_zero])
  refine ⟨fun j w1 hj hC => by
    obtain rfl : j = 0 := Nat.le_zero.1 hj
    have z : w1.cell? ⟨wb, 0, none⟩ = some (ptr g 0) := by rw [cell_of_row _ _ _ _ _ _ ((hC.2.block _ (lt_of_some hW2)).trans hW2)]; rfl
    exact Chn.upon_pure hC (fun F hF => by (go_simp <;> exact hF)), ?_⟩
  simp only [Act.put, List.setIfInBounds_toArray, List.set_cons_succ, List.set_cons_zero]
  (refine ⟨fun j w1 hj hC => by exact Chn.upon_pure hC (fun F hF => by (go_simp <;> exact hF)), ?_⟩; simp only [Act.put, List.setIfInBounds_toArray, List.set_cons_succ, List.set_cons_zero])
  refine ⟨fun j w1 hj hC => by
    obtain rfl : j = 0 := Nat.le_zero.1 hj
    obtain ⟨_, z1, z2, z3, z4⟩ := row_st ((hC.2.block _ (lt_of_some hb)).trans hb)
    exact Chn.upon_pure hC (fun F hF => by (go_simp <;> exact hF)), ?_⟩
  simp only [Act.put, List.setIfInBounds_toArray, List.set_cons_succ, List.set_cons_zero]
  (refine ⟨fun j w1 hj hC => by exact Chn.upon_pure hC (fun F hF => by (go_simp <;> exact hF)), ?_⟩; simp only [Act.put, List.setIfInBounds_toArray, List.set_cons_succ, List.set_cons_zero])
  refine ⟨fun j w1 hj hC => by
    obtain rfl : j = 0 := Nat.le_zero.1 hj
    obtain ⟨_, z1, z2, z3, z4⟩ := row_st ((hC.2.block _ (lt_of_some hb)).trans hb)
    exact Chn.upon_pure hC (fun F hF => by (go_simp <;> exact hF)), ?_⟩
  simp only [Act.put, List.setIfInBounds_toArray, List.set_cons_succ, List.set_cons_zero]
  (refine ⟨fun j w1 hj hC => by exact Chn.upon_pure hC (fun F hF => by (go_simp <;> exact hF)), ?_⟩; simp only [Act.put, List.setIfInBounds_toArray, List.set_cons_succ, List.set_cons_zero])
  refine ⟨fun j w1 hj hC => by
    obtain rfl : j = 0 := Nat.le_zero.1 hj
    obtain ⟨_, z1, z2, z3, z4⟩ := row_st ((hC.2.block _ (lt_of_some hb)).trans hb)
    exact Chn.upon_pure hC (fun F hF => by (go_simp <;> exact hF)), ?_⟩
  simp only [Act.put, List.setIfInBounds_toArray, List.set_cons_succ, List.set_cons_zero]
  refine ⟨fun w1 hC => by
    have hc := gpend_c hC.1 c id on
    exact Chn.upon_call (C := (OnC g n L P (gpendP n P c id on) w2) 1) hc (fun e2 w2' hh => ⟨hh.1, by
      have h2 := hh.2.gtl
      exact GTL.ahead (g := g) (n := n) (L := L) (Q := P) ⟨hC.1, goes_of_below hC.2⟩ h2⟩) (fun F hF => by (go_simp <;> exact hF)), ?_⟩
  simp only [Act.put, List.setIfInBounds_toArray, List.set_cons_succ, List.set_cons_zero]
  intro w5 hC
  replace hC : GTL g n L (gpendP n P c id on) w2 w5 := hC
  go_wp2
  all_goals exact bodyPost_end (results_none rfl _ _ _) rfl ⟨rfl, GTL.ahead (Q := P) ⟨H2, goes_of_below B2⟩ hC⟩
theorem only_2 (H : GicAt g n P L w) (c id nn : Int) (on : Bool) {wb : Nat} {rv : Value} (hW : w.heap[wb]? = some (.cells #[ptr g 0, rv] 32)) (hlen : ∀ c, c < n → (P.wk c).length + 1 < 1000000) : Calls Try.prog 30 #[ptr wb 0, St5.val ⟨2, c, id, nn, on⟩] w fun e w' => e = .returned (.tuple #[]) ∧ GTL g n L (glineP n P c id on) w w' := by
  go_enter Try.func30, Try.ntmps30
  go_upto_region 1 with fail
  generalize hw2 : World.alloc _ _ = w2
  have B2 : Below w.heap.size w w2 := by rw [← hw2]; exact below_alloc _ _
  have hb : w2.heap[w.heap.size]? = some (.cells (St5.row ⟨2, c, id, nn, on⟩).toArray 35) := by rw [← hw2]; exact heap_alloc_new _ _
  have hW2 : w2.heap[wb]? = some (.cells #[ptr g 0, rv] 32) := by rw [B2.block _ (lt_of_some hW)]; exact hW
  have H2 := H.grow B2
  clear hw2 hW
  obtain ⟨z0, _, _, _, _⟩ := row_st hb
  go_upto_region 7 with fail
  clear z0
  have hst : (OnC g n L P (glineP n P c id on) w2) 0 { w2 with drawn := w2.drawn + 1 } := ⟨H2.grow (Rel.below_draws (n := 1) (Below.refl _ _)), Rel.below_draws (n := 1) (Below.refl _ _)⟩
  refine Chn.wp_region_chainL (OnC g n L P (glineP n P c id on) w2) [10] [1, 1, 1, 0, 1, 0, 1, 0, 1, 0, 1] [ptr wb 0, ptr wb 0, ptr wb 0, ptr g 0, ptr w.heap.size 1, vI c, ptr w.heap.size 2, vI id, ptr w.heap.size 4, .bool on, vI (if glineE n c id on then 1 else 0)] (by kernel_rfl) (by kernel_rfl) (by kernel_rfl) (by kernel_rfl) (by kernel_rfl) hst ?_
  clear hst
  iterate 3 (refine ⟨fun j w1 hj hC => by exact Chn.upon_pure hC (fun F hF => by (go_simp <;> exact hF)), ?_⟩; simp only [Act.put, List.setIfInBounds_toArray, List.set_cons_succ, List.set_cons_zero])
  refine ⟨fun j w1 hj hC => by
    obtain rfl : j = 0 := Nat.le_zero.1 hj
    have z : w1.cell? ⟨wb, 0, none⟩ = some (ptr g 0) := by rw [cell_of_row _ _ _ _ _ _ ((hC.2.block _ (lt_of_some hW2)).trans hW2)]; rfl
    exact Chn.upon_pure hC (fun F hF => by (go_simp <;> exact hF)), ?_⟩
  simp only [Act.put, List.setIfInBounds_toArray, List.set_cons_succ, List.set_cons_zero]
  (refine ⟨fun j w1 hj hC => by exact Chn.upon_pure hC (fun F hF => by (go_simp <;> exact hF)), ?_⟩; simp only [Act.put, List.setIfInBounds_toArray, List.set_cons_succ, List.set_cons_zero])
  refine ⟨fun j w1 hj hC => by
    obtain rfl : j = 0 := Nat.le_zero.1 hj
    obtain ⟨_, z1, z2, z3, z4⟩ := row_st ((hC.2.block _ (lt_of_some hb)).trans hb)
    exact Chn.upon_pure hC (fun F hF => by (go_simp <;> exact hF)), ?_⟩
  simp only [Act.put, List.setIfInBounds_toArray, List.set_cons_succ, List.set_cons_zero]
  (refine ⟨fun j w1 hj hC => by exact Chn.upon_pure hC (fun F hF => by (go_simp <;> exact hF)), ?_⟩; simp only [Act.put, List.setIfInBounds_toArray, List.set_cons_succ, List.set_cons_zero])
  refine ⟨fun j w1 hj hC => by
    obtain rfl : j = 0 := Nat.le_zero.1 hj
    obtain ⟨_, z1, z2, z3, z4⟩ := row_st ((hC.2.block _ (lt_of_some hb)).trans hb)
    exact Chn.upon_pure hC (fun F hF => by (go_simp <;> exact hF)), ?_⟩
  simp only [Act.put, List.setIfInBounds_toArray, List.set_cons_succ, List.set_cons_zero]
  (refine ⟨fun j w1 hj hC => by exact Chn.upon_pure hC (fun F hF => by (go_simp <;> exact hF)), ?_⟩; simp only [Act.put, List.setIfInBounds_toArray, List.set_cons_succ, List.set_cons_zero])
  refine ⟨fun j w1 hj hC => by
    obtain rfl : j = 0 := Nat.le_zero.1 hj
    obtain ⟨_, z1, z2, z3, z4⟩ := row_st ((hC.2.block _ (lt_of_some hb)).trans hb)
    exact Chn.upon_pure hC (fun F hF => by (go_simp <;> exact hF)), ?_⟩
  simp only [Act.put, List.setIfInBounds_toArray, List.set_cons_succ, List.set_cons_zero]
  refine ⟨fun w1 hC => by
    have hc := gline_c hC.1 c id on
    exact Chn.upon_call (C := (OnC g n L P (glineP n P c id on) w2) 1) hc (fun e2 w2' hh => ⟨hh.1, by
      have h2 := hh.2.gtl
      exact GTL.ahead (g := g) (n := n) (L := L) (Q := P) ⟨hC.1, goes_of_below hC.2⟩ h2⟩) (fun F hF => by (go_simp <;> exact hF)), ?_⟩
  simp only [Act.put, List.setIfInBounds_toArray, List.set_cons_succ, List.set_cons_zero]
  intro w5 hC
  replace hC : GTL g n L (glineP n P c id on) w2 w5 := hC
  go_wp2
  all_goals exact bodyPost_end (results_none rfl _ _ _) rfl ⟨rfl, GTL.ahead (Q := P) ⟨H2, goes_of_below B2⟩ hC⟩
theorem only_3 (H : GicAt g n P L w) (c id nn : Int) (on : Bool) {wb : Nat} {rv : Value} (hW : w.heap[wb]? = some (.cells #[ptr g 0, rv] 32)) (hlen : ∀ c, c < n → (P.wk c).length + 1 < 1000000) : Calls Try.prog 30 #[ptr wb 0, St5.val ⟨3, c, id, nn, on⟩] w fun e w' => e = .returned (.tuple #[]) ∧ GTL g n L (grankP n P c id nn) w w' := by
  go_enter Try.func30, Try.ntmps30
  go_upto_region 1 with fail
  generalize hw2 : World.alloc _ _ = w2
  have B2 : Below w.heap.size w w2 := by rw [← hw2]; exact below_alloc _ _
  have hb : w2.heap[w.heap.size]? = some (.cells (St5.row ⟨3, c, id, nn, on⟩).toArray 35) := by rw [← hw2]; exact heap_alloc_new _ _
  have hW2 : w2.heap[wb]? = some (.cells #[ptr g 0, rv] 32) := by rw [B2.block _ (lt_of_some hW)]; exact hW
  have H2 := H.grow B2
  clear hw2 hW
  obtain ⟨z0, _, _, _, _⟩ := row_st hb
  go_upto_region 9 with fail
  clear z0
  have hst : (OnC g n L P (grankP n P c id nn) w2) 0 { w2 with drawn := w2.drawn + 1 } := ⟨H2.grow (Rel.below_draws (n := 1) (Below.refl _ _)), Rel.below_draws (n := 1) (Below.refl _ _)⟩
  refine Chn.wp_region_chainL (OnC g n L P (grankP n P c id nn) w2) [10] [1, 1, 1, 0, 1, 0, 1, 0, 1, 0, 1] [ptr wb 0, ptr wb 0, ptr wb 0, ptr g 0, ptr w.heap.size 1, vI c, ptr w.heap.size 2, vI id, ptr w.heap.size 3, vI nn, vI (if grankE n c id nn then 1 else 0)] (by kernel_rfl) (by kernel_rfl) (by kernel_rfl) (by kernel_rfl) (by kernel_rfl) hst ?_
  clear hst
  iterate 3 (refine ⟨fun j w1 hj hC => by exact Chn.upon_pure hC (fun F hF => by (go_simp <;> exact hF)), ?_⟩; simp only [Act.put, List.setIfInBounds_toArray, List.set_cons_succ, List.set_cons_zero])
  refine ⟨fun j w1 hj hC => by
    obtain rfl : j = 0 := Nat.le_zero.1 hj
    have z : w1.cell? ⟨wb, 0, none⟩ = some (ptr g 0) := by rw [cell_of_row _ _ _ _ _ _ ((hC.2.block _ (lt_of_some hW2)).trans hW2)]; rfl
    exact Chn.upon_pure hC (fun F hF => by (go_simp <;> exact hF)), ?_⟩
  simp only [Act.put, List.setIfInBounds_toArray, List.set_cons_succ, List.set_cons_zero]
  (refine ⟨fun j w1 hj hC => by exact Chn.upon_pure hC (fun F hF => by (go_simp <;> exact hF)), ?_⟩; simp only [Act.put, List.setIfInBounds_toArray, List.set_cons_succ, List.set_cons_zero])
  refine ⟨fun j w1 hj hC => by
    obtain rfl : j = 0 := Nat.le_zero.1 hj
    obtain ⟨_, z1, z2, z3, z4⟩ := row_st ((hC.2.block _ (lt_of_some hb)).trans hb)
    exact Chn.upon_pure hC (fun F hF => by (go_simp <;> exact hF)), ?_⟩
  simp only [Act.put, List.setIfInBounds_toArray, List.set_cons_succ, List.set_cons_zero]
  (refine ⟨fun j w1 hj hC => by exact Chn.upon_pure hC (fun F hF => by (go_simp <;> exact hF)), ?_⟩; simp only [Act.put, List.setIfInBounds_toArray, List.set_cons_succ, List.set_cons_zero])
  refine ⟨fun j w1 hj hC => by
    obtain rfl : j = 0 := Nat.le_zero.1 hj
    obtain ⟨_, z1, z2, z3, z4⟩ := row_st ((hC.2.block _ (lt_of_some hb)).trans hb)
    exact Chn.upon_pure hC (fun F hF => by (go_simp <;> exact hF)), ?_⟩
  simp only [Act.put, List.setIfInBounds_toArray, List.set_cons_succ, List.set_cons_zero]
  (refine ⟨fun j w1 hj hC => by exact Chn.upon_pure hC (fun F hF => by (go_simp <;> exact hF)), ?_⟩; simp only [Act.put, List.setIfInBounds_toArray, List.set_cons_succ, List.set_cons_zero])
  refine ⟨fun j w1 hj hC => by
    obtain rfl : j = 0 := Nat.le_zero.1 hj
    obtain ⟨_, z1, z2, z3, z4⟩ := row_st ((hC.2.block _ (lt_of_some hb)).trans hb)
    exact Chn.upon_pure hC (fun F hF => by (go_simp <;> exact hF)), ?_⟩
  simp only [Act.put, List.setIfInBounds_toArray, List.set_cons_succ, List.set_cons_zero]
  refine ⟨fun w1 hC => by
    have hc := grank_c hC.1 c id nn
    exact Chn.upon_call (C := (OnC g n L P (grankP n P c id nn) w2) 1) hc (fun e2 w2' hh => ⟨hh.1, by
      have h2 := hh.2.gtl
      exact GTL.ahead (g := g) (n := n) (L := L) (Q := P) ⟨hC.1, goes_of_below hC.2⟩ h2⟩) (fun F hF => by (go_simp <;> exact hF)), ?_⟩
  simp only [Act.put, List.setIfInBounds_toArray, List.set_cons_succ, List.set_cons_zero]
  intro w5 hC
  replace hC : GTL g n L (grankP n P c id nn) w2 w5 := hC
  go_wp2
  all_goals exact bodyPost_end (results_none rfl _ _ _) rfl ⟨rfl, GTL.ahead (Q := P) ⟨H2, goes_of_below B2⟩ hC⟩
theorem only_4 (H : GicAt g n P L w) (c id nn : Int) (on : Bool) {wb : Nat} {rv : Value} (hW : w.heap[wb]? = some (.cells #[ptr g 0, rv] 32)) (hlen : ∀ c, c < n → (P.wk c).length + 1 < 1000000) : Calls Try.prog 30 #[ptr wb 0, St5.val ⟨4, c, id, nn, on⟩] w fun e w' => e = .returned (.tuple #[]) ∧ GTL g n L (grouteP n P id c) w w' := by
  go_enter Try.func30, Try.ntmps30
  go_upto_region 1 with fail
  generalize hw2 : World.alloc _ _ = w2
  have B2 : Below w.heap.size w w2 := by rw [← hw2]; exact below_alloc _ _
  have hb : w2.heap[w.heap.size]? = some (.cells (St5.row ⟨4, c, id, nn, on⟩).toArray 35) := by rw [← hw2]; exact heap_alloc_new _ _
  have hW2 : w2.heap[wb]? = some (.cells #[ptr g 0, rv] 32) := by rw [B2.block _ (lt_of_some hW)]; exact hW
  have H2 := H.grow B2
  clear hw2 hW
  obtain ⟨z0, _, _, _, _⟩ := row_st hb
  go_upto_region 11 with fail
  clear z0
  have hst : (OnC g n L P (grouteP n P id c) w2) 0 { w2 with drawn := w2.drawn + 1 } := ⟨H2.grow (Rel.below_draws (n := 1) (Below.refl _ _)), Rel.below_draws (n := 1) (Below.refl _ _)⟩
  refine Chn.wp_region_chainL (OnC g n L P (grouteP n P id c) w2) [8] [1, 1, 1, 0, 1, 0, 1, 0, 1] [ptr wb 0, ptr wb 0, ptr wb 0, ptr g 0, ptr w.heap.size 2, vI id, ptr w.heap.size 1, vI c, vI (if grouteE n id c then 1 else 0)] (by kernel_rfl) (by kernel_rfl) (by kernel_rfl) (by kernel_rfl) (by kernel_rfl) hst ?_
  clear hst
  iterate 3 (refine ⟨fun j w1 hj hC => by exact Chn.upon_pure hC (fun F hF => by (go_simp <;> exact hF)), ?_⟩; simp only [Act.put, List.setIfInBounds_toArray, List.set_cons_succ, List.set_cons_zero])
  refine ⟨fun j w1 hj hC => by
    obtain rfl : j = 0 := Nat.le_zero.1 hj
    have z : w1.cell? ⟨wb, 0, none⟩ = some (ptr g 0) := by rw [cell_of_row _ _ _ _ _ _ ((hC.2.block _ (lt_of_some hW2)).trans hW2)]; rfl
    exact Chn.upon_pure hC (fun F hF => by (go_simp <;> exact hF)), ?_⟩
  simp only [Act.put, List.setIfInBounds_toArray, List.set_cons_succ, List.set_cons_zero]
  (refine ⟨fun j w1 hj hC => by exact Chn.upon_pure hC (fun F hF => by (go_simp <;> exact hF)), ?_⟩; simp only [Act.put, List.setIfInBounds_toArray, List.set_cons_succ, List.set_cons_zero])
  refine ⟨fun j w1 hj hC => by
    obtain rfl : j = 0 := Nat.le_zero.1 hj
    obtain ⟨_, z1, z2, z3, z4⟩ := row_st ((hC.2.block _ (lt_of_some hb)).trans hb)
    exact Chn.upon_pure hC (fun F hF => by (go_simp <;> exact hF)), ?_⟩
  simp only [Act.put, List.setIfInBounds_toArray, List.set_cons_succ, List.set_cons_zero]
  (refine ⟨fun j w1 hj hC => by exact Chn.upon_pure hC (fun F hF => by (go_simp <;> exact hF)), ?_⟩; simp only [Act.put, List.setIfInBounds_toArray, List.set_cons_succ, List.set_cons_zero])
  refine ⟨fun j w1 hj hC => by
    obtain rfl : j = 0 := Nat.le_zero.1 hj
    obtain ⟨_, z1, z2, z3, z4⟩ := row_st ((hC.2.block _ (lt_of_some hb)).trans hb)
    exact Chn.upon_pure hC (fun F hF => by (go_simp <;> exact hF)), ?_⟩
  simp only [Act.put, List.setIfInBounds_toArray, List.set_cons_succ, List.set_cons_zero]
  refine ⟨fun w1 hC => by
    have hc := groute_c hC.1 id c
    exact Chn.upon_call (C := (OnC g n L P (grouteP n P id c) w2) 1) hc (fun e2 w2' hh => ⟨hh.1, by
      have h2 := hh.2.gtl
      exact GTL.ahead (g := g) (n := n) (L := L) (Q := P) ⟨hC.1, goes_of_below hC.2⟩ h2⟩) (fun F hF => by (go_simp <;> exact hF)), ?_⟩
  simp only [Act.put, List.setIfInBounds_toArray, List.set_cons_succ, List.set_cons_zero]
  intro w5 hC
  replace hC : GTL g n L (grouteP n P id c) w2 w5 := hC
  go_wp2
  all_goals exact bodyPost_end (results_none rfl _ _ _) rfl ⟨rfl, GTL.ahead (Q := P) ⟨H2, goes_of_below B2⟩ hC⟩
theorem only_5 (H : GicAt g n P L w) (c id nn : Int) (on : Bool) {wb : Nat} {rv : Value} (hW : w.heap[wb]? = some (.cells #[ptr g 0, rv] 32)) (hlen : ∀ c, c < n → (P.wk c).length + 1 < 1000000) : Calls Try.prog 30 #[ptr wb 0, St5.val ⟨5, c, id, nn, on⟩] w fun e w' => e = .returned (.tuple #[]) ∧ GTL g n L (gmaskP n P c nn) w w' := by
  go_enter Try.func30, Try.ntmps30
  go_upto_region 1 with fail
  generalize hw2 : World.alloc _ _ = w2
  have B2 : Below w.heap.size w w2 := by rw [← hw2]; exact below_alloc _ _
  have hb : w2.heap[w.heap.size]? = some (.cells (St5.row ⟨5, c, id, nn, on⟩).toArray 35) := by rw [← hw2]; exact heap_alloc_new _ _
  have hW2 : w2.heap[wb]? = some (.cells #[ptr g 0, rv] 32) := by rw [B2.block _ (lt_of_some hW)]; exact hW
  have H2 := H.grow B2
  clear hw2 hW
  obtain ⟨z0, _, _, _, _⟩ := row_st hb
  go_upto_region 13 with fail
  clear z0
  have hst : (OnC g n L P (gmaskP n P c nn) w2) 0 { w2 with drawn := w2.drawn + 1 } := ⟨H2.grow (Rel.below_draws (n := 1) (Below.refl _ _)), Rel.below_draws (n := 1) (Below.refl _ _)⟩
  refine Chn.wp_region_chainL (OnC g n L P (gmaskP n P c nn) w2) [8] [1, 1, 1, 0, 1, 0, 1, 0, 1] [ptr wb 0, ptr wb 0, ptr wb 0, ptr g 0, ptr w.heap.size 1, vI c, ptr w.heap.size 3, vI nn, vI (if gmaskE n c nn then 1 else 0)] (by kernel_rfl) (by kernel_rfl) (by kernel_rfl) (by kernel_rfl) (by kernel_rfl) hst ?_
  clear hst
  iterate 3 (refine ⟨fun j w1 hj hC => by exact Chn.upon_pure hC (fun F hF => by (go_simp <;> exact hF)), ?_⟩; simp only [Act.put, List.setIfInBounds_toArray, List.set_cons_succ, List.set_cons_zero])
  refine ⟨fun j w1 hj hC => by
    obtain rfl : j = 0 := Nat.le_zero.1 hj
    have z : w1.cell? ⟨wb, 0, none⟩ = some (ptr g 0) := by rw [cell_of_row _ _ _ _ _ _ ((hC.2.block _ (lt_of_some hW2)).trans hW2)]; rfl
    exact Chn.upon_pure hC (fun F hF => by (go_simp <;> exact hF)), ?_⟩
  simp only [Act.put, List.setIfInBounds_toArray, List.set_cons_succ, List.set_cons_zero]
  (refine ⟨fun j w1 hj hC => by exact Chn.upon_pure hC (fun F hF => by (go_simp <;> exact hF)), ?_⟩; simp only [Act.put, List.setIfInBounds_toArray, List.set_cons_succ, List.set_cons_zero])
  refine ⟨fun j w1 hj hC => by
    obtain rfl : j = 0 := Nat.le_zero.1 hj
    obtain ⟨_, z1, z2, z3, z4⟩ := row_st ((hC.2.block _ (lt_of_some hb)).trans hb)
    exact Chn.upon_pure hC (fun F hF => by (go_simp <;> exact hF)), ?_⟩
  simp only [Act.put, List.setIfInBounds_toArray, List.set_cons_succ, List.set_cons_zero]
  (refine ⟨fun j w1 hj hC => by exact Chn.upon_pure hC (fun F hF => by (go_simp <;> exact hF)), ?_⟩; simp only [Act.put, List.setIfInBounds_toArray, List.set_cons_succ, List.set_cons_zero])
  refine ⟨fun j w1 hj hC => by
    obtain rfl : j = 0 := Nat.le_zero.1 hj
    obtain ⟨_, z1, z2, z3, z4⟩ := row_st ((hC.2.block _ (lt_of_some hb)).trans hb)
    exact Chn.upon_pure hC (fun F hF => by (go_simp <;> exact hF)), ?_⟩
  simp only [Act.put, List.setIfInBounds_toArray, List.set_cons_succ, List.set_cons_zero]
  refine ⟨fun w1 hC => by
    have hc := gmask_c hC.1 c nn
    exact Chn.upon_call (C := (OnC g n L P (gmaskP n P c nn) w2) 1) hc (fun e2 w2' hh => ⟨hh.1, by
      have h2 := hh.2.gtl
      exact GTL.ahead (g := g) (n := n) (L := L) (Q := P) ⟨hC.1, goes_of_below hC.2⟩ h2⟩) (fun F hF => by (go_simp <;> exact hF)), ?_⟩
  simp only [Act.put, List.setIfInBounds_toArray, List.set_cons_succ, List.set_cons_zero]
  intro w5 hC
  replace hC : GTL g n L (gmaskP n P c nn) w2 w5 := hC
  go_wp2
  all_goals exact bodyPost_end (results_none rfl _ _ _) rfl ⟨rfl, GTL.ahead (Q := P) ⟨H2, goes_of_below B2⟩ hC⟩
theorem only_6 (H : GicAt g n P L w) (c id nn : Int) (on : Bool) {wb : Nat} {rv : Value} (hW : w.heap[wb]? = some (.cells #[ptr g 0, rv] 32)) (hlen : ∀ c, c < n → (P.wk c).length + 1 < 1000000) : Calls Try.prog 30 #[ptr wb 0, St5.val ⟨6, c, id, nn, on⟩] w fun e w' => e = .returned (.tuple #[]) ∧ GTL g n L (gsendP n P nn id) w w' := by
  go_enter Try.func30, Try.ntmps30
  go_upto_region 1 with fail
  generalize hw2 : World.alloc _ _ = w2
  have B2 : Below w.heap.size w w2 := by rw [← hw2]; exact below_alloc _ _
  have hb : w2.heap[w.heap.size]? = some (.cells (St5.row ⟨6, c, id, nn, on⟩).toArray 35) := by rw [← hw2]; exact heap_alloc_new _ _
  have hW2 : w2.heap[wb]? = some (.cells #[ptr g 0, rv] 32) := by rw [B2.block _ (lt_of_some hW)]; exact hW
  have H2 := H.grow B2
  clear hw2 hW
  obtain ⟨z0, _, _, _, _⟩ := row_st hb
  go_upto_region 15 with fail
  clear z0
  have hst : (OnC g n L P (gsendP n P nn id) w2) 0 { w2 with drawn := w2.drawn + 1 } := ⟨H2.grow (Rel.below_draws (n := 1) (Below.refl _ _)), Rel.below_draws (n := 1) (Below.refl _ _)⟩
  refine Chn.wp_region_chainL (OnC g n L P (gsendP n P nn id) w2) [8] [1, 1, 1, 0, 1, 0, 1, 0, 1] [ptr wb 0, ptr wb 0, ptr wb 0, ptr g 0, ptr w.heap.size 3, vI nn, ptr w.heap.size 2, vI id, vI (if gsendE n nn id then 1 else 0)] (by kernel_rfl) (by kernel_rfl) (by kernel_rfl) (by kernel_rfl) (by kernel_rfl) hst ?_
  clear hst
  iterate 3 (refine ⟨fun j w1 hj hC => by exact Chn.upon_pure hC (fun F hF => by (go_simp <;> exact hF)), ?_⟩; simp only [Act.put, List.setIfInBounds_toArray, List.set_cons_succ, List.set_cons_zero])
  refine ⟨fun j w1 hj hC => by
    obtain rfl : j = 0 := Nat.le_zero.1 hj
    have z : w1.cell? ⟨wb, 0, none⟩ = some (ptr g 0) := by rw [cell_of_row _ _ _ _ _ _ ((hC.2.block _ (lt_of_some hW2)).trans hW2)]; rfl
    exact Chn.upon_pure hC (fun F hF => by (go_simp <;> exact hF)), ?_⟩
  simp only [Act.put, List.setIfInBounds_toArray, List.set_cons_succ, List.set_cons_zero]
  (refine ⟨fun j w1 hj hC => by exact Chn.upon_pure hC (fun F hF => by (go_simp <;> exact hF)), ?_⟩; simp only [Act.put, List.setIfInBounds_toArray, List.set_cons_succ, List.set_cons_zero])
  refine ⟨fun j w1 hj hC => by
    obtain rfl : j = 0 := Nat.le_zero.1 hj
    obtain ⟨_, z1, z2, z3, z4⟩ := row_st ((hC.2.block _ (lt_of_some hb)).trans hb)
    exact Chn.upon_pure hC (fun F hF => by (go_simp <;> exact hF)), ?_⟩
  simp only [Act.put, List.setIfInBounds_toArray, List.set_cons_succ, List.set_cons_zero]
  (refine ⟨fun j w1 hj hC => by exact Chn.upon_pure hC (fun F hF => by (go_simp <;> exact hF)), ?_⟩; simp only [Act.put, List.setIfInBounds_toArray, List.set_cons_succ, List.set_cons_zero])
  refine ⟨fun j w1 hj hC => by
    obtain rfl : j = 0 := Nat.le_zero.1 hj
    obtain ⟨_, z1, z2, z3, z4⟩ := row_st ((hC.2.block _ (lt_of_some hb)).trans hb)
    exact Chn.upon_pure hC (fun F hF => by (go_simp <;> exact hF)), ?_⟩
  simp only [Act.put, List.setIfInBounds_toArray, List.set_cons_succ, List.set_cons_zero]
  refine ⟨fun w1 hC => by
    have hc := gsend_c hC.1 nn id
    exact Chn.upon_call (C := (OnC g n L P (gsendP n P nn id) w2) 1) hc (fun e2 w2' hh => ⟨hh.1, by
      have h2 := hh.2.gtl
      exact GTL.ahead (g := g) (n := n) (L := L) (Q := P) ⟨hC.1, goes_of_below hC.2⟩ h2⟩) (fun F hF => by (go_simp <;> exact hF)), ?_⟩
  simp only [Act.put, List.setIfInBounds_toArray, List.set_cons_succ, List.set_cons_zero]
  intro w5 hC
  replace hC : GTL g n L (gsendP n P nn id) w2 w5 := hC
  go_wp2
  all_goals exact bodyPost_end (results_none rfl _ _ _) rfl ⟨rfl, GTL.ahead (Q := P) ⟨H2, goes_of_below B2⟩ hC⟩
theorem only_7 (H : GicAt g n P L w) (c id nn : Int) (on : Bool) {wb : Nat} {rv : Value} (hW : w.heap[wb]? = some (.cells #[ptr g 0, rv] 32)) (hlen : ∀ c, c < n → (P.wk c).length + 1 < 1000000) : Calls Try.prog 30 #[ptr wb 0, St5.val ⟨7, c, id, nn, on⟩] w fun e w' => e = .returned (.tuple #[]) ∧ GTL g n L (ackP n P c) w w' := by
  go_enter Try.func30, Try.ntmps30
  go_upto_region 1 with fail
  generalize hw2 : World.alloc _ _ = w2
  have B2 : Below w.heap.size w w2 := by rw [← hw2]; exact below_alloc _ _
  have hb : w2.heap[w.heap.size]? = some (.cells (St5.row ⟨7, c, id, nn, on⟩).toArray 35) := by rw [← hw2]; exact heap_alloc_new _ _
  have hW2 : w2.heap[wb]? = some (.cells #[ptr g 0, rv] 32) := by rw [B2.block _ (lt_of_some hW)]; exact hW
  have H2 := H.grow B2
  clear hw2 hW
  obtain ⟨z0, _, _, _, _⟩ := row_st hb
  go_upto_region 17 with fail
  clear z0
  have hst : (OnC g n L P (ackP n P c) w2) 0 { w2 with drawn := w2.drawn + 1 } := ⟨H2.grow (Rel.below_draws (n := 1) (Below.refl _ _)), Rel.below_draws (n := 1) (Below.refl _ _)⟩
  refine Chn.wp_region_chainL (OnC g n L P (ackP n P c) w2) [6] [1, 1, 1, 0, 1, 0, 1] [ptr wb 0, ptr wb 0, ptr wb 0, ptr g 0, ptr w.heap.size 1, vI c, vI (ackV n P c)] (by kernel_rfl) (by kernel_rfl) (by kernel_rfl) (by kernel_rfl) (by kernel_rfl) hst ?_
  clear hst
  iterate 3 (refine ⟨fun j w1 hj hC => by exact Chn.upon_pure hC (fun F hF => by (go_simp <;> exact hF)), ?_⟩; simp only [Act.put, List.setIfInBounds_toArray, List.set_cons_succ, List.set_cons_zero])
  refine ⟨fun j w1 hj hC => by
    obtain rfl : j = 0 := Nat.le_zero.1 hj
    have z : w1.cell? ⟨wb, 0, none⟩ = some (ptr g 0) := by rw [cell_of_row _ _ _ _ _ _ ((hC.2.block _ (lt_of_some hW2)).trans hW2)]; rfl
    exact Chn.upon_pure hC (fun F hF => by (go_simp <;> exact hF)), ?_⟩
  simp only [Act.put, List.setIfInBounds_toArray, List.set_cons_succ, List.set_cons_zero]
  (refine ⟨fun j w1 hj hC => by exact Chn.upon_pure hC (fun F hF => by (go_simp <;> exact hF)), ?_⟩; simp only [Act.put, List.setIfInBounds_toArray, List.set_cons_succ, List.set_cons_zero])
  refine ⟨fun j w1 hj hC => by
    obtain rfl : j = 0 := Nat.le_zero.1 hj
    obtain ⟨_, z1, z2, z3, z4⟩ := row_st ((hC.2.block _ (lt_of_some hb)).trans hb)
    exact Chn.upon_pure hC (fun F hF => by (go_simp <;> exact hF)), ?_⟩
  simp only [Act.put, List.setIfInBounds_toArray, List.set_cons_succ, List.set_cons_zero]
  refine ⟨fun w1 hC => by
    have hc := gack_c hC.1 c hlen
    exact Chn.upon_call (C := (OnC g n L P (ackP n P c) w2) 1) hc (fun e2 w2' hh => ⟨hh.1, by
      have h2 := hh.2
      exact GTL.ahead (g := g) (n := n) (L := L) (Q := P) ⟨hC.1, goes_of_below hC.2⟩ h2⟩) (fun F hF => by (go_simp <;> exact hF)), ?_⟩
  simp only [Act.put, List.setIfInBounds_toArray, List.set_cons_succ, List.set_cons_zero]
  intro w5 hC
  replace hC : GTL g n L (ackP n P c) w2 w5 := hC
  go_wp2
  all_goals exact bodyPost_end (results_none rfl _ _ _) rfl ⟨rfl, GTL.ahead (Q := P) ⟨H2, goes_of_below B2⟩ hC⟩
theorem only_8 (H : GicAt g n P L w) (c id nn : Int) (on : Bool) {wb : Nat} {rv : Value} (hW : w.heap[wb]? = some (.cells #[ptr g 0, rv] 32)) (hlen : ∀ c, c < n → (P.wk c).length + 1 < 1000000) : Calls Try.prog 30 #[ptr wb 0, St5.val ⟨8, c, id, nn, on⟩] w fun e w' => e = .returned (.tuple #[]) ∧ GTL g n L (geoiP n P c id) w w' := by
  go_enter Try.func30, Try.ntmps30
  go_upto_region 1 with fail
  generalize hw2 : World.alloc _ _ = w2
  have B2 : Below w.heap.size w w2 := by rw [← hw2]; exact below_alloc _ _
  have hb : w2.heap[w.heap.size]? = some (.cells (St5.row ⟨8, c, id, nn, on⟩).toArray 35) := by rw [← hw2]; exact heap_alloc_new _ _
  have hW2 : w2.heap[wb]? = some (.cells #[ptr g 0, rv] 32) := by rw [B2.block _ (lt_of_some hW)]; exact hW
  have H2 := H.grow B2
  clear hw2 hW
  obtain ⟨z0, _, _, _, _⟩ := row_st hb
  go_upto_region 19 with fail
  clear z0
  have hst : (OnC g n L P (geoiP n P c id) w2) 0 { w2 with drawn := w2.drawn + 1 } := ⟨H2.grow (Rel.below_draws (n := 1) (Below.refl _ _)), Rel.below_draws (n := 1) (Below.refl _ _)⟩
  refine Chn.wp_region_chainL (OnC g n L P (geoiP n P c id) w2) [8] [1, 1, 1, 0, 1, 0, 1, 0, 1] [ptr wb 0, ptr wb 0, ptr wb 0, ptr g 0, ptr w.heap.size 1, vI c, ptr w.heap.size 2, vI id, .tuple #[.bool (eoiB n P c id), vI (geoiE n c id)]] (by kernel_rfl) (by kernel_rfl) (by kernel_rfl) (by kernel_rfl) (by kernel_rfl) hst ?_
  clear hst
  iterate 3 (refine ⟨fun j w1 hj hC => by exact Chn.upon_pure hC (fun F hF => by (go_simp <;> exact hF)), ?_⟩; simp only [Act.put, List.setIfInBounds_toArray, List.set_cons_succ, List.set_cons_zero])
  refine ⟨fun j w1 hj hC => by
    obtain rfl : j = 0 := Nat.le_zero.1 hj
    have z : w1.cell? ⟨wb, 0, none⟩ = some (ptr g 0) := by rw [cell_of_row _ _ _ _ _ _ ((hC.2.block _ (lt_of_some hW2)).trans hW2)]; rfl
    exact Chn.upon_pure hC (fun F hF => by (go_simp <;> exact hF)), ?_⟩
  simp only [Act.put, List.setIfInBounds_toArray, List.set_cons_succ, List.set_cons_zero]
  (refine ⟨fun j w1 hj hC => by exact Chn.upon_pure hC (fun F hF => by (go_simp <;> exact hF)), ?_⟩; simp only [Act.put, List.setIfInBounds_toArray, List.set_cons_succ, List.set_cons_zero])
  refine ⟨fun j w1 hj hC => by
    obtain rfl : j = 0 := Nat.le_zero.1 hj
    obtain ⟨_, z1, z2, z3, z4⟩ := row_st ((hC.2.block _ (lt_of_some hb)).trans hb)
    exact Chn.upon_pure hC (fun F hF => by (go_simp <;> exact hF)), ?_⟩
  simp only [Act.put, List.setIfInBounds_toArray, List.set_cons_succ, List.set_cons_zero]
  (refine ⟨fun j w1 hj hC => by exact Chn.upon_pure hC (fun F hF => by (go_simp <;> exact hF)), ?_⟩; simp only [Act.put, List.setIfInBounds_toArray, List.set_cons_succ, List.set_cons_zero])
  refine ⟨fun j w1 hj hC => by
    obtain rfl : j = 0 := Nat.le_zero.1 hj
    obtain ⟨_, z1, z2, z3, z4⟩ := row_st ((hC.2.block _ (lt_of_some hb)).trans hb)
    exact Chn.upon_pure hC (fun F hF => by (go_simp <;> exact hF)), ?_⟩
  simp only [Act.put, List.setIfInBounds_toArray, List.set_cons_succ, List.set_cons_zero]
  refine ⟨fun w1 hC => by
    have hc := geoi_c hC.1 c id
    exact Chn.upon_call (C := (OnC g n L P (geoiP n P c id) w2) 1) hc (fun e2 w2' hh => ⟨hh.1, by
      have h2 := hh.2
      exact GTL.ahead (g := g) (n := n) (L := L) (Q := P) ⟨hC.1, goes_of_below hC.2⟩ h2⟩) (fun F hF => by (go_simp <;> exact hF)), ?_⟩
  simp only [Act.put, List.setIfInBounds_toArray, List.set_cons_succ, List.set_cons_zero]
  intro w5 hC
  replace hC : GTL g n L (geoiP n P c id) w2 w5 := hC
  go_wp2
  all_goals exact bodyPost_end (results_none rfl _ _ _) rfl ⟨rfl, GTL.ahead (Q := P) ⟨H2, goes_of_below B2⟩ hC⟩
theorem only_x (H : GicAt g n P L w) (o : St5) {wb : Nat} (hk : ¬ (0 ≤ o.k ∧ o.k ≤ 8)) : Calls Try.prog 30 #[ptr wb 0, o.val] w fun e w' => e = .returned (.tuple #[]) ∧ GTL g n L P w w' := by
  obtain ⟨k, c, id, nn, on⟩ := o
  dsimp only at hk
  have n0 : (k == 0) = false := by simp; omega
  have n1 : (k == 1) = false := by simp; omega
  have n2 : (k == 2) = false := by simp; omega
  have n3 : (k == 3) = false := by simp; omega
  have n4 : (k == 4) = false := by simp; omega
  have n5 : (k == 5) = false := by simp; omega
  have n6 : (k == 6) = false := by simp; omega
  have n7 : (k == 7) = false := by simp; omega
  have n8 : (k == 8) = false := by simp; omega
  go_enter Try.func30, Try.ntmps30
  go_upto_region 1 with fail
  generalize hw2 : World.alloc _ _ = w2
  have B2 : Below w.heap.size w w2 := by rw [← hw2]; exact below_alloc _ _
  have hb : w2.heap[w.heap.size]? = some (.cells (St5.row ⟨k, c, id, nn, on⟩).toArray 35) := by rw [← hw2]; exact heap_alloc_new _ _
  clear hw2
  obtain ⟨z0, _, _, _, _⟩ := row_st hb
  go_wp2
  exact bodyPost_end (results_none rfl _ _ _) rfl ⟨rfl, ((gt_refl H).grow B2).gtl⟩
theorem only_c (H : GicAt g n P L w) (o : St5) {wb : Nat} {rv : Value} (hW : w.heap[wb]? = some (.cells #[ptr g 0, rv] 32)) (hlen : ∀ c, c < n → (P.wk c).length + 1 < 1000000) : Calls Try.prog 30 #[ptr wb 0, o.val] w fun e w' => e = .returned (.tuple #[]) ∧ GTL g n L (onlyP n P o) w w' := by
  by_cases hk : 0 ≤ o.k ∧ o.k ≤ 8
  · obtain ⟨k, c, id, nn, on⟩ := o
    dsimp only at hk
    have : k = 0 ∨ k = 1 ∨ k = 2 ∨ k = 3 ∨ k = 4 ∨ k = 5 ∨ k = 6 ∨ k = 7 ∨ k = 8 := by omega
    rcases this with rfl | rfl | rfl | rfl | rfl | rfl | rfl | rfl | rfl
    · exact only_0 H c id nn on hW hlen
    · exact only_1 H c id nn on hW hlen
    · exact only_2 H c id nn on hW hlen
    · exact only_3 H c id nn on hW hlen
    · exact only_4 H c id nn on hW hlen
    · exact only_5 H c id nn on hW hlen
    · exact only_6 H c id nn on hW hlen
    · exact only_7 H c id nn on hW hlen
    · exact only_8 H c id nn on hW hlen
  · have e : onlyP n P o = P := by
      unfold onlyP
      rw [if_neg (by omega), if_neg (by omega), if_neg (by omega), if_neg (by omega), if_neg (by omega), if_neg (by omega), if_neg (by omega), if_neg (by omega), if_neg (by omega)]
    rw [e]
    exact only_x H o hk
end
end Go.Proofs.Ytpmlehfnlodmbaa
