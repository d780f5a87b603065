/- What each Op wants, as a step's methods tell it: contracts. -/
import Derived.Test.YtbjcdpmhmebjnaaGreatD06
import Derived.Test.YtbjcdpmhmebjnaaGreatRows
import Derived.WalkKit
namespace Go.Proofs.YtbjcdpmhmebjnaaGreat
open Go.RowKit
set_option linter.unusedVariables false

theorem start1 {w w1 : World} {Y : Array Value} {g : Nat} {o : Obj} (hw : w.alloc (.cells Y 30) = w1) (hy : Y.size = 10) (h : w.heap[g]? = some o) : ∃ Z : Array Value, Z.size = 10 ∧ Has w [(w.heap.size, Z, 30)] w1 ∧ w1.heap[g]? = some o :=
  ⟨Y, hy, hw ▸ (has_none w).new 30 Y, hw ▸ keep_row h (r_below_alloc w (.cells Y 30))⟩
theorem keep_cell {w w' : World} {z j : Nat} {v : Value} (h : w.cell? ⟨z, j, none⟩ = some v) (hb : Below w.heap.size w w') : w'.cell? ⟨z, j, none⟩ = some v := by
  have e := hb.block z (block_lt_of_cell h)
  unfold World.cell? at h ⊢
  rw [e]
  exact h

set_option maxHeartbeats 400000 in
theorem line_c (g : Nat) (s : Stp) (w : World) (h : w.heap[g]? = some (.cells s.cells 58)) : Calls Tryz.prog 185 #[.pointer (some ⟨g, 0, none⟩)] w fun e w' => e = .returned (vU (lineV s.c s.i)) ∧ Below w.heap.size w w' := by
  go_enter Tryz.func185, Tryz.ntmps185
  have c2 := at_i h 2 (.int .i64 s.i.rd) (by decide) rfl
  go_wp2_with (go_at_call 184; refine (sx_c g s _ _ h).mono ?_; rintro e w2 ⟨rfl, hB⟩; dsimp only)
  go_ret
  exact ⟨rfl, hB⟩
set_option maxRecDepth 4000 in
set_option maxHeartbeats 2000000 in
theorem unknown_c (g : Nat) (s : Stp) (w : World) (h : w.heap[g]? = some (.cells s.cells 58)) : Calls Tryz.prog 43 #[.pointer (some ⟨g, 0, none⟩)] w fun e w' => e = .returned (unkV).val ∧ Below w.heap.size w w' := by
  go_enter Tryz.func43, Tryz.ntmps43
  go_upto_region 1 with fail
  generalize hw1 : w.alloc _ = w1
  obtain ⟨Z, hZ, H, hs⟩ := start1 hw1 rfl h
  clear hw1
  generalize hb : w.heap.size = b at H ⊢
  go_wp2_with (first | ((with_reducible refine wpList_built_w rfl _ rfl unkV (by kernel_rfl) ?_); simp only [Act.put, List.setIfInBounds_toArray, List.set_cons_succ, List.set_cons_zero]) | ((with_reducible refine wpList_store_w rfl _ _ rfl H no_other hZ _ rfl rfl ?_); intro w9 H; simp only [Act.put]))
  exact bodyPost_ret (back_w rfl _ _ _ _ _ _ rfl (H.get List.mem_cons_self)) rfl ⟨rfl, by first | exact H.below | (rw [← hb]; exact H.below)⟩
set_option maxRecDepth 4000 in
set_option maxHeartbeats 2000000 in
theorem plainLoad_c (g : Nat) (s : Stp) (w : World) (h : w.heap[g]? = some (.cells s.cells 58)) (ha : s.i.op = 19 ∨ s.i.op = 20 → s.i.amount = 0 ∨ s.i.amount = 3) (hel : 0 ≤ s.c.el ∧ s.c.el ≤ 1) : Calls Tryz.prog 102 #[.pointer (some ⟨g, 0, none⟩)] w fun e w' => e = .returned (accV s.c s.i { nilW with kind := 1 }).val ∧ Below w.heap.size w w' := by
  go_enter Tryz.func102, Tryz.ntmps102
  go_upto_region 1 with fail
  generalize hw1 : w.alloc _ = w1
  obtain ⟨Z, hZ, H, hs⟩ := start1 hw1 rfl h
  clear hw1
  generalize hb : w.heap.size = b at H ⊢
  go_wp2_with (first | ((with_reducible refine wpList_built_w rfl _ rfl { nilW with kind := 1 } (by kernel_rfl) ?_); simp only [Act.put, List.setIfInBounds_toArray, List.set_cons_succ, List.set_cons_zero]) | (go_at_call 183; refine (access_c g s { nilW with kind := 1 } _ hs ha hel).mono ?_; rintro e w3 ⟨rfl, hB⟩; dsimp only; replace H := H.grow hB; replace hs := keep_row hs hB) | ((with_reducible refine wpList_store_w rfl _ _ rfl H no_other hZ _ rfl rfl ?_); intro w9 H; simp only [Act.put]))
  exact bodyPost_ret (back_w rfl _ _ _ _ _ _ rfl (H.get List.mem_cons_self)) rfl ⟨rfl, by first | exact H.below | (rw [← hb]; exact H.below)⟩
set_option maxRecDepth 4000 in
set_option maxHeartbeats 2000000 in
theorem acquireLoad_c (g : Nat) (s : Stp) (w : World) (h : w.heap[g]? = some (.cells s.cells 58)) (ha : s.i.op = 19 ∨ s.i.op = 20 → s.i.amount = 0 ∨ s.i.amount = 3) (hel : 0 ≤ s.c.el ∧ s.c.el ≤ 1) (hsub : s.i.sub = 0 ∨ s.i.sub = 1) : Calls Tryz.prog 103 #[.pointer (some ⟨g, 0, none⟩)] w fun e w' => e = .returned (accV s.c s.i { nilW with kind := 1, acq := 2 - s.i.sub }).val ∧ Below w.heap.size w w' := by
  go_enter Tryz.func103, Tryz.ntmps103
  go_upto_region 1 with fail
  generalize hw1 : w.alloc _ = w1
  obtain ⟨Z, hZ, H, hs⟩ := start1 hw1 rfl h
  clear hw1
  generalize hb : w.heap.size = b at H ⊢
  go_upto_region 2 with fail
  have hA := r_below_alloc w1 (.cells #[.int .i64 2, .int .i64 1] 139)
  have d0 : (w1.alloc (.cells #[.int .i64 2, .int .i64 1] 139)).cell? ⟨w1.heap.size, 0, none⟩ = some (.int .i64 2) := by rw [World.cell?_alloc_new]; rfl
  have d1 : (w1.alloc (.cells #[.int .i64 2, .int .i64 1] 139)).cell? ⟨w1.heap.size, 1, none⟩ = some (.int .i64 1) := by rw [World.cell?_alloc_new]; rfl
  replace H := H.grow hA
  replace hs := keep_row hs hA
  generalize w1.alloc _ = w2 at H hs d0 d1 ⊢
  have c1 := at_i hs 1 (.int .i64 s.i.sub) (by decide) rfl
  rcases hsub with e | e
  · rw [e] at c1
    go_wp2_with (first | ((with_reducible refine wpList_built_w rfl _ rfl { nilW with kind := 1, acq := 2 } (by kernel_rfl) ?_); simp only [Act.put, List.setIfInBounds_toArray, List.set_cons_succ, List.set_cons_zero]) | (go_at_call 183; refine (access_c g s { nilW with kind := 1, acq := 2 } _ hs ha hel).mono ?_; rintro e w3 ⟨rfl, hB⟩; dsimp only; replace H := H.grow hB; replace hs := keep_row hs hB) | ((with_reducible refine wpList_store_w rfl _ _ rfl H no_other hZ _ rfl rfl ?_); intro w9 H; simp only [Act.put]))
    exact bodyPost_ret (back_w rfl _ _ _ _ _ _ rfl (H.get List.mem_cons_self)) rfl ⟨by rw [e]; rfl, by first | exact H.below | (rw [← hb]; exact H.below)⟩
  · rw [e] at c1
    go_wp2_with (first | ((with_reducible refine wpList_built_w rfl _ rfl { nilW with kind := 1, acq := 1 } (by kernel_rfl) ?_); simp only [Act.put, List.setIfInBounds_toArray, List.set_cons_succ, List.set_cons_zero]) | (go_at_call 183; refine (access_c g s { nilW with kind := 1, acq := 1 } _ hs ha hel).mono ?_; rintro e w3 ⟨rfl, hB⟩; dsimp only; replace H := H.grow hB; replace hs := keep_row hs hB) | ((with_reducible refine wpList_store_w rfl _ _ rfl H no_other hZ _ rfl rfl ?_); intro w9 H; simp only [Act.put]))
    exact bodyPost_ret (back_w rfl _ _ _ _ _ _ rfl (H.get List.mem_cons_self)) rfl ⟨by rw [e]; rfl, by first | exact H.below | (rw [← hb]; exact H.below)⟩
set_option maxRecDepth 4000 in
set_option maxHeartbeats 2000000 in
theorem exclusiveLoad_c (g : Nat) (s : Stp) (w : World) (h : w.heap[g]? = some (.cells s.cells 58)) (ha : s.i.op = 19 ∨ s.i.op = 20 → s.i.amount = 0 ∨ s.i.amount = 3) (hel : 0 ≤ s.c.el ∧ s.c.el ≤ 1) (hsub : s.i.sub = 0 ∨ s.i.sub = 1) : Calls Tryz.prog 104 #[.pointer (some ⟨g, 0, none⟩)] w fun e w' => e = .returned (accV s.c s.i { nilW with kind := 3, acq := 2 * s.i.sub }).val ∧ Below w.heap.size w w' := by
  go_enter Tryz.func104, Tryz.ntmps104
  go_upto_region 1 with fail
  generalize hw1 : w.alloc _ = w1
  obtain ⟨Z, hZ, H, hs⟩ := start1 hw1 rfl h
  clear hw1
  generalize hb : w.heap.size = b at H ⊢
  go_upto_region 2 with fail
  have hA := r_below_alloc w1 (.cells #[.int .i64 0, .int .i64 2] 139)
  have d0 : (w1.alloc (.cells #[.int .i64 0, .int .i64 2] 139)).cell? ⟨w1.heap.size, 0, none⟩ = some (.int .i64 0) := by rw [World.cell?_alloc_new]; rfl
  have d1 : (w1.alloc (.cells #[.int .i64 0, .int .i64 2] 139)).cell? ⟨w1.heap.size, 1, none⟩ = some (.int .i64 2) := by rw [World.cell?_alloc_new]; rfl
  replace H := H.grow hA
  replace hs := keep_row hs hA
  generalize w1.alloc _ = w2 at H hs d0 d1 ⊢
  have c1 := at_i hs 1 (.int .i64 s.i.sub) (by decide) rfl
  rcases hsub with e | e
  · rw [e] at c1
    go_wp2_with (first | ((with_reducible refine wpList_built_w rfl _ rfl { nilW with kind := 3, acq := 0 } (by kernel_rfl) ?_); simp only [Act.put, List.setIfInBounds_toArray, List.set_cons_succ, List.set_cons_zero]) | (go_at_call 183; refine (access_c g s { nilW with kind := 3, acq := 0 } _ hs ha hel).mono ?_; rintro e w3 ⟨rfl, hB⟩; dsimp only; replace H := H.grow hB; replace hs := keep_row hs hB) | ((with_reducible refine wpList_store_w rfl _ _ rfl H no_other hZ _ rfl rfl ?_); intro w9 H; simp only [Act.put]))
    exact bodyPost_ret (back_w rfl _ _ _ _ _ _ rfl (H.get List.mem_cons_self)) rfl ⟨by rw [e]; rfl, by first | exact H.below | (rw [← hb]; exact H.below)⟩
  · rw [e] at c1
    go_wp2_with (first | ((with_reducible refine wpList_built_w rfl _ rfl { nilW with kind := 3, acq := 2 } (by kernel_rfl) ?_); simp only [Act.put, List.setIfInBounds_toArray, List.set_cons_succ, List.set_cons_zero]) | (go_at_call 183; refine (access_c g s { nilW with kind := 3, acq := 2 } _ hs ha hel).mono ?_; rintro e w3 ⟨rfl, hB⟩; dsimp only; replace H := H.grow hB; replace hs := keep_row hs hB) | ((with_reducible refine wpList_store_w rfl _ _ rfl H no_other hZ _ rfl rfl ?_); intro w9 H; simp only [Act.put]))
    exact bodyPost_ret (back_w rfl _ _ _ _ _ _ rfl (H.get List.mem_cons_self)) rfl ⟨by rw [e]; rfl, by first | exact H.below | (rw [← hb]; exact H.below)⟩
set_option maxRecDepth 4000 in
set_option maxHeartbeats 2000000 in
theorem plainStore_c (g : Nat) (s : Stp) (w : World) (h : w.heap[g]? = some (.cells s.cells 58)) (ha : s.i.op = 19 ∨ s.i.op = 20 → s.i.amount = 0 ∨ s.i.amount = 3) (hel : 0 ≤ s.c.el ∧ s.c.el ≤ 1) : Calls Tryz.prog 105 #[.pointer (some ⟨g, 0, none⟩)] w fun e w' => e = .returned (accV s.c s.i { nilW with kind := 2, value := xV s.c s.i.rd }).val ∧ Below w.heap.size w w' := by
  go_enter Tryz.func105, Tryz.ntmps105
  go_upto_region 1 with fail
  generalize hw1 : w.alloc _ = w1
  obtain ⟨Z, hZ, H, hs⟩ := start1 hw1 rfl h
  clear hw1
  generalize hb : w.heap.size = b at H ⊢
  have c2 := at_i hs 2 (.int .i64 s.i.rd) (by decide) rfl
  go_wp2_with (first | (go_at_call 184; refine (sx_c g s _ _ hs).mono ?_; rintro e w2 ⟨rfl, hB⟩; dsimp only; replace H := H.grow hB; replace hs := keep_row hs hB) | ((with_reducible refine wpList_built_w rfl _ rfl { nilW with kind := 2, value := xV s.c s.i.rd } (by kernel_rfl) ?_); simp only [Act.put, List.setIfInBounds_toArray, List.set_cons_succ, List.set_cons_zero]) | (go_at_call 183; refine (access_c g s { nilW with kind := 2, value := xV s.c s.i.rd } _ hs ha hel).mono ?_; rintro e w3 ⟨rfl, hB⟩; dsimp only; replace H := H.grow hB; replace hs := keep_row hs hB) | ((with_reducible refine wpList_store_w rfl _ _ rfl H no_other hZ _ rfl rfl ?_); intro w9 H; simp only [Act.put]))
  exact bodyPost_ret (back_w rfl _ _ _ _ _ _ rfl (H.get List.mem_cons_self)) rfl ⟨rfl, by first | exact H.below | (rw [← hb]; exact H.below)⟩
set_option maxRecDepth 4000 in
set_option maxHeartbeats 2000000 in
theorem releaseStore_c (g : Nat) (s : Stp) (w : World) (h : w.heap[g]? = some (.cells s.cells 58)) (ha : s.i.op = 19 ∨ s.i.op = 20 → s.i.amount = 0 ∨ s.i.amount = 3) (hel : 0 ≤ s.c.el ∧ s.c.el ≤ 1) : Calls Tryz.prog 106 #[.pointer (some ⟨g, 0, none⟩)] w fun e w' => e = .returned (accV s.c s.i { nilW with kind := 2, value := xV s.c s.i.rd, rel := true }).val ∧ Below w.heap.size w w' := by
  go_enter Tryz.func106, Tryz.ntmps106
  go_upto_region 1 with fail
  generalize hw1 : w.alloc _ = w1
  obtain ⟨Z, hZ, H, hs⟩ := start1 hw1 rfl h
  clear hw1
  generalize hb : w.heap.size = b at H ⊢
  have c2 := at_i hs 2 (.int .i64 s.i.rd) (by decide) rfl
  go_wp2_with (first | (go_at_call 184; refine (sx_c g s _ _ hs).mono ?_; rintro e w2 ⟨rfl, hB⟩; dsimp only; replace H := H.grow hB; replace hs := keep_row hs hB) | ((with_reducible refine wpList_built_w rfl _ rfl { nilW with kind := 2, value := xV s.c s.i.rd, rel := true } (by kernel_rfl) ?_); simp only [Act.put, List.setIfInBounds_toArray, List.set_cons_succ, List.set_cons_zero]) | (go_at_call 183; refine (access_c g s { nilW with kind := 2, value := xV s.c s.i.rd, rel := true } _ hs ha hel).mono ?_; rintro e w3 ⟨rfl, hB⟩; dsimp only; replace H := H.grow hB; replace hs := keep_row hs hB) | ((with_reducible refine wpList_store_w rfl _ _ rfl H no_other hZ _ rfl rfl ?_); intro w9 H; simp only [Act.put]))
  exact bodyPost_ret (back_w rfl _ _ _ _ _ _ rfl (H.get List.mem_cons_self)) rfl ⟨rfl, by first | exact H.below | (rw [← hb]; exact H.below)⟩
set_option maxRecDepth 4000 in
set_option maxHeartbeats 2000000 in
theorem exclusiveStore_c (g : Nat) (s : Stp) (w : World) (h : w.heap[g]? = some (.cells s.cells 58)) (ha : s.i.op = 19 ∨ s.i.op = 20 → s.i.amount = 0 ∨ s.i.amount = 3) (hel : 0 ≤ s.c.el ∧ s.c.el ≤ 1) : Calls Tryz.prog 107 #[.pointer (some ⟨g, 0, none⟩)] w fun e w' => e = .returned (accV s.c s.i { nilW with kind := 4, value := xV s.c s.i.rd, rel := s.i.sub == 1 }).val ∧ Below w.heap.size w w' := by
  go_enter Tryz.func107, Tryz.ntmps107
  go_upto_region 1 with fail
  generalize hw1 : w.alloc _ = w1
  obtain ⟨Z, hZ, H, hs⟩ := start1 hw1 rfl h
  clear hw1
  generalize hb : w.heap.size = b at H ⊢
  refine Rel.wp_region_tail 16 Rel.Grows (fun x => Has w [(b, Z, 30)] x ∧ x.heap[g]? = some (.cells s.cells 58)) [.inl (.pointer (some ⟨g, 0, none⟩)), .inl (.pointer (some ⟨g, 0, none⟩)), .inl (.pointer (some ⟨g, 0, none⟩)), .inl (.pointer (some ⟨g, 0, none⟩)), .inl (.pointer (some ⟨g, 0, none⟩)), .inl (.pointer (some ⟨g, 2, none⟩)), .inl (.int .i64 s.i.rd), .inl (.int .u64 (xV s.c s.i.rd)), .inl (.pointer (some ⟨g, 0, none⟩)), .inl (.pointer (some ⟨g, 0, none⟩)), .inl (.pointer (some ⟨g, 0, none⟩)), .inl (.pointer (some ⟨g, 1, none⟩)), .inl (.int .i64 s.i.sub), .inl (.bool (s.i.sub == 1)), .inl (Wnt.val { nilW with kind := 4, value := xV s.c s.i.rd, rel := s.i.sub == 1 }), .inl (accV s.c s.i { nilW with kind := 4, value := xV s.c s.i.rd, rel := s.i.sub == 1 }).val] (by kernel_rfl) (by kernel_rfl) (fun _ _ hh hb => ⟨hh.1.grow hb, keep_row hh.2 hb⟩) (⟨H.grow ⟨rfl, rfl, rfl, Nat.le_refl _, fun _ _ => rfl⟩, keep_row hs ⟨rfl, rfl, rfl, Nat.le_refl _, fun _ _ => rfl⟩⟩) (by simp [Rel.upK]) ?_
  refine ⟨fun w1 hC _ => by go_simp; first | exact Below.refl _ _ | exact ⟨Below.refl _ _, rfl⟩, ?_⟩
  simp only [Act.put, List.setIfInBounds_toArray, List.set_cons_succ, List.set_cons_zero]
  refine ⟨fun w1 hC _ => by go_simp; first | exact Below.refl _ _ | exact ⟨Below.refl _ _, rfl⟩, ?_⟩
  simp only [Act.put, List.setIfInBounds_toArray, List.set_cons_succ, List.set_cons_zero]
  refine ⟨fun w1 hC _ => by go_simp; first | exact Below.refl _ _ | exact ⟨Below.refl _ _, rfl⟩, ?_⟩
  simp only [Act.put, List.setIfInBounds_toArray, List.set_cons_succ, List.set_cons_zero]
  refine ⟨fun w1 hC _ => by go_simp; first | exact Below.refl _ _ | exact ⟨Below.refl _ _, rfl⟩, ?_⟩
  simp only [Act.put, List.setIfInBounds_toArray, List.set_cons_succ, List.set_cons_zero]
  refine ⟨fun w1 hC _ => by go_simp; first | exact Below.refl _ _ | exact ⟨Below.refl _ _, rfl⟩, ?_⟩
  simp only [Act.put, List.setIfInBounds_toArray, List.set_cons_succ, List.set_cons_zero]
  refine ⟨fun w1 hC _ => by go_simp; first | exact Below.refl _ _ | exact ⟨Below.refl _ _, rfl⟩, ?_⟩
  simp only [Act.put, List.setIfInBounds_toArray, List.set_cons_succ, List.set_cons_zero]
  refine ⟨fun w1 hC _ => by have hq := at_i hC.2 2 (.int .i64 s.i.rd) (by decide) rfl; go_simp; first | exact Below.refl _ _ | exact ⟨Below.refl _ _, rfl⟩, ?_⟩
  simp only [Act.put, List.setIfInBounds_toArray, List.set_cons_succ, List.set_cons_zero]
  refine ⟨fun w1 hC _ => by go_simp; refine (sx_c g s _ w1 hC.2).mono ?_; rintro e w2 ⟨rfl, hb⟩; exact ⟨rfl, hb⟩, ?_⟩
  simp only [Act.put, List.setIfInBounds_toArray, List.set_cons_succ, List.set_cons_zero]
  refine ⟨fun w1 hC _ => by go_simp; first | exact Below.refl _ _ | exact ⟨Below.refl _ _, rfl⟩, ?_⟩
  simp only [Act.put, List.setIfInBounds_toArray, List.set_cons_succ, List.set_cons_zero]
  refine ⟨fun w1 hC _ => by go_simp; first | exact Below.refl _ _ | exact ⟨Below.refl _ _, rfl⟩, ?_⟩
  simp only [Act.put, List.setIfInBounds_toArray, List.set_cons_succ, List.set_cons_zero]
  refine ⟨fun w1 hC _ => by go_simp; first | exact Below.refl _ _ | exact ⟨Below.refl _ _, rfl⟩, ?_⟩
  simp only [Act.put, List.setIfInBounds_toArray, List.set_cons_succ, List.set_cons_zero]
  refine ⟨fun w1 hC _ => by go_simp; first | exact Below.refl _ _ | exact ⟨Below.refl _ _, rfl⟩, ?_⟩
  simp only [Act.put, List.setIfInBounds_toArray, List.set_cons_succ, List.set_cons_zero]
  refine ⟨fun w1 hC _ => by have hq := at_i hC.2 1 (.int .i64 s.i.sub) (by decide) rfl; go_simp; first | exact Below.refl _ _ | exact ⟨Below.refl _ _, rfl⟩, ?_⟩
  simp only [Act.put, List.setIfInBounds_toArray, List.set_cons_succ, List.set_cons_zero]
  refine ⟨fun w1 hC _ => by go_simp; first | exact Below.refl _ _ | exact ⟨Below.refl _ _, rfl⟩, ?_⟩
  simp only [Act.put, List.setIfInBounds_toArray, List.set_cons_succ, List.set_cons_zero]
  refine ⟨fun w1 hC _ => by exact rel_built_w _ rfl { nilW with kind := 4, value := xV s.c s.i.rd, rel := s.i.sub == 1 } (by kernel_rfl), ?_⟩
  simp only [Act.put, List.setIfInBounds_toArray, List.set_cons_succ, List.set_cons_zero]
  refine ⟨fun w1 hC _ => by go_simp; refine (access_c g s { nilW with kind := 4, value := xV s.c s.i.rd, rel := s.i.sub == 1 } w1 hC.2 ha hel).mono ?_; rintro e w2 ⟨rfl, hb⟩; exact ⟨rfl, hb⟩, ?_⟩
  simp only [Act.put, List.setIfInBounds_toArray, List.set_cons_succ, List.set_cons_zero]
  intro w4 hC _
  simp only [List.drop_succ_cons, List.drop_zero]
  replace H := hC.1
  go_wp2_with (((with_reducible refine wpList_store_w rfl _ _ rfl H no_other hZ _ rfl rfl ?_); intro w9 H; simp only [Act.put]))
  exact bodyPost_ret (back_w rfl _ _ _ _ _ _ rfl (H.get List.mem_cons_self)) rfl ⟨rfl, by first | exact H.below | (rw [← hb]; exact H.below)⟩
set_option maxRecDepth 4000 in
set_option maxHeartbeats 2000000 in
theorem clear_c (g : Nat) (s : Stp) (w : World) (h : w.heap[g]? = some (.cells s.cells 58)) : Calls Tryz.prog 108 #[.pointer (some ⟨g, 0, none⟩)] w fun e w' => e = .returned ({ nilW with kind := 5 }).val ∧ Below w.heap.size w w' := by
  go_enter Tryz.func108, Tryz.ntmps108
  go_upto_region 1 with fail
  generalize hw1 : w.alloc _ = w1
  obtain ⟨Z, hZ, H, hs⟩ := start1 hw1 rfl h
  clear hw1
  generalize hb : w.heap.size = b at H ⊢
  go_wp2_with (first | ((with_reducible refine wpList_built_w rfl _ rfl { nilW with kind := 5 } (by kernel_rfl) ?_); simp only [Act.put, List.setIfInBounds_toArray, List.set_cons_succ, List.set_cons_zero]) | ((with_reducible refine wpList_store_w rfl _ _ rfl H no_other hZ _ rfl rfl ?_); intro w9 H; simp only [Act.put]))
  exact bodyPost_ret (back_w rfl _ _ _ _ _ _ rfl (H.get List.mem_cons_self)) rfl ⟨rfl, by first | exact H.below | (rw [← hb]; exact H.below)⟩
set_option maxRecDepth 4000 in
set_option maxHeartbeats 2000000 in
theorem refetch_c (g : Nat) (s : Stp) (w : World) (h : w.heap[g]? = some (.cells s.cells 58)) : Calls Tryz.prog 110 #[.pointer (some ⟨g, 0, none⟩)] w fun e w' => e = .returned ({ nilW with kind := 7 }).val ∧ Below w.heap.size w w' := by
  go_enter Tryz.func110, Tryz.ntmps110
  go_upto_region 1 with fail
  generalize hw1 : w.alloc _ = w1
  obtain ⟨Z, hZ, H, hs⟩ := start1 hw1 rfl h
  clear hw1
  generalize hb : w.heap.size = b at H ⊢
  go_wp2_with (first | ((with_reducible refine wpList_built_w rfl _ rfl { nilW with kind := 7 } (by kernel_rfl) ?_); simp only [Act.put, List.setIfInBounds_toArray, List.set_cons_succ, List.set_cons_zero]) | ((with_reducible refine wpList_store_w rfl _ _ rfl H no_other hZ _ rfl rfl ?_); intro w9 H; simp only [Act.put]))
  exact bodyPost_ret (back_w rfl _ _ _ _ _ _ rfl (H.get List.mem_cons_self)) rfl ⟨rfl, by first | exact H.below | (rw [← hb]; exact H.below)⟩
set_option maxRecDepth 4000 in
set_option maxHeartbeats 2000000 in
theorem dropAll_c (g : Nat) (s : Stp) (w : World) (h : w.heap[g]? = some (.cells s.cells 58)) : Calls Tryz.prog 112 #[.pointer (some ⟨g, 0, none⟩)] w fun e w' => e = .returned ({ nilW with kind := 9 }).val ∧ Below w.heap.size w w' := by
  go_enter Tryz.func112, Tryz.ntmps112
  go_upto_region 1 with fail
  generalize hw1 : w.alloc _ = w1
  obtain ⟨Z, hZ, H, hs⟩ := start1 hw1 rfl h
  clear hw1
  generalize hb : w.heap.size = b at H ⊢
  go_wp2_with (first | ((with_reducible refine wpList_built_w rfl _ rfl { nilW with kind := 9 } (by kernel_rfl) ?_); simp only [Act.put, List.setIfInBounds_toArray, List.set_cons_succ, List.set_cons_zero]) | ((with_reducible refine wpList_store_w rfl _ _ rfl H no_other hZ _ rfl rfl ?_); intro w9 H; simp only [Act.put]))
  exact bodyPost_ret (back_w rfl _ _ _ _ _ _ rfl (H.get List.mem_cons_self)) rfl ⟨rfl, by first | exact H.below | (rw [← hb]; exact H.below)⟩
set_option maxRecDepth 4000 in
set_option maxHeartbeats 2000000 in
theorem fence1_c (g : Nat) (s : Stp) (w : World) (h : w.heap[g]? = some (.cells s.cells 58)) (hi : s.i.imm = 1) : Calls Tryz.prog 109 #[.pointer (some ⟨g, 0, none⟩)] w fun e w' => e = .returned ({ nilW with kind := 6, fence := 13, dsb := s.i.sub == 1 }).val ∧ Below w.heap.size w w' := by
  go_enter Tryz.func109, Tryz.ntmps109
  go_upto_region 1 with fail
  generalize hw1 : w.alloc _ = w1
  obtain ⟨Z, hZ, H, hs⟩ := start1 hw1 rfl h
  clear hw1
  generalize hb : w.heap.size = b at H ⊢
  go_upto_region 2 with fail
  have hA := r_below_alloc w1 (.cells #[.int .i64 0, .int .i64 13, .int .i64 10, .int .i64 15] 141)
  have d0 : (w1.alloc (.cells #[.int .i64 0, .int .i64 13, .int .i64 10, .int .i64 15] 141)).cell? ⟨w1.heap.size, 1, none⟩ = some (.int .i64 13) := by rw [World.cell?_alloc_new]; rfl
  have hz := (Array.getElem?_eq_some_iff.1 (heap_alloc_new w1 (.cells #[.int .i64 0, .int .i64 13, .int .i64 10, .int .i64 15] 141))).1
  replace H := H.grow hA
  replace hs := keep_row hs hA
  generalize w1.alloc _ = w2 at H hs d0 hz ⊢
  generalize w1.heap.size = z at d0 hz ⊢
  refine Rel.wp_region_tail 14 Rel.Grows (fun x => Has w [(b, Z, 30)] x ∧ x.heap[g]? = some (.cells s.cells 58) ∧ x.cell? ⟨z, 1, none⟩ = some (.int .i64 13)) [.inl (.pointer (some ⟨g, 0, none⟩)), .inl (.pointer (some ⟨g, 0, none⟩)), .inl (.pointer (some ⟨g, 0, none⟩)), .inl (.pointer (some ⟨g, 6, none⟩)), .inl (.int .i64 1), .inl (.pointer (some ⟨z, 1, none⟩)), .inl (.int .i64 13), .inl (.pointer (some ⟨g, 0, none⟩)), .inl (.pointer (some ⟨g, 0, none⟩)), .inl (.pointer (some ⟨g, 0, none⟩)), .inl (.pointer (some ⟨g, 1, none⟩)), .inl (.int .i64 s.i.sub), .inl (.bool (s.i.sub == 1)), .inl (Wnt.val { nilW with kind := 6, fence := 13, dsb := s.i.sub == 1 })] (by kernel_rfl) (by kernel_rfl) (fun _ _ hh hb => ⟨hh.1.grow hb, keep_row hh.2.1 hb, keep_cell hh.2.2 hb⟩) (⟨H.grow ⟨rfl, rfl, rfl, Nat.le_refl _, fun _ _ => rfl⟩, keep_row hs ⟨rfl, rfl, rfl, Nat.le_refl _, fun _ _ => rfl⟩, d0⟩) (by simp [Rel.upK]) ?_
  refine ⟨fun w1 hC _ => by go_simp; first | exact Below.refl _ _ | exact ⟨Below.refl _ _, rfl⟩, ?_⟩
  simp only [Act.put, List.setIfInBounds_toArray, List.set_cons_succ, List.set_cons_zero]
  refine ⟨fun w1 hC _ => by go_simp; first | exact Below.refl _ _ | exact ⟨Below.refl _ _, rfl⟩, ?_⟩
  simp only [Act.put, List.setIfInBounds_toArray, List.set_cons_succ, List.set_cons_zero]
  refine ⟨fun w1 hC _ => by go_simp; first | exact Below.refl _ _ | exact ⟨Below.refl _ _, rfl⟩, ?_⟩
  simp only [Act.put, List.setIfInBounds_toArray, List.set_cons_succ, List.set_cons_zero]
  refine ⟨fun w1 hC _ => by go_simp; first | exact Below.refl _ _ | exact ⟨Below.refl _ _, rfl⟩, ?_⟩
  simp only [Act.put, List.setIfInBounds_toArray, List.set_cons_succ, List.set_cons_zero]
  refine ⟨fun w1 hC _ => by have hq := (by have hq := at_i hC.2.1 6 (.int .i64 s.i.imm) (by decide) rfl; rw [hi] at hq; exact hq : w1.cell? ⟨g, 6, none⟩ = some (.int .i64 1)); go_simp; first | exact Below.refl _ _ | exact ⟨Below.refl _ _, rfl⟩, ?_⟩
  simp only [Act.put, List.setIfInBounds_toArray, List.set_cons_succ, List.set_cons_zero]
  refine ⟨fun w1 hC _ => by go_simp; first | exact Below.refl _ _ | exact ⟨Below.refl _ _, rfl⟩, ?_⟩
  simp only [Act.put, List.setIfInBounds_toArray, List.set_cons_succ, List.set_cons_zero]
  refine ⟨fun w1 hC _ => by have hq := hC.2.2; go_simp; first | exact Below.refl _ _ | exact ⟨Below.refl _ _, rfl⟩, ?_⟩
  simp only [Act.put, List.setIfInBounds_toArray, List.set_cons_succ, List.set_cons_zero]
  refine ⟨fun w1 hC _ => by go_simp; first | exact Below.refl _ _ | exact ⟨Below.refl _ _, rfl⟩, ?_⟩
  simp only [Act.put, List.setIfInBounds_toArray, List.set_cons_succ, List.set_cons_zero]
  refine ⟨fun w1 hC _ => by go_simp; first | exact Below.refl _ _ | exact ⟨Below.refl _ _, rfl⟩, ?_⟩
  simp only [Act.put, List.setIfInBounds_toArray, List.set_cons_succ, List.set_cons_zero]
  refine ⟨fun w1 hC _ => by go_simp; first | exact Below.refl _ _ | exact ⟨Below.refl _ _, rfl⟩, ?_⟩
  simp only [Act.put, List.setIfInBounds_toArray, List.set_cons_succ, List.set_cons_zero]
  refine ⟨fun w1 hC _ => by go_simp; first | exact Below.refl _ _ | exact ⟨Below.refl _ _, rfl⟩, ?_⟩
  simp only [Act.put, List.setIfInBounds_toArray, List.set_cons_succ, List.set_cons_zero]
  refine ⟨fun w1 hC _ => by have hq := at_i hC.2.1 1 (.int .i64 s.i.sub) (by decide) rfl; go_simp; first | exact Below.refl _ _ | exact ⟨Below.refl _ _, rfl⟩, ?_⟩
  simp only [Act.put, List.setIfInBounds_toArray, List.set_cons_succ, List.set_cons_zero]
  refine ⟨fun w1 hC _ => by go_simp; first | exact Below.refl _ _ | exact ⟨Below.refl _ _, rfl⟩, ?_⟩
  simp only [Act.put, List.setIfInBounds_toArray, List.set_cons_succ, List.set_cons_zero]
  refine ⟨fun w1 hC _ => by exact rel_built_w _ rfl { nilW with kind := 6, fence := 13, dsb := s.i.sub == 1 } (by kernel_rfl), ?_⟩
  simp only [Act.put, List.setIfInBounds_toArray, List.set_cons_succ, List.set_cons_zero]
  intro w4 hC _
  simp only [List.drop_succ_cons, List.drop_zero]
  replace H := hC.1
  go_wp2_with (((with_reducible refine wpList_store_w rfl _ _ rfl H no_other hZ _ rfl rfl ?_); intro w9 H; simp only [Act.put]))
  exact bodyPost_ret (back_w rfl _ _ _ _ _ _ rfl (H.get List.mem_cons_self)) rfl ⟨rfl, by first | exact H.below | (rw [← hb]; exact H.below)⟩
set_option maxRecDepth 4000 in
set_option maxHeartbeats 2000000 in
theorem fence2_c (g : Nat) (s : Stp) (w : World) (h : w.heap[g]? = some (.cells s.cells 58)) (hi : s.i.imm = 2) : Calls Tryz.prog 109 #[.pointer (some ⟨g, 0, none⟩)] w fun e w' => e = .returned ({ nilW with kind := 6, fence := 10, dsb := s.i.sub == 1 }).val ∧ Below w.heap.size w w' := by
  go_enter Tryz.func109, Tryz.ntmps109
  go_upto_region 1 with fail
  generalize hw1 : w.alloc _ = w1
  obtain ⟨Z, hZ, H, hs⟩ := start1 hw1 rfl h
  clear hw1
  generalize hb : w.heap.size = b at H ⊢
  go_upto_region 2 with fail
  have hA := r_below_alloc w1 (.cells #[.int .i64 0, .int .i64 13, .int .i64 10, .int .i64 15] 141)
  have d0 : (w1.alloc (.cells #[.int .i64 0, .int .i64 13, .int .i64 10, .int .i64 15] 141)).cell? ⟨w1.heap.size, 2, none⟩ = some (.int .i64 10) := by rw [World.cell?_alloc_new]; rfl
  have hz := (Array.getElem?_eq_some_iff.1 (heap_alloc_new w1 (.cells #[.int .i64 0, .int .i64 13, .int .i64 10, .int .i64 15] 141))).1
  replace H := H.grow hA
  replace hs := keep_row hs hA
  generalize w1.alloc _ = w2 at H hs d0 hz ⊢
  generalize w1.heap.size = z at d0 hz ⊢
  refine Rel.wp_region_tail 14 Rel.Grows (fun x => Has w [(b, Z, 30)] x ∧ x.heap[g]? = some (.cells s.cells 58) ∧ x.cell? ⟨z, 2, none⟩ = some (.int .i64 10)) [.inl (.pointer (some ⟨g, 0, none⟩)), .inl (.pointer (some ⟨g, 0, none⟩)), .inl (.pointer (some ⟨g, 0, none⟩)), .inl (.pointer (some ⟨g, 6, none⟩)), .inl (.int .i64 2), .inl (.pointer (some ⟨z, 2, none⟩)), .inl (.int .i64 10), .inl (.pointer (some ⟨g, 0, none⟩)), .inl (.pointer (some ⟨g, 0, none⟩)), .inl (.pointer (some ⟨g, 0, none⟩)), .inl (.pointer (some ⟨g, 1, none⟩)), .inl (.int .i64 s.i.sub), .inl (.bool (s.i.sub == 1)), .inl (Wnt.val { nilW with kind := 6, fence := 10, dsb := s.i.sub == 1 })] (by kernel_rfl) (by kernel_rfl) (fun _ _ hh hb => ⟨hh.1.grow hb, keep_row hh.2.1 hb, keep_cell hh.2.2 hb⟩) (⟨H.grow ⟨rfl, rfl, rfl, Nat.le_refl _, fun _ _ => rfl⟩, keep_row hs ⟨rfl, rfl, rfl, Nat.le_refl _, fun _ _ => rfl⟩, d0⟩) (by simp [Rel.upK]) ?_
  refine ⟨fun w1 hC _ => by go_simp; first | exact Below.refl _ _ | exact ⟨Below.refl _ _, rfl⟩, ?_⟩
  simp only [Act.put, List.setIfInBounds_toArray, List.set_cons_succ, List.set_cons_zero]
  refine ⟨fun w1 hC _ => by go_simp; first | exact Below.refl _ _ | exact ⟨Below.refl _ _, rfl⟩, ?_⟩
  simp only [Act.put, List.setIfInBounds_toArray, List.set_cons_succ, List.set_cons_zero]
  refine ⟨fun w1 hC _ => by go_simp; first | exact Below.refl _ _ | exact ⟨Below.refl _ _, rfl⟩, ?_⟩
  simp only [Act.put, List.setIfInBounds_toArray, List.set_cons_succ, List.set_cons_zero]
  refine ⟨fun w1 hC _ => by go_simp; first | exact Below.refl _ _ | exact ⟨Below.refl _ _, rfl⟩, ?_⟩
  simp only [Act.put, List.setIfInBounds_toArray, List.set_cons_succ, List.set_cons_zero]
  refine ⟨fun w1 hC _ => by have hq := (by have hq := at_i hC.2.1 6 (.int .i64 s.i.imm) (by decide) rfl; rw [hi] at hq; exact hq : w1.cell? ⟨g, 6, none⟩ = some (.int .i64 2)); go_simp; first | exact Below.refl _ _ | exact ⟨Below.refl _ _, rfl⟩, ?_⟩
  simp only [Act.put, List.setIfInBounds_toArray, List.set_cons_succ, List.set_cons_zero]
  refine ⟨fun w1 hC _ => by go_simp; first | exact Below.refl _ _ | exact ⟨Below.refl _ _, rfl⟩, ?_⟩
  simp only [Act.put, List.setIfInBounds_toArray, List.set_cons_succ, List.set_cons_zero]
  refine ⟨fun w1 hC _ => by have hq := hC.2.2; go_simp; first | exact Below.refl _ _ | exact ⟨Below.refl _ _, rfl⟩, ?_⟩
  simp only [Act.put, List.setIfInBounds_toArray, List.set_cons_succ, List.set_cons_zero]
  refine ⟨fun w1 hC _ => by go_simp; first | exact Below.refl _ _ | exact ⟨Below.refl _ _, rfl⟩, ?_⟩
  simp only [Act.put, List.setIfInBounds_toArray, List.set_cons_succ, List.set_cons_zero]
  refine ⟨fun w1 hC _ => by go_simp; first | exact Below.refl _ _ | exact ⟨Below.refl _ _, rfl⟩, ?_⟩
  simp only [Act.put, List.setIfInBounds_toArray, List.set_cons_succ, List.set_cons_zero]
  refine ⟨fun w1 hC _ => by go_simp; first | exact Below.refl _ _ | exact ⟨Below.refl _ _, rfl⟩, ?_⟩
  simp only [Act.put, List.setIfInBounds_toArray, List.set_cons_succ, List.set_cons_zero]
  refine ⟨fun w1 hC _ => by go_simp; first | exact Below.refl _ _ | exact ⟨Below.refl _ _, rfl⟩, ?_⟩
  simp only [Act.put, List.setIfInBounds_toArray, List.set_cons_succ, List.set_cons_zero]
  refine ⟨fun w1 hC _ => by have hq := at_i hC.2.1 1 (.int .i64 s.i.sub) (by decide) rfl; go_simp; first | exact Below.refl _ _ | exact ⟨Below.refl _ _, rfl⟩, ?_⟩
  simp only [Act.put, List.setIfInBounds_toArray, List.set_cons_succ, List.set_cons_zero]
  refine ⟨fun w1 hC _ => by go_simp; first | exact Below.refl _ _ | exact ⟨Below.refl _ _, rfl⟩, ?_⟩
  simp only [Act.put, List.setIfInBounds_toArray, List.set_cons_succ, List.set_cons_zero]
  refine ⟨fun w1 hC _ => by exact rel_built_w _ rfl { nilW with kind := 6, fence := 10, dsb := s.i.sub == 1 } (by kernel_rfl), ?_⟩
  simp only [Act.put, List.setIfInBounds_toArray, List.set_cons_succ, List.set_cons_zero]
  intro w4 hC _
  simp only [List.drop_succ_cons, List.drop_zero]
  replace H := hC.1
  go_wp2_with (((with_reducible refine wpList_store_w rfl _ _ rfl H no_other hZ _ rfl rfl ?_); intro w9 H; simp only [Act.put]))
  exact bodyPost_ret (back_w rfl _ _ _ _ _ _ rfl (H.get List.mem_cons_self)) rfl ⟨rfl, by first | exact H.below | (rw [← hb]; exact H.below)⟩
set_option maxRecDepth 4000 in
set_option maxHeartbeats 2000000 in
theorem fence3_c (g : Nat) (s : Stp) (w : World) (h : w.heap[g]? = some (.cells s.cells 58)) (hi : s.i.imm = 3) : Calls Tryz.prog 109 #[.pointer (some ⟨g, 0, none⟩)] w fun e w' => e = .returned ({ nilW with kind := 6, fence := 15, dsb := s.i.sub == 1 }).val ∧ Below w.heap.size w w' := by
  go_enter Tryz.func109, Tryz.ntmps109
  go_upto_region 1 with fail
  generalize hw1 : w.alloc _ = w1
  obtain ⟨Z, hZ, H, hs⟩ := start1 hw1 rfl h
  clear hw1
  generalize hb : w.heap.size = b at H ⊢
  go_upto_region 2 with fail
  have hA := r_below_alloc w1 (.cells #[.int .i64 0, .int .i64 13, .int .i64 10, .int .i64 15] 141)
  have d0 : (w1.alloc (.cells #[.int .i64 0, .int .i64 13, .int .i64 10, .int .i64 15] 141)).cell? ⟨w1.heap.size, 3, none⟩ = some (.int .i64 15) := by rw [World.cell?_alloc_new]; rfl
  have hz := (Array.getElem?_eq_some_iff.1 (heap_alloc_new w1 (.cells #[.int .i64 0, .int .i64 13, .int .i64 10, .int .i64 15] 141))).1
  replace H := H.grow hA
  replace hs := keep_row hs hA
  generalize w1.alloc _ = w2 at H hs d0 hz ⊢
  generalize w1.heap.size = z at d0 hz ⊢
  refine Rel.wp_region_tail 14 Rel.Grows (fun x => Has w [(b, Z, 30)] x ∧ x.heap[g]? = some (.cells s.cells 58) ∧ x.cell? ⟨z, 3, none⟩ = some (.int .i64 15)) [.inl (.pointer (some ⟨g, 0, none⟩)), .inl (.pointer (some ⟨g, 0, none⟩)), .inl (.pointer (some ⟨g, 0, none⟩)), .inl (.pointer (some ⟨g, 6, none⟩)), .inl (.int .i64 3), .inl (.pointer (some ⟨z, 3, none⟩)), .inl (.int .i64 15), .inl (.pointer (some ⟨g, 0, none⟩)), .inl (.pointer (some ⟨g, 0, none⟩)), .inl (.pointer (some ⟨g, 0, none⟩)), .inl (.pointer (some ⟨g, 1, none⟩)), .inl (.int .i64 s.i.sub), .inl (.bool (s.i.sub == 1)), .inl (Wnt.val { nilW with kind := 6, fence := 15, dsb := s.i.sub == 1 })] (by kernel_rfl) (by kernel_rfl) (fun _ _ hh hb => ⟨hh.1.grow hb, keep_row hh.2.1 hb, keep_cell hh.2.2 hb⟩) (⟨H.grow ⟨rfl, rfl, rfl, Nat.le_refl _, fun _ _ => rfl⟩, keep_row hs ⟨rfl, rfl, rfl, Nat.le_refl _, fun _ _ => rfl⟩, d0⟩) (by simp [Rel.upK]) ?_
  refine ⟨fun w1 hC _ => by go_simp; first | exact Below.refl _ _ | exact ⟨Below.refl _ _, rfl⟩, ?_⟩
  simp only [Act.put, List.setIfInBounds_toArray, List.set_cons_succ, List.set_cons_zero]
  refine ⟨fun w1 hC _ => by go_simp; first | exact Below.refl _ _ | exact ⟨Below.refl _ _, rfl⟩, ?_⟩
  simp only [Act.put, List.setIfInBounds_toArray, List.set_cons_succ, List.set_cons_zero]
  refine ⟨fun w1 hC _ => by go_simp; first | exact Below.refl _ _ | exact ⟨Below.refl _ _, rfl⟩, ?_⟩
  simp only [Act.put, List.setIfInBounds_toArray, List.set_cons_succ, List.set_cons_zero]
  refine ⟨fun w1 hC _ => by go_simp; first | exact Below.refl _ _ | exact ⟨Below.refl _ _, rfl⟩, ?_⟩
  simp only [Act.put, List.setIfInBounds_toArray, List.set_cons_succ, List.set_cons_zero]
  refine ⟨fun w1 hC _ => by have hq := (by have hq := at_i hC.2.1 6 (.int .i64 s.i.imm) (by decide) rfl; rw [hi] at hq; exact hq : w1.cell? ⟨g, 6, none⟩ = some (.int .i64 3)); go_simp; first | exact Below.refl _ _ | exact ⟨Below.refl _ _, rfl⟩, ?_⟩
  simp only [Act.put, List.setIfInBounds_toArray, List.set_cons_succ, List.set_cons_zero]
  refine ⟨fun w1 hC _ => by go_simp; first | exact Below.refl _ _ | exact ⟨Below.refl _ _, rfl⟩, ?_⟩
  simp only [Act.put, List.setIfInBounds_toArray, List.set_cons_succ, List.set_cons_zero]
  refine ⟨fun w1 hC _ => by have hq := hC.2.2; go_simp; first | exact Below.refl _ _ | exact ⟨Below.refl _ _, rfl⟩, ?_⟩
  simp only [Act.put, List.setIfInBounds_toArray, List.set_cons_succ, List.set_cons_zero]
  refine ⟨fun w1 hC _ => by go_simp; first | exact Below.refl _ _ | exact ⟨Below.refl _ _, rfl⟩, ?_⟩
  simp only [Act.put, List.setIfInBounds_toArray, List.set_cons_succ, List.set_cons_zero]
  refine ⟨fun w1 hC _ => by go_simp; first | exact Below.refl _ _ | exact ⟨Below.refl _ _, rfl⟩, ?_⟩
  simp only [Act.put, List.setIfInBounds_toArray, List.set_cons_succ, List.set_cons_zero]
  refine ⟨fun w1 hC _ => by go_simp; first | exact Below.refl _ _ | exact ⟨Below.refl _ _, rfl⟩, ?_⟩
  simp only [Act.put, List.setIfInBounds_toArray, List.set_cons_succ, List.set_cons_zero]
  refine ⟨fun w1 hC _ => by go_simp; first | exact Below.refl _ _ | exact ⟨Below.refl _ _, rfl⟩, ?_⟩
  simp only [Act.put, List.setIfInBounds_toArray, List.set_cons_succ, List.set_cons_zero]
  refine ⟨fun w1 hC _ => by have hq := at_i hC.2.1 1 (.int .i64 s.i.sub) (by decide) rfl; go_simp; first | exact Below.refl _ _ | exact ⟨Below.refl _ _, rfl⟩, ?_⟩
  simp only [Act.put, List.setIfInBounds_toArray, List.set_cons_succ, List.set_cons_zero]
  refine ⟨fun w1 hC _ => by go_simp; first | exact Below.refl _ _ | exact ⟨Below.refl _ _, rfl⟩, ?_⟩
  simp only [Act.put, List.setIfInBounds_toArray, List.set_cons_succ, List.set_cons_zero]
  refine ⟨fun w1 hC _ => by exact rel_built_w _ rfl { nilW with kind := 6, fence := 15, dsb := s.i.sub == 1 } (by kernel_rfl), ?_⟩
  simp only [Act.put, List.setIfInBounds_toArray, List.set_cons_succ, List.set_cons_zero]
  intro w4 hC _
  simp only [List.drop_succ_cons, List.drop_zero]
  replace H := hC.1
  go_wp2_with (((with_reducible refine wpList_store_w rfl _ _ rfl H no_other hZ _ rfl rfl ?_); intro w9 H; simp only [Act.put]))
  exact bodyPost_ret (back_w rfl _ _ _ _ _ _ rfl (H.get List.mem_cons_self)) rfl ⟨rfl, by first | exact H.below | (rw [← hb]; exact H.below)⟩
theorem fence_c (g : Nat) (s : Stp) (w : World) (h : w.heap[g]? = some (.cells s.cells 58)) (hi : 1 ≤ s.i.imm ∧ s.i.imm ≤ 3) : Calls Tryz.prog 109 #[.pointer (some ⟨g, 0, none⟩)] w fun e w' => e = .returned (Wnt.val { nilW with kind := 6, fence := fenceV s.i.imm, dsb := s.i.sub == 1 }) ∧ Below w.heap.size w w' := by
  rcases (by omega : s.i.imm = 1 ∨ s.i.imm = 2 ∨ s.i.imm = 3) with e | e | e
  · have := fence1_c g s w h e
    rw [e]; exact this
  · have := fence2_c g s w h e
    rw [e]; exact this
  · have := fence3_c g s w h e
    rw [e]; exact this
set_option maxRecDepth 4000 in
set_option maxHeartbeats 2000000 in
theorem dropLine_c (g : Nat) (s : Stp) (w : World) (h : w.heap[g]? = some (.cells s.cells 58)) : Calls Tryz.prog 111 #[.pointer (some ⟨g, 0, none⟩)] w fun e w' => e = .returned ({ nilW with kind := 8, addr := lineV s.c s.i }).val ∧ Below w.heap.size w w' := by
  go_enter Tryz.func111, Tryz.ntmps111
  go_upto_region 1 with fail
  generalize hw1 : w.alloc _ = w1
  obtain ⟨Z, hZ, H, hs⟩ := start1 hw1 rfl h
  clear hw1
  generalize hb : w.heap.size = b at H ⊢
  go_wp2_with (first | (go_at_call 185; refine (line_c g s _ hs).mono ?_; rintro e w2 ⟨rfl, hB⟩; dsimp only; replace H := H.grow hB; replace hs := keep_row hs hB) | ((with_reducible refine wpList_built_w rfl _ rfl { nilW with kind := 8, addr := lineV s.c s.i } (by kernel_rfl) ?_); simp only [Act.put, List.setIfInBounds_toArray, List.set_cons_succ, List.set_cons_zero]) | ((with_reducible refine wpList_store_w rfl _ _ rfl H no_other hZ _ rfl rfl ?_); intro w9 H; simp only [Act.put]))
  exact bodyPost_ret (back_w rfl _ _ _ _ _ _ rfl (H.get List.mem_cons_self)) rfl ⟨rfl, by first | exact H.below | (rw [← hb]; exact H.below)⟩
set_option maxRecDepth 4000 in
set_option maxHeartbeats 2000000 in
theorem cleanLine_c (g : Nat) (s : Stp) (w : World) (h : w.heap[g]? = some (.cells s.cells 58)) : Calls Tryz.prog 113 #[.pointer (some ⟨g, 0, none⟩)] w fun e w' => e = .returned ({ nilW with kind := 10, addr := lineV s.c s.i }).val ∧ Below w.heap.size w w' := by
  go_enter Tryz.func113, Tryz.ntmps113
  go_upto_region 1 with fail
  generalize hw1 : w.alloc _ = w1
  obtain ⟨Z, hZ, H, hs⟩ := start1 hw1 rfl h
  clear hw1
  generalize hb : w.heap.size = b at H ⊢
  go_wp2_with (first | (go_at_call 185; refine (line_c g s _ hs).mono ?_; rintro e w2 ⟨rfl, hB⟩; dsimp only; replace H := H.grow hB; replace hs := keep_row hs hB) | ((with_reducible refine wpList_built_w rfl _ rfl { nilW with kind := 10, addr := lineV s.c s.i } (by kernel_rfl) ?_); simp only [Act.put, List.setIfInBounds_toArray, List.set_cons_succ, List.set_cons_zero]) | ((with_reducible refine wpList_store_w rfl _ _ rfl H no_other hZ _ rfl rfl ?_); intro w9 H; simp only [Act.put]))
  exact bodyPost_ret (back_w rfl _ _ _ _ _ _ rfl (H.get List.mem_cons_self)) rfl ⟨rfl, by first | exact H.below | (rw [← hb]; exact H.below)⟩
set_option maxRecDepth 4000 in
set_option maxHeartbeats 2000000 in
theorem sysReadN_c (g : Nat) (s : Stp) (w : World) (h : w.heap[g]? = some (.cells s.cells 58)) (ho : outB s.i.sys = false) : Calls Tryz.prog 114 #[.pointer (some ⟨g, 0, none⟩)] w fun e w' => e = .returned (nilW).val ∧ Below w.heap.size w w' := by
  go_enter Tryz.func114, Tryz.ntmps114
  go_upto_region 1 with fail
  generalize hw1 : w.alloc _ = w1
  obtain ⟨Z, hZ, H, hs⟩ := start1 hw1 rfl h
  clear hw1
  generalize hb : w.heap.size = b at H ⊢
  have c11 := at_i hs 11 (.int .i64 s.i.sys) (by decide) rfl
  go_wp2_with (first | (go_at_call 186; refine (isOutside_c _ _).mono ?_; rw [ho]; rintro e w2 ⟨rfl, rfl⟩; dsimp only) | ((with_reducible refine wpList_built_w rfl _ rfl nilW (by kernel_rfl) ?_); simp only [Act.put, List.setIfInBounds_toArray, List.set_cons_succ, List.set_cons_zero]) | ((with_reducible refine wpList_store_w rfl _ _ rfl H no_other hZ _ rfl rfl ?_); intro w9 H; simp only [Act.put]))
  exact bodyPost_ret (back_w rfl _ _ _ _ _ _ rfl (H.get List.mem_cons_self)) rfl ⟨rfl, by first | exact H.below | (rw [← hb]; exact H.below)⟩
set_option maxRecDepth 4000 in
set_option maxHeartbeats 2000000 in
theorem sysReadY_c (g : Nat) (s : Stp) (w : World) (h : w.heap[g]? = some (.cells s.cells 58)) (ho : outB s.i.sys = true) : Calls Tryz.prog 114 #[.pointer (some ⟨g, 0, none⟩)] w fun e w' => e = .returned ({ nilW with kind := 11, sys := s.i.sys }).val ∧ Below w.heap.size w w' := by
  go_enter Tryz.func114, Tryz.ntmps114
  go_upto_region 1 with fail
  generalize hw1 : w.alloc _ = w1
  obtain ⟨Z, hZ, H, hs⟩ := start1 hw1 rfl h
  clear hw1
  generalize hb : w.heap.size = b at H ⊢
  have c11 := at_i hs 11 (.int .i64 s.i.sys) (by decide) rfl
  go_wp2_with (first | (go_at_call 186; refine (isOutside_c _ _).mono ?_; rw [ho]; rintro e w2 ⟨rfl, rfl⟩; dsimp only) | ((with_reducible refine wpList_built_w rfl _ rfl { nilW with kind := 11, sys := s.i.sys } (by kernel_rfl) ?_); simp only [Act.put, List.setIfInBounds_toArray, List.set_cons_succ, List.set_cons_zero]) | ((with_reducible refine wpList_store_w rfl _ _ rfl H no_other hZ _ rfl rfl ?_); intro w9 H; simp only [Act.put]))
  exact bodyPost_ret (back_w rfl _ _ _ _ _ _ rfl (H.get List.mem_cons_self)) rfl ⟨rfl, by first | exact H.below | (rw [← hb]; exact H.below)⟩
set_option maxRecDepth 4000 in
set_option maxHeartbeats 2000000 in
theorem sysWriteN_c (g : Nat) (s : Stp) (w : World) (h : w.heap[g]? = some (.cells s.cells 58)) (ho : outB s.i.sys = false) : Calls Tryz.prog 115 #[.pointer (some ⟨g, 0, none⟩)] w fun e w' => e = .returned (nilW).val ∧ Below w.heap.size w w' := by
  go_enter Tryz.func115, Tryz.ntmps115
  go_upto_region 1 with fail
  generalize hw1 : w.alloc _ = w1
  obtain ⟨Z, hZ, H, hs⟩ := start1 hw1 rfl h
  clear hw1
  generalize hb : w.heap.size = b at H ⊢
  have c11 := at_i hs 11 (.int .i64 s.i.sys) (by decide) rfl
  go_wp2_with (first | (go_at_call 186; refine (isOutside_c _ _).mono ?_; rw [ho]; rintro e w2 ⟨rfl, rfl⟩; dsimp only) | ((with_reducible refine wpList_built_w rfl _ rfl nilW (by kernel_rfl) ?_); simp only [Act.put, List.setIfInBounds_toArray, List.set_cons_succ, List.set_cons_zero]) | ((with_reducible refine wpList_store_w rfl _ _ rfl H no_other hZ _ rfl rfl ?_); intro w9 H; simp only [Act.put]))
  exact bodyPost_ret (back_w rfl _ _ _ _ _ _ rfl (H.get List.mem_cons_self)) rfl ⟨rfl, by first | exact H.below | (rw [← hb]; exact H.below)⟩
set_option maxRecDepth 4000 in
set_option maxHeartbeats 2000000 in
theorem sysWriteY_c (g : Nat) (s : Stp) (w : World) (h : w.heap[g]? = some (.cells s.cells 58)) (ho : outB s.i.sys = true) : Calls Tryz.prog 115 #[.pointer (some ⟨g, 0, none⟩)] w fun e w' => e = .returned ({ nilW with kind := 12, sys := s.i.sys, value := xV s.c s.i.rd }).val ∧ Below w.heap.size w w' := by
  go_enter Tryz.func115, Tryz.ntmps115
  go_upto_region 1 with fail
  generalize hw1 : w.alloc _ = w1
  obtain ⟨Z, hZ, H, hs⟩ := start1 hw1 rfl h
  clear hw1
  generalize hb : w.heap.size = b at H ⊢
  have c11 := at_i hs 11 (.int .i64 s.i.sys) (by decide) rfl
  go_upto_region 3 with ((go_at_call 186; refine (isOutside_c _ _).mono ?_; rw [ho]; rintro e w2 ⟨rfl, rfl⟩; dsimp only))
  refine Rel.wp_region_tail 13 Rel.Grows (fun x => Has w [(b, Z, 30)] x ∧ x.heap[g]? = some (.cells s.cells 58)) [.inl (.pointer (some ⟨g, 0, none⟩)), .inl (.pointer (some ⟨g, 0, none⟩)), .inl (.pointer (some ⟨g, 0, none⟩)), .inl (.pointer (some ⟨g, 11, none⟩)), .inl (.int .i64 s.i.sys), .inl (.pointer (some ⟨g, 0, none⟩)), .inl (.pointer (some ⟨g, 0, none⟩)), .inl (.pointer (some ⟨g, 0, none⟩)), .inl (.pointer (some ⟨g, 0, none⟩)), .inl (.pointer (some ⟨g, 2, none⟩)), .inl (.int .i64 s.i.rd), .inl (.int .u64 (xV s.c s.i.rd)), .inl (Wnt.val { nilW with kind := 12, sys := s.i.sys, value := xV s.c s.i.rd })] (by kernel_rfl) (by kernel_rfl) (fun _ _ hh hb => ⟨hh.1.grow hb, keep_row hh.2 hb⟩) (⟨H.grow ⟨rfl, rfl, rfl, Nat.le_refl _, fun _ _ => rfl⟩, keep_row hs ⟨rfl, rfl, rfl, Nat.le_refl _, fun _ _ => rfl⟩⟩) (by simp [Rel.upK]) ?_
  refine ⟨fun w1 hC _ => by go_simp; first | exact Below.refl _ _ | exact ⟨Below.refl _ _, rfl⟩, ?_⟩
  simp only [Act.put, List.setIfInBounds_toArray, List.set_cons_succ, List.set_cons_zero]
  refine ⟨fun w1 hC _ => by go_simp; first | exact Below.refl _ _ | exact ⟨Below.refl _ _, rfl⟩, ?_⟩
  simp only [Act.put, List.setIfInBounds_toArray, List.set_cons_succ, List.set_cons_zero]
  refine ⟨fun w1 hC _ => by go_simp; first | exact Below.refl _ _ | exact ⟨Below.refl _ _, rfl⟩, ?_⟩
  simp only [Act.put, List.setIfInBounds_toArray, List.set_cons_succ, List.set_cons_zero]
  refine ⟨fun w1 hC _ => by go_simp; first | exact Below.refl _ _ | exact ⟨Below.refl _ _, rfl⟩, ?_⟩
  simp only [Act.put, List.setIfInBounds_toArray, List.set_cons_succ, List.set_cons_zero]
  refine ⟨fun w1 hC _ => by have hq := at_i hC.2 11 (.int .i64 s.i.sys) (by decide) rfl; go_simp; first | exact Below.refl _ _ | exact ⟨Below.refl _ _, rfl⟩, ?_⟩
  simp only [Act.put, List.setIfInBounds_toArray, List.set_cons_succ, List.set_cons_zero]
  refine ⟨fun w1 hC _ => by go_simp; first | exact Below.refl _ _ | exact ⟨Below.refl _ _, rfl⟩, ?_⟩
  simp only [Act.put, List.setIfInBounds_toArray, List.set_cons_succ, List.set_cons_zero]
  refine ⟨fun w1 hC _ => by go_simp; first | exact Below.refl _ _ | exact ⟨Below.refl _ _, rfl⟩, ?_⟩
  simp only [Act.put, List.setIfInBounds_toArray, List.set_cons_succ, List.set_cons_zero]
  refine ⟨fun w1 hC _ => by go_simp; first | exact Below.refl _ _ | exact ⟨Below.refl _ _, rfl⟩, ?_⟩
  simp only [Act.put, List.setIfInBounds_toArray, List.set_cons_succ, List.set_cons_zero]
  refine ⟨fun w1 hC _ => by go_simp; first | exact Below.refl _ _ | exact ⟨Below.refl _ _, rfl⟩, ?_⟩
  simp only [Act.put, List.setIfInBounds_toArray, List.set_cons_succ, List.set_cons_zero]
  refine ⟨fun w1 hC _ => by go_simp; first | exact Below.refl _ _ | exact ⟨Below.refl _ _, rfl⟩, ?_⟩
  simp only [Act.put, List.setIfInBounds_toArray, List.set_cons_succ, List.set_cons_zero]
  refine ⟨fun w1 hC _ => by have hq := at_i hC.2 2 (.int .i64 s.i.rd) (by decide) rfl; go_simp; first | exact Below.refl _ _ | exact ⟨Below.refl _ _, rfl⟩, ?_⟩
  simp only [Act.put, List.setIfInBounds_toArray, List.set_cons_succ, List.set_cons_zero]
  refine ⟨fun w1 hC _ => by go_simp; refine (sx_c g s _ w1 hC.2).mono ?_; rintro e w2 ⟨rfl, hb⟩; exact ⟨rfl, hb⟩, ?_⟩
  simp only [Act.put, List.setIfInBounds_toArray, List.set_cons_succ, List.set_cons_zero]
  refine ⟨fun w1 hC _ => by exact rel_built_w _ rfl { nilW with kind := 12, sys := s.i.sys, value := xV s.c s.i.rd } (by kernel_rfl), ?_⟩
  simp only [Act.put, List.setIfInBounds_toArray, List.set_cons_succ, List.set_cons_zero]
  intro w4 hC _
  simp only [List.drop_succ_cons, List.drop_zero]
  replace H := hC.1
  go_wp2_with (((with_reducible refine wpList_store_w rfl _ _ rfl H no_other hZ _ rfl rfl ?_); intro w9 H; simp only [Act.put]))
  exact bodyPost_ret (back_w rfl _ _ _ _ _ _ rfl (H.get List.mem_cons_self)) rfl ⟨rfl, by first | exact H.below | (rw [← hb]; exact H.below)⟩
set_option maxRecDepth 4000 in
set_option maxHeartbeats 2000000 in
theorem svc_c (g : Nat) (s : Stp) (w : World) (h : w.heap[g]? = some (.cells s.cells 58)) : Calls Tryz.prog 116 #[.pointer (some ⟨g, 0, none⟩)] w fun e w' => e = .returned ({ nilW with kind := 15, cls := 21, iss := s.i.imm }).val ∧ Below w.heap.size w w' := by
  go_enter Tryz.func116, Tryz.ntmps116
  go_upto_region 1 with fail
  generalize hw1 : w.alloc _ = w1
  obtain ⟨Z, hZ, H, hs⟩ := start1 hw1 rfl h
  clear hw1
  generalize hb : w.heap.size = b at H ⊢
  have c6 := at_i hs 6 (.int .i64 s.i.imm) (by decide) rfl
  go_wp2_with (first | ((with_reducible refine wpList_built_w rfl _ rfl { nilW with kind := 15, cls := 21, iss := s.i.imm } (by kernel_rfl) ?_); simp only [Act.put, List.setIfInBounds_toArray, List.set_cons_succ, List.set_cons_zero]) | ((with_reducible refine wpList_store_w rfl _ _ rfl H no_other hZ _ rfl rfl ?_); intro w9 H; simp only [Act.put]))
  exact bodyPost_ret (back_w rfl _ _ _ _ _ _ rfl (H.get List.mem_cons_self)) rfl ⟨rfl, by first | exact H.below | (rw [← hb]; exact H.below)⟩
set_option maxRecDepth 4000 in
set_option maxHeartbeats 2000000 in
theorem breakpoint_c (g : Nat) (s : Stp) (w : World) (h : w.heap[g]? = some (.cells s.cells 58)) : Calls Tryz.prog 117 #[.pointer (some ⟨g, 0, none⟩)] w fun e w' => e = .returned ({ nilW with kind := 15, cls := 60, iss := s.i.imm }).val ∧ Below w.heap.size w w' := by
  go_enter Tryz.func117, Tryz.ntmps117
  go_upto_region 1 with fail
  generalize hw1 : w.alloc _ = w1
  obtain ⟨Z, hZ, H, hs⟩ := start1 hw1 rfl h
  clear hw1
  generalize hb : w.heap.size = b at H ⊢
  have c6 := at_i hs 6 (.int .i64 s.i.imm) (by decide) rfl
  go_wp2_with (first | ((with_reducible refine wpList_built_w rfl _ rfl { nilW with kind := 15, cls := 60, iss := s.i.imm } (by kernel_rfl) ?_); simp only [Act.put, List.setIfInBounds_toArray, List.set_cons_succ, List.set_cons_zero]) | ((with_reducible refine wpList_store_w rfl _ _ rfl H no_other hZ _ rfl rfl ?_); intro w9 H; simp only [Act.put]))
  exact bodyPost_ret (back_w rfl _ _ _ _ _ _ rfl (H.get List.mem_cons_self)) rfl ⟨rfl, by first | exact H.below | (rw [← hb]; exact H.below)⟩
set_option maxRecDepth 4000 in
set_option maxHeartbeats 2000000 in
theorem hint2_c (g : Nat) (s : Stp) (w : World) (h : w.heap[g]? = some (.cells s.cells 58)) (hi : s.i.imm = 2) (he : s.c.event = false) : Calls Tryz.prog 118 #[.pointer (some ⟨g, 0, none⟩)] w fun e w' => e = .returned ({ nilW with kind := 13, value := 2 }).val ∧ Below w.heap.size w w' := by
  go_enter Tryz.func118, Tryz.ntmps118
  go_upto_region 1 with fail
  generalize hw1 : w.alloc _ = w1
  obtain ⟨Z, hZ, H, hs⟩ := start1 hw1 rfl h
  clear hw1
  generalize hb : w.heap.size = b at H ⊢
  have c6 := at_i hs 6 (.int .i64 s.i.imm) (by decide) rfl
  have c64 := at_c hs 48 (.bool s.c.event) (by decide) s.c.a48
  rw [hi] at c6
  rw [he] at c64
  go_wp2_with (first | ((with_reducible refine wpList_built_w rfl _ rfl { nilW with kind := 13, value := 2 } (by kernel_rfl) ?_); simp only [Act.put, List.setIfInBounds_toArray, List.set_cons_succ, List.set_cons_zero]) | ((with_reducible refine wpList_store_w rfl _ _ rfl H no_other hZ _ rfl rfl ?_); intro w9 H; simp only [Act.put]))
  exact bodyPost_ret (back_w rfl _ _ _ _ _ _ rfl (H.get List.mem_cons_self)) rfl ⟨rfl, by first | exact H.below | (rw [← hb]; exact H.below)⟩
set_option maxRecDepth 4000 in
set_option maxHeartbeats 2000000 in
theorem hint2n_c (g : Nat) (s : Stp) (w : World) (h : w.heap[g]? = some (.cells s.cells 58)) (hi : s.i.imm = 2) (he : s.c.event = true) : Calls Tryz.prog 118 #[.pointer (some ⟨g, 0, none⟩)] w fun e w' => e = .returned (nilW).val ∧ Below w.heap.size w w' := by
  go_enter Tryz.func118, Tryz.ntmps118
  go_upto_region 1 with fail
  generalize hw1 : w.alloc _ = w1
  obtain ⟨Z, hZ, H, hs⟩ := start1 hw1 rfl h
  clear hw1
  generalize hb : w.heap.size = b at H ⊢
  have c6 := at_i hs 6 (.int .i64 s.i.imm) (by decide) rfl
  have c64 := at_c hs 48 (.bool s.c.event) (by decide) s.c.a48
  rw [hi] at c6
  rw [he] at c64
  go_wp2_with (first | ((with_reducible refine wpList_built_w rfl _ rfl nilW (by kernel_rfl) ?_); simp only [Act.put, List.setIfInBounds_toArray, List.set_cons_succ, List.set_cons_zero]) | ((with_reducible refine wpList_store_w rfl _ _ rfl H no_other hZ _ rfl rfl ?_); intro w9 H; simp only [Act.put]))
  exact bodyPost_ret (back_w rfl _ _ _ _ _ _ rfl (H.get List.mem_cons_self)) rfl ⟨rfl, by first | exact H.below | (rw [← hb]; exact H.below)⟩
set_option maxRecDepth 4000 in
set_option maxHeartbeats 2000000 in
theorem hint3_c (g : Nat) (s : Stp) (w : World) (h : w.heap[g]? = some (.cells s.cells 58)) (hi : s.i.imm = 3) : Calls Tryz.prog 118 #[.pointer (some ⟨g, 0, none⟩)] w fun e w' => e = .returned ({ nilW with kind := 13, value := 1 }).val ∧ Below w.heap.size w w' := by
  go_enter Tryz.func118, Tryz.ntmps118
  go_upto_region 1 with fail
  generalize hw1 : w.alloc _ = w1
  obtain ⟨Z, hZ, H, hs⟩ := start1 hw1 rfl h
  clear hw1
  generalize hb : w.heap.size = b at H ⊢
  have c6 := at_i hs 6 (.int .i64 s.i.imm) (by decide) rfl
  have c64 := at_c hs 48 (.bool s.c.event) (by decide) s.c.a48
  rw [hi] at c6
  go_wp2_with (first | ((with_reducible refine wpList_built_w rfl _ rfl { nilW with kind := 13, value := 1 } (by kernel_rfl) ?_); simp only [Act.put, List.setIfInBounds_toArray, List.set_cons_succ, List.set_cons_zero]) | ((with_reducible refine wpList_store_w rfl _ _ rfl H no_other hZ _ rfl rfl ?_); intro w9 H; simp only [Act.put]))
  exact bodyPost_ret (back_w rfl _ _ _ _ _ _ rfl (H.get List.mem_cons_self)) rfl ⟨rfl, by first | exact H.below | (rw [← hb]; exact H.below)⟩
set_option maxRecDepth 4000 in
set_option maxHeartbeats 2000000 in
theorem hint4_c (g : Nat) (s : Stp) (w : World) (h : w.heap[g]? = some (.cells s.cells 58)) (hi : s.i.imm = 4) : Calls Tryz.prog 118 #[.pointer (some ⟨g, 0, none⟩)] w fun e w' => e = .returned ({ nilW with kind := 14 }).val ∧ Below w.heap.size w w' := by
  go_enter Tryz.func118, Tryz.ntmps118
  go_upto_region 1 with fail
  generalize hw1 : w.alloc _ = w1
  obtain ⟨Z, hZ, H, hs⟩ := start1 hw1 rfl h
  clear hw1
  generalize hb : w.heap.size = b at H ⊢
  have c6 := at_i hs 6 (.int .i64 s.i.imm) (by decide) rfl
  have c64 := at_c hs 48 (.bool s.c.event) (by decide) s.c.a48
  rw [hi] at c6
  go_wp2_with (first | ((with_reducible refine wpList_built_w rfl _ rfl { nilW with kind := 14 } (by kernel_rfl) ?_); simp only [Act.put, List.setIfInBounds_toArray, List.set_cons_succ, List.set_cons_zero]) | ((with_reducible refine wpList_store_w rfl _ _ rfl H no_other hZ _ rfl rfl ?_); intro w9 H; simp only [Act.put]))
  exact bodyPost_ret (back_w rfl _ _ _ _ _ _ rfl (H.get List.mem_cons_self)) rfl ⟨rfl, by first | exact H.below | (rw [← hb]; exact H.below)⟩
set_option maxRecDepth 4000 in
set_option maxHeartbeats 2000000 in
theorem hint0_c (g : Nat) (s : Stp) (w : World) (h : w.heap[g]? = some (.cells s.cells 58)) (h2 : (s.i.imm == 2) = false) (h3 : (s.i.imm == 3) = false) (h4 : (s.i.imm == 4) = false) : Calls Tryz.prog 118 #[.pointer (some ⟨g, 0, none⟩)] w fun e w' => e = .returned (nilW).val ∧ Below w.heap.size w w' := by
  go_enter Tryz.func118, Tryz.ntmps118
  go_upto_region 1 with fail
  generalize hw1 : w.alloc _ = w1
  obtain ⟨Z, hZ, H, hs⟩ := start1 hw1 rfl h
  clear hw1
  generalize hb : w.heap.size = b at H ⊢
  have c6 := at_i hs 6 (.int .i64 s.i.imm) (by decide) rfl
  have c64 := at_c hs 48 (.bool s.c.event) (by decide) s.c.a48
  go_wp2_with (first | ((with_reducible refine wpList_built_w rfl _ rfl nilW (by kernel_rfl) ?_); simp only [Act.put, List.setIfInBounds_toArray, List.set_cons_succ, List.set_cons_zero]) | ((with_reducible refine wpList_store_w rfl _ _ rfl H no_other hZ _ rfl rfl ?_); intro w9 H; simp only [Act.put]))
  exact bodyPost_ret (back_w rfl _ _ _ _ _ _ rfl (H.get List.mem_cons_self)) rfl ⟨rfl, by first | exact H.below | (rw [← hb]; exact H.below)⟩
theorem hinted_c (g : Nat) (s : Stp) (w : World) (h : w.heap[g]? = some (.cells s.cells 58)) : Calls Tryz.prog 118 #[.pointer (some ⟨g, 0, none⟩)] w fun e w' => e = .returned (hintV s.c s.i).val ∧ Below w.heap.size w w' := by
  unfold hintV
  by_cases h2 : s.i.imm = 2
  · cases he : s.c.event
    · rw [if_pos ⟨h2, rfl⟩]; exact hint2_c g s w h h2 he
    · rw [if_neg (fun hh => by cases hh.2), if_neg (by omega), if_neg (by omega)]; exact hint2n_c g s w h h2 he
  · rw [if_neg (fun hh => h2 hh.1)]
    by_cases h3 : s.i.imm = 3
    · rw [if_pos h3]; exact hint3_c g s w h h3
    · rw [if_neg h3]
      by_cases h4 : s.i.imm = 4
      · rw [if_pos h4]; exact hint4_c g s w h h4
      · rw [if_neg h4]; exact hint0_c g s w h (by simp [h2]) (by simp [h3]) (by simp [h4])
end Go.Proofs.YtbjcdpmhmebjnaaGreat
/- A function of the program that has a body is entered when it is called. -/
namespace Go.Proofs.YtbjcdpmhmebjnaaGreat
open Go.RowKit

theorem enters {f : FuncId} {fn : Func} (hf : Tryz.prog.funcs[f]? = some fn) (hn : (fn.name == "runtime.NumGoroutine") = false) (hb : fn.body.isNone = false) (args : Array Value) (w : World) :
    (callFunc f args).run Tryz.prog w = .ok (.enter f args) w := by
  have hn' : ¬ fn.name = "runtime.NumGoroutine" := by simpa using hn
  have hb' : ¬ fn.body = none := by
    intro e
    rw [e] at hb
    exact absurd hb (by decide)
  simp [callFunc, Sem.run_bind, hf, hn', hb']
end Go.Proofs.YtbjcdpmhmebjnaaGreat
