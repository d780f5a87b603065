/- A deed done to the buffer of a core. -/
import Derived.Test.YtjkjbcnafpljoaaRh
namespace Go.Proofs.Ytjkjbcnafpljoaa
open Go.RowKit
set_option linter.unusedVariables false
set_option linter.unusedSimpArgs false

def AC (g : Nat) (S S' : Sta) (L : Lay) (b d : Nat) (s r : Lt) (w : World) : Nat → World → Prop
  | 0, w' => BP g S L b d s nilL w w'
  | 1, w' => BP g S L b d s nilL w w'
  | 2, w' => BP g S L b d s nilL w w'
  | 3, w' => ∃ w1, BP g S L b d s nilL w w1 ∧ Turn g L S' w1 w'
  | 4, w' => ∃ w1 w2, BP g S L b d s nilL w w1 ∧ Turn g L S' w1 w2 ∧ w' = w2.setRow d r.cells
  | _, _ => False
theorem ac_box {g : Nat} {S S' : Sta} {L : Lay} {b d : Nat} {s r : Lt} {w w' : World} {j : Nat} (hj : j ≤ 2) (h : AC g S S' L b d s r w j w') : w'.cell? ⟨b, 0, none⟩ = some (vU s.a) ∧ w'.cell? ⟨b, 1, none⟩ = some (vU s.v) ∧ w'.cell? ⟨b, 2, none⟩ = some (vI s.t) := by
  match j, hj, h with
  | 0, _, h => exact BP.c h
  | 1, _, h => exact BP.c h
  | 2, _, h => exact BP.c h
theorem core_at {S : Sta} {L : Lay} {g : Nat} {w : World} (H : MemAt g S L w) {k : Nat} (hk : k < S.bufs.length) : ∃ u l, L.hv[k]? = some u ∧ S.bufs[k]? = some l := by
  have hk' : k < L.hv.length := by rw [H.len]; exact hk
  exact ⟨_, _, List.getElem?_eq_getElem hk', List.getElem?_eq_getElem hk⟩
theorem hasCore_nat {S : Sta} {k : Nat} (hk : k < S.bufs.length) : hasCoreB S k = true := by simp [hasCoreB]; exact hk
theorem run_put59 {w : World} {d : Nat} {r : Lt} (x : Lt) (e : w.heap[d]? = some (.cells r.cells 59)) : (storeVar 59 ⟨d, 0, none⟩ x.val).run Try.prog w = .ok () (w.setRow d x.cells) := by
  have := run_storeVar_row (P := Try.prog) w d 59 59 r.cells x.cells e (info59 _ _ _) rfl (one3 _ _ _)
  exact this
set_option maxRecDepth 4000 in
theorem at_no (f : Nat) (g : Nat) (S : Sta) (L : Lay) (core : Int) (fv : Value) (s : Lt) (w : World) (H : MemAt g S L w) (hno : hasCoreB S core = false) : Calls Try.prog 35 #[ptr g 0, vI core, fv, s.val] w fun e w' => e = .returned (.tuple #[nilL.val, vI 1]) ∧ Turn g L S w w' := by
  have hf : ∀ k, Foot g L k → k < w.heap.size := fun k hk => H.lt hk
  go_enter Try.func35, Try.ntmps35
  go_upto_region 1 with fail
  generalize h1 : World.alloc (World.alloc w _) _ = w1
  have B : BP g S L w.heap.size (w.heap.size + 1) s nilL w w1 := by rw [← h1]; exact bp_start H s
  clear h1 H
  generalize w.heap.size = b at B ⊢
  go_wp2_with (first | (go_at_call 33; refine (hasCore_c g S L core _ B.mem).mono ?_; rintro e w' ⟨rfl, rfl⟩; dsimp only; rw [hno]) | ((with_reducible refine wpList_lay B hf rfl _ _ rfl rfl _ _ _ rfl ?_); intro w9 B; simp only [Act.put]))
  exact bodyPost_ret (back_le rfl _ _ _ _ _ _ rfl B.res) rfl ⟨rfl, B.turn⟩
set_option maxRecDepth 4000 in
theorem at_c49 (g : Nat) (S S' : Sta) (L : Lay) (k : Nat) (s r : Lt) (err : Int) (w : World) (H : MemAt g S L w) (hk : k < S.bufs.length) (hcall : ∀ w1, MemAt g S L w1 → Calls Try.prog 49 #[ptr L.gb (k * 2), s.val] w1 fun e w' => e = .returned (.tuple #[r.val, vI err]) ∧ Turn g L S' w1 w') :
    Calls Try.prog 35 #[ptr g 0, vI k, .func (.func 49) #[] #[], s.val] w fun e w' => e = .returned (.tuple #[r.val, vI err]) ∧ Turn g L S' w w' := by
  have hf : ∀ k, Foot g L k → k < w.heap.size := fun k hk => H.lt hk
  have hcore := hasCore_nat hk
  have hk0 : (0 : Int) ≤ k := by omega
  have hk1 : (k : Int) < S.bufs.length := by omega
  go_enter Try.func35, Try.ntmps35
  go_upto_region 1 with fail
  generalize h1 : World.alloc (World.alloc w _) _ = w1
  have B : BP g S L w.heap.size (w.heap.size + 1) s nilL w w1 := by rw [← h1]; exact bp_start H s
  clear h1 H
  generalize w.heap.size = b at B ⊢
  go_upto_region 3 with (go_at_call 33; refine (hasCore_c g S L k _ B.mem).mono ?_; rintro e w' ⟨rfl, rfl⟩; dsimp only; rw [hcore])
  have hst : AC g S S' L b (b + 1) s r w 0 { w' with drawn := w'.drawn + 1 } := B.drewN 1
  refine Chn.wp_region_chainL (AC g S S' L b (b + 1) s r w) [4, 6, 8, 11] [4, 4, 4, 4, 4, 4, 4, 2, 4, 4, 4, 4, 4] [.func (.func 49) #[] #[], ptr g 0, ptr g 0, ptr g 1, .slice (some ⟨L.gb, 0, none⟩) S.bufs.length S.bufs.length, vI k, ptr L.gb (k * 2), s.val, .tuple #[r.val, vI err], r.val, vI err, undef, vI err] (by kernel_rfl) (by kernel_rfl) (by kernel_rfl) (by kernel_rfl) (by kernel_rfl) hst ?_
  clear hst hcore
  iterate 4 (refine ⟨fun j w1 hj hC => by exact Chn.upon_pure hC (fun F hF => by (go_simp <;> exact hF)), ?_⟩; simp only [Act.put, List.setIfInBounds_toArray, List.set_cons_succ, List.set_cons_zero])
  refine ⟨fun w1 hC => by have z := MemAt.c1 (BP.mem hC); exact Chn.upon_pure (C := AC g S S' L b (b + 1) s r w 1) hC (fun F hF => by (go_simp <;> exact hF)), ?_⟩
  simp only [Act.put, List.setIfInBounds_toArray, List.set_cons_succ, List.set_cons_zero]
  refine ⟨fun j w1 hj hC => by exact Chn.upon_pure hC (fun F hF => by (go_simp <;> exact hF)), ?_⟩
  simp only [Act.put, List.setIfInBounds_toArray, List.set_cons_succ, List.set_cons_zero]
  refine ⟨fun w1 hC => by exact Chn.upon_pure (C := AC g S S' L b (b + 1) s r w 2) hC (fun F hF => by (go_simp <;> exact hF)), ?_⟩
  simp only [Act.put, List.setIfInBounds_toArray, List.set_cons_succ, List.set_cons_zero]
  refine ⟨fun j w1 hj hC => by obtain ⟨z0, z1, z2⟩ := ac_box hj hC; exact Chn.upon_pure hC (fun F hF => by (go_simp <;> exact hF)), ?_⟩
  simp only [Act.put, List.setIfInBounds_toArray, List.set_cons_succ, List.set_cons_zero]
  refine ⟨fun w1 hC => by exact Chn.upon_call (C := AC g S S' L b (b + 1) s r w 3) (hcall w1 (BP.mem hC)) (fun e2 w2 hh => ⟨hh.1, w1, hC, hh.2⟩) (fun F hF => by (go_simp <;> exact hF)), ?_⟩
  simp only [Act.put, List.setIfInBounds_toArray, List.set_cons_succ, List.set_cons_zero]
  iterate 2 (refine ⟨fun j w1 hj hC => by exact Chn.upon_pure hC (fun F hF => by (go_simp <;> exact hF)), ?_⟩; simp only [Act.put, List.setIfInBounds_toArray, List.set_cons_succ, List.set_cons_zero])
  refine ⟨fun w1 hC => by
    obtain ⟨w0, B0, T⟩ := hC
    exact chn_store 59 _ _ rfl (b + 1) 0 rfl _ rfl (run_put59 r (B0.then T hf).2) ⟨w0, w1, B0, T, rfl⟩, ?_⟩
  simp only [Act.put]
  refine ⟨fun j w1 hj hC => by exact Chn.upon_pure hC (fun F hF => by (go_simp <;> exact hF)), ?_⟩
  simp only [Act.put, List.setIfInBounds_toArray, List.set_cons_succ, List.set_cons_zero]
  intro w5 hC
  obtain ⟨w0, w2, B0, T, rfl⟩ := hC
  have hE := B0.end T hf r
  have e2 := (B0.then T hf).2
  go_wp2
  all_goals exact bodyPost_ret (back_le rfl _ _ _ _ _ _ rfl (setRow_heap _ _ _ _ _ _ e2)) rfl ⟨rfl, hE⟩
set_option maxRecDepth 4000 in
theorem at_c36 (g : Nat) (S S' : Sta) (L : Lay) (k : Nat) (s r : Lt) (err : Int) (w : World) (H : MemAt g S L w) (hk : k < S.bufs.length) (hcall : ∀ w1, MemAt g S L w1 → Calls Try.prog 36 #[ptr L.gb (k * 2), s.val] w1 fun e w' => e = .returned (.tuple #[r.val, vI err]) ∧ Turn g L S' w1 w') :
    Calls Try.prog 35 #[ptr g 0, vI k, .func (.func 36) #[] #[], s.val] w fun e w' => e = .returned (.tuple #[r.val, vI err]) ∧ Turn g L S' w w' := by
  have hf : ∀ k, Foot g L k → k < w.heap.size := fun k hk => H.lt hk
  have hcore := hasCore_nat hk
  have hk0 : (0 : Int) ≤ k := by omega
  have hk1 : (k : Int) < S.bufs.length := by omega
  go_enter Try.func35, Try.ntmps35
  go_upto_region 1 with fail
  generalize h1 : World.alloc (World.alloc w _) _ = w1
  have B : BP g S L w.heap.size (w.heap.size + 1) s nilL w w1 := by rw [← h1]; exact bp_start H s
  clear h1 H
  generalize w.heap.size = b at B ⊢
  go_upto_region 3 with (go_at_call 33; refine (hasCore_c g S L k _ B.mem).mono ?_; rintro e w' ⟨rfl, rfl⟩; dsimp only; rw [hcore])
  have hst : AC g S S' L b (b + 1) s r w 0 { w' with drawn := w'.drawn + 1 } := B.drewN 1
  refine Chn.wp_region_chainL (AC g S S' L b (b + 1) s r w) [4, 6, 8, 11] [4, 4, 4, 4, 4, 4, 4, 2, 4, 4, 4, 4, 4] [.func (.func 36) #[] #[], ptr g 0, ptr g 0, ptr g 1, .slice (some ⟨L.gb, 0, none⟩) S.bufs.length S.bufs.length, vI k, ptr L.gb (k * 2), s.val, .tuple #[r.val, vI err], r.val, vI err, undef, vI err] (by kernel_rfl) (by kernel_rfl) (by kernel_rfl) (by kernel_rfl) (by kernel_rfl) hst ?_
  clear hst hcore
  iterate 4 (refine ⟨fun j w1 hj hC => by exact Chn.upon_pure hC (fun F hF => by (go_simp <;> exact hF)), ?_⟩; simp only [Act.put, List.setIfInBounds_toArray, List.set_cons_succ, List.set_cons_zero])
  refine ⟨fun w1 hC => by have z := MemAt.c1 (BP.mem hC); exact Chn.upon_pure (C := AC g S S' L b (b + 1) s r w 1) hC (fun F hF => by (go_simp <;> exact hF)), ?_⟩
  simp only [Act.put, List.setIfInBounds_toArray, List.set_cons_succ, List.set_cons_zero]
  refine ⟨fun j w1 hj hC => by exact Chn.upon_pure hC (fun F hF => by (go_simp <;> exact hF)), ?_⟩
  simp only [Act.put, List.setIfInBounds_toArray, List.set_cons_succ, List.set_cons_zero]
  refine ⟨fun w1 hC => by exact Chn.upon_pure (C := AC g S S' L b (b + 1) s r w 2) hC (fun F hF => by (go_simp <;> exact hF)), ?_⟩
  simp only [Act.put, List.setIfInBounds_toArray, List.set_cons_succ, List.set_cons_zero]
  refine ⟨fun j w1 hj hC => by obtain ⟨z0, z1, z2⟩ := ac_box hj hC; exact Chn.upon_pure hC (fun F hF => by (go_simp <;> exact hF)), ?_⟩
  simp only [Act.put, List.setIfInBounds_toArray, List.set_cons_succ, List.set_cons_zero]
  refine ⟨fun w1 hC => by exact Chn.upon_call (C := AC g S S' L b (b + 1) s r w 3) (hcall w1 (BP.mem hC)) (fun e2 w2 hh => ⟨hh.1, w1, hC, hh.2⟩) (fun F hF => by (go_simp <;> exact hF)), ?_⟩
  simp only [Act.put, List.setIfInBounds_toArray, List.set_cons_succ, List.set_cons_zero]
  iterate 2 (refine ⟨fun j w1 hj hC => by exact Chn.upon_pure hC (fun F hF => by (go_simp <;> exact hF)), ?_⟩; simp only [Act.put, List.setIfInBounds_toArray, List.set_cons_succ, List.set_cons_zero])
  refine ⟨fun w1 hC => by
    obtain ⟨w0, B0, T⟩ := hC
    exact chn_store 59 _ _ rfl (b + 1) 0 rfl _ rfl (run_put59 r (B0.then T hf).2) ⟨w0, w1, B0, T, rfl⟩, ?_⟩
  simp only [Act.put]
  refine ⟨fun j w1 hj hC => by exact Chn.upon_pure hC (fun F hF => by (go_simp <;> exact hF)), ?_⟩
  simp only [Act.put, List.setIfInBounds_toArray, List.set_cons_succ, List.set_cons_zero]
  intro w5 hC
  obtain ⟨w0, w2, B0, T, rfl⟩ := hC
  have hE := B0.end T hf r
  have e2 := (B0.then T hf).2
  go_wp2
  all_goals exact bodyPost_ret (back_le rfl _ _ _ _ _ _ rfl (setRow_heap _ _ _ _ _ _ e2)) rfl ⟨rfl, hE⟩
set_option maxRecDepth 4000 in
theorem at_c52 (g : Nat) (S S' : Sta) (L : Lay) (k : Nat) (s r : Lt) (err : Int) (w : World) (H : MemAt g S L w) (hk : k < S.bufs.length) (hcall : ∀ w1, MemAt g S L w1 → Calls Try.prog 52 #[ptr L.gb (k * 2), s.val] w1 fun e w' => e = .returned (.tuple #[r.val, vI err]) ∧ Turn g L S' w1 w') :
    Calls Try.prog 35 #[ptr g 0, vI k, .func (.func 52) #[] #[], s.val] w fun e w' => e = .returned (.tuple #[r.val, vI err]) ∧ Turn g L S' w w' := by
  have hf : ∀ k, Foot g L k → k < w.heap.size := fun k hk => H.lt hk
  have hcore := hasCore_nat hk
  have hk0 : (0 : Int) ≤ k := by omega
  have hk1 : (k : Int) < S.bufs.length := by omega
  go_enter Try.func35, Try.ntmps35
  go_upto_region 1 with fail
  generalize h1 : World.alloc (World.alloc w _) _ = w1
  have B : BP g S L w.heap.size (w.heap.size + 1) s nilL w w1 := by rw [← h1]; exact bp_start H s
  clear h1 H
  generalize w.heap.size = b at B ⊢
  go_upto_region 3 with (go_at_call 33; refine (hasCore_c g S L k _ B.mem).mono ?_; rintro e w' ⟨rfl, rfl⟩; dsimp only; rw [hcore])
  have hst : AC g S S' L b (b + 1) s r w 0 { w' with drawn := w'.drawn + 1 } := B.drewN 1
  refine Chn.wp_region_chainL (AC g S S' L b (b + 1) s r w) [4, 6, 8, 11] [4, 4, 4, 4, 4, 4, 4, 2, 4, 4, 4, 4, 4] [.func (.func 52) #[] #[], ptr g 0, ptr g 0, ptr g 1, .slice (some ⟨L.gb, 0, none⟩) S.bufs.length S.bufs.length, vI k, ptr L.gb (k * 2), s.val, .tuple #[r.val, vI err], r.val, vI err, undef, vI err] (by kernel_rfl) (by kernel_rfl) (by kernel_rfl) (by kernel_rfl) (by kernel_rfl) hst ?_
  clear hst hcore
  iterate 4 (refine ⟨fun j w1 hj hC => by exact Chn.upon_pure hC (fun F hF => by (go_simp <;> exact hF)), ?_⟩; simp only [Act.put, List.setIfInBounds_toArray, List.set_cons_succ, List.set_cons_zero])
  refine ⟨fun w1 hC => by have z := MemAt.c1 (BP.mem hC); exact Chn.upon_pure (C := AC g S S' L b (b + 1) s r w 1) hC (fun F hF => by (go_simp <;> exact hF)), ?_⟩
  simp only [Act.put, List.setIfInBounds_toArray, List.set_cons_succ, List.set_cons_zero]
  refine ⟨fun j w1 hj hC => by exact Chn.upon_pure hC (fun F hF => by (go_simp <;> exact hF)), ?_⟩
  simp only [Act.put, List.setIfInBounds_toArray, List.set_cons_succ, List.set_cons_zero]
  refine ⟨fun w1 hC => by exact Chn.upon_pure (C := AC g S S' L b (b + 1) s r w 2) hC (fun F hF => by (go_simp <;> exact hF)), ?_⟩
  simp only [Act.put, List.setIfInBounds_toArray, List.set_cons_succ, List.set_cons_zero]
  refine ⟨fun j w1 hj hC => by obtain ⟨z0, z1, z2⟩ := ac_box hj hC; exact Chn.upon_pure hC (fun F hF => by (go_simp <;> exact hF)), ?_⟩
  simp only [Act.put, List.setIfInBounds_toArray, List.set_cons_succ, List.set_cons_zero]
  refine ⟨fun w1 hC => by exact Chn.upon_call (C := AC g S S' L b (b + 1) s r w 3) (hcall w1 (BP.mem hC)) (fun e2 w2 hh => ⟨hh.1, w1, hC, hh.2⟩) (fun F hF => by (go_simp <;> exact hF)), ?_⟩
  simp only [Act.put, List.setIfInBounds_toArray, List.set_cons_succ, List.set_cons_zero]
  iterate 2 (refine ⟨fun j w1 hj hC => by exact Chn.upon_pure hC (fun F hF => by (go_simp <;> exact hF)), ?_⟩; simp only [Act.put, List.setIfInBounds_toArray, List.set_cons_succ, List.set_cons_zero])
  refine ⟨fun w1 hC => by
    obtain ⟨w0, B0, T⟩ := hC
    exact chn_store 59 _ _ rfl (b + 1) 0 rfl _ rfl (run_put59 r (B0.then T hf).2) ⟨w0, w1, B0, T, rfl⟩, ?_⟩
  simp only [Act.put]
  refine ⟨fun j w1 hj hC => by exact Chn.upon_pure hC (fun F hF => by (go_simp <;> exact hF)), ?_⟩
  simp only [Act.put, List.setIfInBounds_toArray, List.set_cons_succ, List.set_cons_zero]
  intro w5 hC
  obtain ⟨w0, w2, B0, T, rfl⟩ := hC
  have hE := B0.end T hf r
  have e2 := (B0.then T hf).2
  go_wp2
  all_goals exact bodyPost_ret (back_le rfl _ _ _ _ _ _ rfl (setRow_heap _ _ _ _ _ _ e2)) rfl ⟨rfl, hE⟩
end Go.Proofs.Ytjkjbcnafpljoaa
