/- The document's own Begin, where it wants an exception, an access or nothing much: contracts. -/
import Derived.Test.YtbjcdpmhmebjnaaGreatB14
import Derived.Test.YtbjcdpmhmebjnaaGreatB08
import Derived.Great.BuildSlice
namespace Go.Proofs.YtbjcdpmhmebjnaaGreat
open Go.RowKit
set_option linter.unusedVariables false

set_option maxRecDepth 8000 in
set_option maxHeartbeats 8000000 in
theorem qb_bar (c : Cor) (word : Int) (i : Ins) (hdec : ∀ w : World, Calls Tryz.prog 24 #[.int .u32 word] w fun e w' => e = .returned i.val ∧ Below w.heap.size w w') (hr : rightC c = true) (hbar : barB c i = true) (w : World) :
    Calls Tryz.prog 10 #[c.val, .int .u32 word] w fun e w' => e = .returned (.tuple #[(unkV).val, .bool true]) ∧ Below w.heap.size w w' := by
  go_enter Tryz.func10, Tryz.ntmps10
  go_upto_region 1 with fail
  have H := stwo_start w c.cells #[.int .i64 0, .int .u64 0, .int .u64 0, .int .i64 0, .bool false, .int .i64 0, .bool false, .int .i64 0, .int .i64 0, .int .i64 0] 26 30
  generalize hb : w.heap.size = b at H ⊢
  generalize (w.alloc _).alloc _ = w1 at H ⊢
  obtain ⟨Z, hZ, H⟩ : ∃ Z, Z.size = 10 ∧ Has w [(b + 1, Z, 30), (b, c.cells, 26)] w1 := ⟨_, rfl, H⟩
  go_upto_region 4 with (first | ((with_reducible refine wpList_load_ifA rfl 26 _ rfl b rfl 26 _ (0, 0) _ (H.get (List.mem_cons_of_mem _ List.mem_cons_self)) Tryz.underlying26 rfl (Cor.info _) ?_); simp only [Act.put, List.setIfInBounds_toArray, List.set_cons_succ, List.set_cons_zero]) | (go_at_call 23; refine (refRight_c c _).mono ?_; rw [hr]; rintro e wa ⟨rfl, hB⟩; dsimp only; replace H := H.grow hB))
  have hlt0 := (Array.getElem?_eq_some_iff.1 (H.get List.mem_cons_self)).1
  go_upto_region 5 with (first | (go_at_call 24; refine (hdec _).mono ?_; rintro e wa ⟨rfl, hB⟩; dsimp only; replace H := H.grow hB) | ((with_reducible refine wpList_store_new H rfl 47 _ _ rfl i.cells rfl rfl (Ins.infoC i) ?_ (Ins.oneC i) ?_); (focus rfl); intro wb H; simp only [Act.put]))
  have hlt : b + 1 < wa.heap.size := Nat.lt_of_lt_of_le hlt0 hB.size
  generalize wa.heap.size = t7 at H hlt ⊢
  go_upto_region 6 with (first | ((with_reducible refine wpList_load_ifA rfl 26 _ rfl b rfl 26 _ (0, 0) _ (H.get (List.mem_cons_of_mem _ (List.mem_cons_of_mem _ List.mem_cons_self))) Tryz.underlying26 rfl (Cor.info _) ?_); simp only [Act.put, List.setIfInBounds_toArray, List.set_cons_succ, List.set_cons_zero]) | ((with_reducible refine wpList_load_ifA rfl 47 _ rfl t7 rfl 47 _ (0, 0) _ (H.get List.mem_cons_self) Tryz.underlying47 rfl (Ins.infoC i) ?_); simp only [Act.put, List.setIfInBounds_toArray, List.set_cons_succ, List.set_cons_zero]) | (go_at_call 25; refine (qbar_c c i _).mono ?_; rw [hbar]; rintro e wa ⟨rfl, hB⟩; dsimp only; replace H := H.grow hB))
  have H2 : Has w [(b + 1, Z, 30), (t7, i.cells, 47), (b, c.cells, 26)] wa := ⟨H.below, fun p hp => H.box p (by simp at hp ⊢; rcases hp with rfl | rfl | rfl <;> simp)⟩
  replace H := H2
  clear H2
  have hne : ∀ p ∈ [(t7, i.cells, (47 : TypeId)), (b, c.cells, (26 : TypeId))], p.1 ≠ b + 1 := by intro p hp; simp at hp; rcases hp with rfl | rfl <;> simp <;> omega
  have c0 := H.at (b := t7) (t := 47) (c := i.cells) (List.mem_cons_of_mem _ List.mem_cons_self) 0 (.int .i64 i.op) rfl
  by_cases h0 : i.op = 0
  · rw [h0] at c0
    go_wp2_with (first | ((with_reducible refine wpList_built_w rfl _ rfl unkV (by kernel_rfl) ?_); simp only [Act.put, List.setIfInBounds_toArray, List.set_cons_succ, List.set_cons_zero]) | ((with_reducible refine wpList_store_w rfl _ _ rfl H hne hZ _ rfl rfl ?_); intro wq H; simp only [Act.put]))
    exact bodyPost_ret (back_wt rfl _ _ _ _ _ _ rfl (H.get List.mem_cons_self)) rfl ⟨rfl, by first | exact H.below | (rw [← hb]; exact H.below)⟩
  · have h0' : (i.op == 0) = false := by simp [h0]
    go_wp2_with (first | ((with_reducible refine wpList_built_w rfl _ rfl unkV (by kernel_rfl) ?_); simp only [Act.put, List.setIfInBounds_toArray, List.set_cons_succ, List.set_cons_zero]) | ((with_reducible refine wpList_store_w rfl _ _ rfl H hne hZ _ rfl rfl ?_); intro wq H; simp only [Act.put]))
    exact bodyPost_ret (back_wt rfl _ _ _ _ _ _ rfl (H.get List.mem_cons_self)) rfl ⟨rfl, by first | exact H.below | (rw [← hb]; exact H.below)⟩
set_option maxRecDepth 8000 in
set_option maxHeartbeats 8000000 in
theorem qb_0 (c : Cor) (word : Int) (i : Ins) (hdec : ∀ w : World, Calls Tryz.prog 24 #[.int .u32 word] w fun e w' => e = .returned i.val ∧ Below w.heap.size w w') (hr : rightC c = true) (hbar : barB c i = false) (ho : Hid (i.op = 0)) (w : World) :
    Calls Tryz.prog 10 #[c.val, .int .u32 word] w fun e w' => e = .returned (.tuple #[(unkV).val, .bool true]) ∧ Below w.heap.size w w' := by
  go_enter Tryz.func10, Tryz.ntmps10
  go_upto_region 1 with fail
  have H := stwo_start w c.cells #[.int .i64 0, .int .u64 0, .int .u64 0, .int .i64 0, .bool false, .int .i64 0, .bool false, .int .i64 0, .int .i64 0, .int .i64 0] 26 30
  generalize hb : w.heap.size = b at H ⊢
  generalize (w.alloc _).alloc _ = w1 at H ⊢
  obtain ⟨Z, hZ, H⟩ : ∃ Z, Z.size = 10 ∧ Has w [(b + 1, Z, 30), (b, c.cells, 26)] w1 := ⟨_, rfl, H⟩
  go_upto_region 4 with (first | ((with_reducible refine wpList_load_ifA rfl 26 _ rfl b rfl 26 _ (0, 0) _ (H.get (List.mem_cons_of_mem _ List.mem_cons_self)) Tryz.underlying26 rfl (Cor.info _) ?_); simp only [Act.put, List.setIfInBounds_toArray, List.set_cons_succ, List.set_cons_zero]) | (go_at_call 23; refine (refRight_c c _).mono ?_; rw [hr]; rintro e wa ⟨rfl, hB⟩; dsimp only; replace H := H.grow hB))
  have hlt0 := (Array.getElem?_eq_some_iff.1 (H.get List.mem_cons_self)).1
  go_upto_region 5 with (first | (go_at_call 24; refine (hdec _).mono ?_; rintro e wa ⟨rfl, hB⟩; dsimp only; replace H := H.grow hB) | ((with_reducible refine wpList_store_new H rfl 47 _ _ rfl i.cells rfl rfl (Ins.infoC i) ?_ (Ins.oneC i) ?_); (focus rfl); intro wb H; simp only [Act.put]))
  have hlt : b + 1 < wa.heap.size := Nat.lt_of_lt_of_le hlt0 hB.size
  generalize wa.heap.size = t7 at H hlt ⊢
  go_upto_region 6 with (first | ((with_reducible refine wpList_load_ifA rfl 26 _ rfl b rfl 26 _ (0, 0) _ (H.get (List.mem_cons_of_mem _ (List.mem_cons_of_mem _ List.mem_cons_self))) Tryz.underlying26 rfl (Cor.info _) ?_); simp only [Act.put, List.setIfInBounds_toArray, List.set_cons_succ, List.set_cons_zero]) | ((with_reducible refine wpList_load_ifA rfl 47 _ rfl t7 rfl 47 _ (0, 0) _ (H.get List.mem_cons_self) Tryz.underlying47 rfl (Ins.infoC i) ?_); simp only [Act.put, List.setIfInBounds_toArray, List.set_cons_succ, List.set_cons_zero]) | (go_at_call 25; refine (qbar_c c i _).mono ?_; rw [hbar]; rintro e wa ⟨rfl, hB⟩; dsimp only; replace H := H.grow hB))
  have H2 : Has w [(b + 1, Z, 30), (t7, i.cells, 47), (b, c.cells, 26)] wa := ⟨H.below, fun p hp => H.box p (by simp at hp ⊢; rcases hp with rfl | rfl | rfl <;> simp)⟩
  replace H := H2
  clear H2
  have hne : ∀ p ∈ [(t7, i.cells, (47 : TypeId)), (b, c.cells, (26 : TypeId))], p.1 ≠ b + 1 := by intro p hp; simp at hp; rcases hp with rfl | rfl <;> simp <;> omega
  have c0 := H.at (b := t7) (t := 47) (c := i.cells) (List.mem_cons_of_mem _ List.mem_cons_self) 0 (.int .i64 i.op) rfl
  rw [ho.out] at c0
  go_wp2_with (first | ((with_reducible refine wpList_built_w rfl _ rfl unkV (by kernel_rfl) ?_); simp only [Act.put, List.setIfInBounds_toArray, List.set_cons_succ, List.set_cons_zero]) | ((with_reducible refine wpList_store_w rfl _ _ rfl H hne hZ _ rfl rfl ?_); intro wq H; simp only [Act.put]))
  exact bodyPost_ret (back_wt rfl _ _ _ _ _ _ rfl (H.get List.mem_cons_self)) rfl ⟨rfl, by first | exact H.below | (rw [← hb]; exact H.below)⟩
set_option maxRecDepth 8000 in
set_option maxHeartbeats 8000000 in
theorem qb_acc (c : Cor) (word : Int) (i : Ins) (hdec : ∀ w : World, Calls Tryz.prog 24 #[.int .u32 word] w fun e w' => e = .returned i.val ∧ Below w.heap.size w w') (hr : rightC c = true) (hbar : barB c i = false) (ho : Hid (i.op = 17 ∨ i.op = 18 ∨ i.op = 19 ∨ i.op = 20 ∨ i.op = 21 ∨ i.op = 22 ∨ i.op = 23 ∨ i.op = 24)) (V : Wnt) (hacc : ∀ w : World, Calls Tryz.prog 26 #[c.val, i.val] w fun e w' => e = .returned V.val ∧ Below w.heap.size w w') (w : World) :
    Calls Tryz.prog 10 #[c.val, .int .u32 word] w fun e w' => e = .returned (.tuple #[(V).val, .bool true]) ∧ Below w.heap.size w w' := by
  go_enter Tryz.func10, Tryz.ntmps10
  go_upto_region 1 with fail
  have H := stwo_start w c.cells #[.int .i64 0, .int .u64 0, .int .u64 0, .int .i64 0, .bool false, .int .i64 0, .bool false, .int .i64 0, .int .i64 0, .int .i64 0] 26 30
  generalize hb : w.heap.size = b at H ⊢
  generalize (w.alloc _).alloc _ = w1 at H ⊢
  obtain ⟨Z, hZ, H⟩ : ∃ Z, Z.size = 10 ∧ Has w [(b + 1, Z, 30), (b, c.cells, 26)] w1 := ⟨_, rfl, H⟩
  go_upto_region 4 with (first | ((with_reducible refine wpList_load_ifA rfl 26 _ rfl b rfl 26 _ (0, 0) _ (H.get (List.mem_cons_of_mem _ List.mem_cons_self)) Tryz.underlying26 rfl (Cor.info _) ?_); simp only [Act.put, List.setIfInBounds_toArray, List.set_cons_succ, List.set_cons_zero]) | (go_at_call 23; refine (refRight_c c _).mono ?_; rw [hr]; rintro e wa ⟨rfl, hB⟩; dsimp only; replace H := H.grow hB))
  have hlt0 := (Array.getElem?_eq_some_iff.1 (H.get List.mem_cons_self)).1
  go_upto_region 5 with (first | (go_at_call 24; refine (hdec _).mono ?_; rintro e wa ⟨rfl, hB⟩; dsimp only; replace H := H.grow hB) | ((with_reducible refine wpList_store_new H rfl 47 _ _ rfl i.cells rfl rfl (Ins.infoC i) ?_ (Ins.oneC i) ?_); (focus rfl); intro wb H; simp only [Act.put]))
  have hlt : b + 1 < wa.heap.size := Nat.lt_of_lt_of_le hlt0 hB.size
  generalize wa.heap.size = t7 at H hlt ⊢
  go_upto_region 6 with (first | ((with_reducible refine wpList_load_ifA rfl 26 _ rfl b rfl 26 _ (0, 0) _ (H.get (List.mem_cons_of_mem _ (List.mem_cons_of_mem _ List.mem_cons_self))) Tryz.underlying26 rfl (Cor.info _) ?_); simp only [Act.put, List.setIfInBounds_toArray, List.set_cons_succ, List.set_cons_zero]) | ((with_reducible refine wpList_load_ifA rfl 47 _ rfl t7 rfl 47 _ (0, 0) _ (H.get List.mem_cons_self) Tryz.underlying47 rfl (Ins.infoC i) ?_); simp only [Act.put, List.setIfInBounds_toArray, List.set_cons_succ, List.set_cons_zero]) | (go_at_call 25; refine (qbar_c c i _).mono ?_; rw [hbar]; rintro e wa ⟨rfl, hB⟩; dsimp only; replace H := H.grow hB))
  have H2 : Has w [(b + 1, Z, 30), (t7, i.cells, 47), (b, c.cells, 26)] wa := ⟨H.below, fun p hp => H.box p (by simp at hp ⊢; rcases hp with rfl | rfl | rfl <;> simp)⟩
  replace H := H2
  clear H2
  have hne : ∀ p ∈ [(t7, i.cells, (47 : TypeId)), (b, c.cells, (26 : TypeId))], p.1 ≠ b + 1 := by intro p hp; simp at hp; rcases hp with rfl | rfl <;> simp <;> omega
  have c0 := H.at (b := t7) (t := 47) (c := i.cells) (List.mem_cons_of_mem _ List.mem_cons_self) 0 (.int .i64 i.op) rfl
  rcases ho.out with e | e | e | e | e | e | e | e
  all_goals
    rw [e] at c0
    clear e
    go_wp2_with (first | ((with_reducible refine wpList_load_ifA rfl 26 _ rfl b rfl 26 _ (0, 0) _ (H.get (List.mem_cons_of_mem _ (List.mem_cons_of_mem _ List.mem_cons_self))) Tryz.underlying26 rfl (Cor.info _) ?_); simp only [Act.put, List.setIfInBounds_toArray, List.set_cons_succ, List.set_cons_zero]) | ((with_reducible refine wpList_load_ifA rfl 47 _ rfl t7 rfl 47 _ (0, 0) _ (H.get (List.mem_cons_of_mem _ List.mem_cons_self)) Tryz.underlying47 rfl (Ins.infoC i) ?_); simp only [Act.put, List.setIfInBounds_toArray, List.set_cons_succ, List.set_cons_zero]) | (go_at_call 26; refine (hacc _).mono ?_; rintro e wa ⟨rfl, hB⟩; dsimp only; replace H := H.grow hB) | ((with_reducible refine wpList_store_w rfl _ _ rfl H hne hZ _ rfl rfl ?_); intro wq H; simp only [Act.put]))
    exact bodyPost_ret (back_wt rfl _ _ _ _ _ _ rfl (H.get List.mem_cons_self)) rfl ⟨rfl, by first | exact H.below | (rw [← hb]; exact H.below)⟩
end Go.Proofs.YtbjcdpmhmebjnaaGreat
/- The document's own Begin, of all other instructions: contracts. -/
namespace Go.Proofs.YtbjcdpmhmebjnaaGreat
open Go.RowKit
set_option linter.unusedVariables false

set_option maxRecDepth 8000 in
set_option maxHeartbeats 8000000 in
theorem qb_nil (c : Cor) (word : Int) (i : Ins) (hdec : ∀ w : World, Calls Tryz.prog 24 #[.int .u32 word] w fun e w' => e = .returned i.val ∧ Below w.heap.size w w') (hr : rightC c = true) (hbar : barB c i = false) (ho : Hid (i.op = 1 ∨ i.op = 2 ∨ i.op = 3 ∨ i.op = 4 ∨ i.op = 5 ∨ i.op = 6 ∨ i.op = 7 ∨ i.op = 8 ∨ i.op = 9 ∨ i.op = 10 ∨ i.op = 11 ∨ i.op = 12 ∨ i.op = 13 ∨ i.op = 14 ∨ i.op = 15 ∨ i.op = 16 ∨ i.op = 33 ∨ i.op = 36)) (w : World) :
    Calls Tryz.prog 10 #[c.val, .int .u32 word] w fun e w' => e = .returned (.tuple #[(nilW).val, .bool true]) ∧ Below w.heap.size w w' := by
  go_enter Tryz.func10, Tryz.ntmps10
  go_upto_region 1 with fail
  have H := stwo_start w c.cells #[.int .i64 0, .int .u64 0, .int .u64 0, .int .i64 0, .bool false, .int .i64 0, .bool false, .int .i64 0, .int .i64 0, .int .i64 0] 26 30
  generalize hb : w.heap.size = b at H ⊢
  generalize (w.alloc _).alloc _ = w1 at H ⊢
  obtain ⟨Z, hZ, H⟩ : ∃ Z, Z.size = 10 ∧ Has w [(b + 1, Z, 30), (b, c.cells, 26)] w1 := ⟨_, rfl, H⟩
  go_upto_region 4 with (first | ((with_reducible refine wpList_load_ifA rfl 26 _ rfl b rfl 26 _ (0, 0) _ (H.get (List.mem_cons_of_mem _ List.mem_cons_self)) Tryz.underlying26 rfl (Cor.info _) ?_); simp only [Act.put, List.setIfInBounds_toArray, List.set_cons_succ, List.set_cons_zero]) | (go_at_call 23; refine (refRight_c c _).mono ?_; rw [hr]; rintro e wa ⟨rfl, hB⟩; dsimp only; replace H := H.grow hB))
  have hlt0 := (Array.getElem?_eq_some_iff.1 (H.get List.mem_cons_self)).1
  go_upto_region 5 with (first | (go_at_call 24; refine (hdec _).mono ?_; rintro e wa ⟨rfl, hB⟩; dsimp only; replace H := H.grow hB) | ((with_reducible refine wpList_store_new H rfl 47 _ _ rfl i.cells rfl rfl (Ins.infoC i) ?_ (Ins.oneC i) ?_); (focus rfl); intro wb H; simp only [Act.put]))
  have hlt : b + 1 < wa.heap.size := Nat.lt_of_lt_of_le hlt0 hB.size
  generalize wa.heap.size = t7 at H hlt ⊢
  go_upto_region 6 with (first | ((with_reducible refine wpList_load_ifA rfl 26 _ rfl b rfl 26 _ (0, 0) _ (H.get (List.mem_cons_of_mem _ (List.mem_cons_of_mem _ List.mem_cons_self))) Tryz.underlying26 rfl (Cor.info _) ?_); simp only [Act.put, List.setIfInBounds_toArray, List.set_cons_succ, List.set_cons_zero]) | ((with_reducible refine wpList_load_ifA rfl 47 _ rfl t7 rfl 47 _ (0, 0) _ (H.get List.mem_cons_self) Tryz.underlying47 rfl (Ins.infoC i) ?_); simp only [Act.put, List.setIfInBounds_toArray, List.set_cons_succ, List.set_cons_zero]) | (go_at_call 25; refine (qbar_c c i _).mono ?_; rw [hbar]; rintro e wa ⟨rfl, hB⟩; dsimp only; replace H := H.grow hB))
  have H2 : Has w [(b + 1, Z, 30), (t7, i.cells, 47), (b, c.cells, 26)] wa := ⟨H.below, fun p hp => H.box p (by simp at hp ⊢; rcases hp with rfl | rfl | rfl <;> simp)⟩
  replace H := H2
  clear H2
  have hne : ∀ p ∈ [(t7, i.cells, (47 : TypeId)), (b, c.cells, (26 : TypeId))], p.1 ≠ b + 1 := by intro p hp; simp at hp; rcases hp with rfl | rfl <;> simp <;> omega
  have c0 := H.at (b := t7) (t := 47) (c := i.cells) (List.mem_cons_of_mem _ List.mem_cons_self) 0 (.int .i64 i.op) rfl
  rcases ho.out with e | e | e | e | e | e | e | e | e | e | e | e | e | e | e | e | e | e
  all_goals
    rw [e] at c0
    clear e
    go_wp2_with (first | ((with_reducible refine wpList_built_w rfl _ rfl nilW (by kernel_rfl) ?_); simp only [Act.put, List.setIfInBounds_toArray, List.set_cons_succ, List.set_cons_zero]) | ((with_reducible refine wpList_store_w rfl _ _ rfl H hne hZ _ rfl rfl ?_); intro wq H; simp only [Act.put]))
    exact bodyPost_ret (back_wt rfl _ _ _ _ _ _ rfl (H.get List.mem_cons_self)) rfl ⟨rfl, by first | exact H.below | (rw [← hb]; exact H.below)⟩
set_option maxRecDepth 8000 in
set_option maxHeartbeats 8000000 in
theorem qb_const (c : Cor) (word : Int) (i : Ins) (hdec : ∀ w : World, Calls Tryz.prog 24 #[.int .u32 word] w fun e w' => e = .returned i.val ∧ Below w.heap.size w w') (hr : rightC c = true) (hbar : barB c i = false) (V : Wnt) (ho : Hid ((i.op = 25 ∧ V = { nilW with kind := 5 }) ∨ (i.op = 27 ∧ V = { nilW with kind := 7 }) ∨ (i.op = 29 ∧ V = { nilW with kind := 9 }))) (w : World) :
    Calls Tryz.prog 10 #[c.val, .int .u32 word] w fun e w' => e = .returned (.tuple #[(V).val, .bool true]) ∧ Below w.heap.size w w' := by
  go_enter Tryz.func10, Tryz.ntmps10
  go_upto_region 1 with fail
  have H := stwo_start w c.cells #[.int .i64 0, .int .u64 0, .int .u64 0, .int .i64 0, .bool false, .int .i64 0, .bool false, .int .i64 0, .int .i64 0, .int .i64 0] 26 30
  generalize hb : w.heap.size = b at H ⊢
  generalize (w.alloc _).alloc _ = w1 at H ⊢
  obtain ⟨Z, hZ, H⟩ : ∃ Z, Z.size = 10 ∧ Has w [(b + 1, Z, 30), (b, c.cells, 26)] w1 := ⟨_, rfl, H⟩
  go_upto_region 4 with (first | ((with_reducible refine wpList_load_ifA rfl 26 _ rfl b rfl 26 _ (0, 0) _ (H.get (List.mem_cons_of_mem _ List.mem_cons_self)) Tryz.underlying26 rfl (Cor.info _) ?_); simp only [Act.put, List.setIfInBounds_toArray, List.set_cons_succ, List.set_cons_zero]) | (go_at_call 23; refine (refRight_c c _).mono ?_; rw [hr]; rintro e wa ⟨rfl, hB⟩; dsimp only; replace H := H.grow hB))
  have hlt0 := (Array.getElem?_eq_some_iff.1 (H.get List.mem_cons_self)).1
  go_upto_region 5 with (first | (go_at_call 24; refine (hdec _).mono ?_; rintro e wa ⟨rfl, hB⟩; dsimp only; replace H := H.grow hB) | ((with_reducible refine wpList_store_new H rfl 47 _ _ rfl i.cells rfl rfl (Ins.infoC i) ?_ (Ins.oneC i) ?_); (focus rfl); intro wb H; simp only [Act.put]))
  have hlt : b + 1 < wa.heap.size := Nat.lt_of_lt_of_le hlt0 hB.size
  generalize wa.heap.size = t7 at H hlt ⊢
  go_upto_region 6 with (first | ((with_reducible refine wpList_load_ifA rfl 26 _ rfl b rfl 26 _ (0, 0) _ (H.get (List.mem_cons_of_mem _ (List.mem_cons_of_mem _ List.mem_cons_self))) Tryz.underlying26 rfl (Cor.info _) ?_); simp only [Act.put, List.setIfInBounds_toArray, List.set_cons_succ, List.set_cons_zero]) | ((with_reducible refine wpList_load_ifA rfl 47 _ rfl t7 rfl 47 _ (0, 0) _ (H.get List.mem_cons_self) Tryz.underlying47 rfl (Ins.infoC i) ?_); simp only [Act.put, List.setIfInBounds_toArray, List.set_cons_succ, List.set_cons_zero]) | (go_at_call 25; refine (qbar_c c i _).mono ?_; rw [hbar]; rintro e wa ⟨rfl, hB⟩; dsimp only; replace H := H.grow hB))
  have H2 : Has w [(b + 1, Z, 30), (t7, i.cells, 47), (b, c.cells, 26)] wa := ⟨H.below, fun p hp => H.box p (by simp at hp ⊢; rcases hp with rfl | rfl | rfl <;> simp)⟩
  replace H := H2
  clear H2
  have hne : ∀ p ∈ [(t7, i.cells, (47 : TypeId)), (b, c.cells, (26 : TypeId))], p.1 ≠ b + 1 := by intro p hp; simp at hp; rcases hp with rfl | rfl <;> simp <;> omega
  have c0 := H.at (b := t7) (t := 47) (c := i.cells) (List.mem_cons_of_mem _ List.mem_cons_self) 0 (.int .i64 i.op) rfl
  rcases ho.out with ⟨e, rfl⟩ | ⟨e, rfl⟩ | ⟨e, rfl⟩
  all_goals
    rw [e] at c0
    clear e ho
    go_wp2_with (first | ((with_reducible refine wpList_built_w rfl #[(0, .const (.int .i64 5))] rfl { nilW with kind := 5 } (by kernel_rfl) ?_); simp only [Act.put, List.setIfInBounds_toArray, List.set_cons_succ, List.set_cons_zero]) | ((with_reducible refine wpList_built_w rfl #[(0, .const (.int .i64 7))] rfl { nilW with kind := 7 } (by kernel_rfl) ?_); simp only [Act.put, List.setIfInBounds_toArray, List.set_cons_succ, List.set_cons_zero]) | ((with_reducible refine wpList_built_w rfl #[(0, .const (.int .i64 9))] rfl { nilW with kind := 9 } (by kernel_rfl) ?_); simp only [Act.put, List.setIfInBounds_toArray, List.set_cons_succ, List.set_cons_zero]) | ((with_reducible refine wpList_store_w rfl _ _ rfl H hne hZ _ rfl rfl ?_); intro wq H; simp only [Act.put]))
    exact bodyPost_ret (back_wt rfl _ _ _ _ _ _ rfl (H.get List.mem_cons_self)) rfl ⟨rfl, by first | exact H.below | (rw [← hb]; exact H.below)⟩
set_option maxRecDepth 8000 in
set_option maxHeartbeats 8000000 in
theorem qb_exc (c : Cor) (word : Int) (i : Ins) (hdec : ∀ w : World, Calls Tryz.prog 24 #[.int .u32 word] w fun e w' => e = .returned i.val ∧ Below w.heap.size w w') (hr : rightC c = true) (hbar : barB c i = false) (V : Wnt) (ho : Hid ((i.op = 34 ∧ V = { nilW with kind := 15, cls := 21, iss := i.imm }) ∨ (i.op = 35 ∧ V = { nilW with kind := 15, cls := 60, iss := i.imm }))) (w : World) :
    Calls Tryz.prog 10 #[c.val, .int .u32 word] w fun e w' => e = .returned (.tuple #[(V).val, .bool true]) ∧ Below w.heap.size w w' := by
  go_enter Tryz.func10, Tryz.ntmps10
  go_upto_region 1 with fail
  have H := stwo_start w c.cells #[.int .i64 0, .int .u64 0, .int .u64 0, .int .i64 0, .bool false, .int .i64 0, .bool false, .int .i64 0, .int .i64 0, .int .i64 0] 26 30
  generalize hb : w.heap.size = b at H ⊢
  generalize (w.alloc _).alloc _ = w1 at H ⊢
  obtain ⟨Z, hZ, H⟩ : ∃ Z, Z.size = 10 ∧ Has w [(b + 1, Z, 30), (b, c.cells, 26)] w1 := ⟨_, rfl, H⟩
  go_upto_region 4 with (first | ((with_reducible refine wpList_load_ifA rfl 26 _ rfl b rfl 26 _ (0, 0) _ (H.get (List.mem_cons_of_mem _ List.mem_cons_self)) Tryz.underlying26 rfl (Cor.info _) ?_); simp only [Act.put, List.setIfInBounds_toArray, List.set_cons_succ, List.set_cons_zero]) | (go_at_call 23; refine (refRight_c c _).mono ?_; rw [hr]; rintro e wa ⟨rfl, hB⟩; dsimp only; replace H := H.grow hB))
  have hlt0 := (Array.getElem?_eq_some_iff.1 (H.get List.mem_cons_self)).1
  go_upto_region 5 with (first | (go_at_call 24; refine (hdec _).mono ?_; rintro e wa ⟨rfl, hB⟩; dsimp only; replace H := H.grow hB) | ((with_reducible refine wpList_store_new H rfl 47 _ _ rfl i.cells rfl rfl (Ins.infoC i) ?_ (Ins.oneC i) ?_); (focus rfl); intro wb H; simp only [Act.put]))
  have hlt : b + 1 < wa.heap.size := Nat.lt_of_lt_of_le hlt0 hB.size
  generalize wa.heap.size = t7 at H hlt ⊢
  go_upto_region 6 with (first | ((with_reducible refine wpList_load_ifA rfl 26 _ rfl b rfl 26 _ (0, 0) _ (H.get (List.mem_cons_of_mem _ (List.mem_cons_of_mem _ List.mem_cons_self))) Tryz.underlying26 rfl (Cor.info _) ?_); simp only [Act.put, List.setIfInBounds_toArray, List.set_cons_succ, List.set_cons_zero]) | ((with_reducible refine wpList_load_ifA rfl 47 _ rfl t7 rfl 47 _ (0, 0) _ (H.get List.mem_cons_self) Tryz.underlying47 rfl (Ins.infoC i) ?_); simp only [Act.put, List.setIfInBounds_toArray, List.set_cons_succ, List.set_cons_zero]) | (go_at_call 25; refine (qbar_c c i _).mono ?_; rw [hbar]; rintro e wa ⟨rfl, hB⟩; dsimp only; replace H := H.grow hB))
  have H2 : Has w [(b + 1, Z, 30), (t7, i.cells, 47), (b, c.cells, 26)] wa := ⟨H.below, fun p hp => H.box p (by simp at hp ⊢; rcases hp with rfl | rfl | rfl <;> simp)⟩
  replace H := H2
  clear H2
  have hne : ∀ p ∈ [(t7, i.cells, (47 : TypeId)), (b, c.cells, (26 : TypeId))], p.1 ≠ b + 1 := by intro p hp; simp at hp; rcases hp with rfl | rfl <;> simp <;> omega
  have c0 := H.at (b := t7) (t := 47) (c := i.cells) (List.mem_cons_of_mem _ List.mem_cons_self) 0 (.int .i64 i.op) rfl
  have c6 := H.at (b := t7) (t := 47) (c := i.cells) (List.mem_cons_of_mem _ List.mem_cons_self) 6 (.int .i64 i.imm) rfl
  rcases ho.out with ⟨e, rfl⟩ | ⟨e, rfl⟩
  all_goals
    rw [e] at c0
    clear e ho
    go_wp2_with (first | ((with_reducible refine wpList_built_w rfl #[(0, .const (.int .i64 15)), (8, .const (.int .i64 21)), _] rfl { nilW with kind := 15, cls := 21, iss := i.imm } (by kernel_rfl) ?_); simp only [Act.put, List.setIfInBounds_toArray, List.set_cons_succ, List.set_cons_zero]) | ((with_reducible refine wpList_built_w rfl #[(0, .const (.int .i64 15)), (8, .const (.int .i64 60)), _] rfl { nilW with kind := 15, cls := 60, iss := i.imm } (by kernel_rfl) ?_); simp only [Act.put, List.setIfInBounds_toArray, List.set_cons_succ, List.set_cons_zero]) | ((with_reducible refine wpList_store_w rfl _ _ rfl H hne hZ _ rfl rfl ?_); intro wq H; simp only [Act.put]))
    exact bodyPost_ret (back_wt rfl _ _ _ _ _ _ rfl (H.get List.mem_cons_self)) rfl ⟨rfl, by first | exact H.below | (rw [← hb]; exact H.below)⟩
set_option maxRecDepth 8000 in
set_option maxHeartbeats 8000000 in
theorem qb_line (c : Cor) (word : Int) (i : Ins) (hdec : ∀ w : World, Calls Tryz.prog 24 #[.int .u32 word] w fun e w' => e = .returned i.val ∧ Below w.heap.size w w') (hr : rightC c = true) (hbar : barB c i = false) (X Y : Int) (V : Wnt) (ho : Hid ((i.op = 28 ∧ V = { nilW with kind := 8, addr := Y }) ∨ (i.op = 30 ∧ V = { nilW with kind := 10, addr := Y }))) (hX : xV c i.rd = X) (hY : IntKind.u64.wrap (X - X.tmod 64) = Y) (w : World) :
    Calls Tryz.prog 10 #[c.val, .int .u32 word] w fun e w' => e = .returned (.tuple #[(V).val, .bool true]) ∧ Below w.heap.size w w' := by
  go_enter Tryz.func10, Tryz.ntmps10
  go_upto_region 1 with fail
  have H := stwo_start w c.cells #[.int .i64 0, .int .u64 0, .int .u64 0, .int .i64 0, .bool false, .int .i64 0, .bool false, .int .i64 0, .int .i64 0, .int .i64 0] 26 30
  generalize hb : w.heap.size = b at H ⊢
  generalize (w.alloc _).alloc _ = w1 at H ⊢
  obtain ⟨Z, hZ, H⟩ : ∃ Z, Z.size = 10 ∧ Has w [(b + 1, Z, 30), (b, c.cells, 26)] w1 := ⟨_, rfl, H⟩
  go_upto_region 4 with (first | ((with_reducible refine wpList_load_ifA rfl 26 _ rfl b rfl 26 _ (0, 0) _ (H.get (List.mem_cons_of_mem _ List.mem_cons_self)) Tryz.underlying26 rfl (Cor.info _) ?_); simp only [Act.put, List.setIfInBounds_toArray, List.set_cons_succ, List.set_cons_zero]) | (go_at_call 23; refine (refRight_c c _).mono ?_; rw [hr]; rintro e wa ⟨rfl, hB⟩; dsimp only; replace H := H.grow hB))
  have hlt0 := (Array.getElem?_eq_some_iff.1 (H.get List.mem_cons_self)).1
  go_upto_region 5 with (first | (go_at_call 24; refine (hdec _).mono ?_; rintro e wa ⟨rfl, hB⟩; dsimp only; replace H := H.grow hB) | ((with_reducible refine wpList_store_new H rfl 47 _ _ rfl i.cells rfl rfl (Ins.infoC i) ?_ (Ins.oneC i) ?_); (focus rfl); intro wb H; simp only [Act.put]))
  have hlt : b + 1 < wa.heap.size := Nat.lt_of_lt_of_le hlt0 hB.size
  generalize wa.heap.size = t7 at H hlt ⊢
  go_upto_region 6 with (first | ((with_reducible refine wpList_load_ifA rfl 26 _ rfl b rfl 26 _ (0, 0) _ (H.get (List.mem_cons_of_mem _ (List.mem_cons_of_mem _ List.mem_cons_self))) Tryz.underlying26 rfl (Cor.info _) ?_); simp only [Act.put, List.setIfInBounds_toArray, List.set_cons_succ, List.set_cons_zero]) | ((with_reducible refine wpList_load_ifA rfl 47 _ rfl t7 rfl 47 _ (0, 0) _ (H.get List.mem_cons_self) Tryz.underlying47 rfl (Ins.infoC i) ?_); simp only [Act.put, List.setIfInBounds_toArray, List.set_cons_succ, List.set_cons_zero]) | (go_at_call 25; refine (qbar_c c i _).mono ?_; rw [hbar]; rintro e wa ⟨rfl, hB⟩; dsimp only; replace H := H.grow hB))
  have H2 : Has w [(b + 1, Z, 30), (t7, i.cells, 47), (b, c.cells, 26)] wa := ⟨H.below, fun p hp => H.box p (by simp at hp ⊢; rcases hp with rfl | rfl | rfl <;> simp)⟩
  replace H := H2
  clear H2
  have hne : ∀ p ∈ [(t7, i.cells, (47 : TypeId)), (b, c.cells, (26 : TypeId))], p.1 ≠ b + 1 := by intro p hp; simp at hp; rcases hp with rfl | rfl <;> simp <;> omega
  have c0 := H.at (b := t7) (t := 47) (c := i.cells) (List.mem_cons_of_mem _ List.mem_cons_self) 0 (.int .i64 i.op) rfl
  have c2 := H.at (b := t7) (t := 47) (c := i.cells) (List.mem_cons_of_mem _ List.mem_cons_self) 2 (.int .i64 i.rd) rfl
  rcases ho.out with ⟨e, rfl⟩ | ⟨e, rfl⟩
  · replace e := (show Hid _ from e)
    rw [e.out] at c0
    go_wp2_with (first | ((with_reducible refine wpList_load_ifA rfl 26 _ rfl b rfl 26 _ (0, 0) _ (H.get (List.mem_cons_of_mem _ (List.mem_cons_of_mem _ List.mem_cons_self))) Tryz.underlying26 rfl (Cor.info _) ?_); simp only [Act.put, List.setIfInBounds_toArray, List.set_cons_succ, List.set_cons_zero]) | (go_at_call 27; refine (qx_c c _ _).mono ?_; rw [hX]; rintro e2 wa ⟨rfl, hB⟩; dsimp only; replace H := H.grow hB; have c0 := H.at (b := t7) (t := 47) (c := i.cells) (List.mem_cons_of_mem _ List.mem_cons_self) 0 (.int .i64 i.op) rfl; rw [e.out] at c0) | ((with_reducible refine wpList_built_w rfl _ rfl { nilW with kind := 8, addr := Y } (by kernel_rfl) ?_); simp only [Act.put, List.setIfInBounds_toArray, List.set_cons_succ, List.set_cons_zero]) | ((with_reducible refine wpList_store_w rfl _ _ rfl H hne hZ _ rfl rfl ?_); intro wq H; simp only [Act.put]))
    exact bodyPost_ret (back_wt rfl _ _ _ _ _ _ rfl (H.get List.mem_cons_self)) rfl ⟨rfl, by first | exact H.below | (rw [← hb]; exact H.below)⟩
  · replace e := (show Hid _ from e)
    rw [e.out] at c0
    go_wp2_with (first | ((with_reducible refine wpList_load_ifA rfl 26 _ rfl b rfl 26 _ (0, 0) _ (H.get (List.mem_cons_of_mem _ (List.mem_cons_of_mem _ List.mem_cons_self))) Tryz.underlying26 rfl (Cor.info _) ?_); simp only [Act.put, List.setIfInBounds_toArray, List.set_cons_succ, List.set_cons_zero]) | (go_at_call 27; refine (qx_c c _ _).mono ?_; rw [hX]; rintro e2 wa ⟨rfl, hB⟩; dsimp only; replace H := H.grow hB; have c0 := H.at (b := t7) (t := 47) (c := i.cells) (List.mem_cons_of_mem _ List.mem_cons_self) 0 (.int .i64 i.op) rfl; rw [e.out] at c0) | ((with_reducible refine wpList_built_w rfl _ rfl { nilW with kind := 10, addr := Y } (by kernel_rfl) ?_); simp only [Act.put, List.setIfInBounds_toArray, List.set_cons_succ, List.set_cons_zero]) | ((with_reducible refine wpList_store_w rfl _ _ rfl H hne hZ _ rfl rfl ?_); intro wq H; simp only [Act.put]))
    exact bodyPost_ret (back_wt rfl _ _ _ _ _ _ rfl (H.get List.mem_cons_self)) rfl ⟨rfl, by first | exact H.below | (rw [← hb]; exact H.below)⟩
set_option maxRecDepth 8000 in
set_option maxHeartbeats 8000000 in
theorem qb_sys_n (c : Cor) (word : Int) (i : Ins) (hdec : ∀ w : World, Calls Tryz.prog 24 #[.int .u32 word] w fun e w' => e = .returned i.val ∧ Below w.heap.size w w') (hr : rightC c = true) (hbar : barB c i = false) (ho : Hid (i.op = 31 ∨ i.op = 32)) (hd : outB i.sys = false) (w : World) :
    Calls Tryz.prog 10 #[c.val, .int .u32 word] w fun e w' => e = .returned (.tuple #[(nilW).val, .bool true]) ∧ Below w.heap.size w w' := by
  go_enter Tryz.func10, Tryz.ntmps10
  go_upto_region 1 with fail
  have H := stwo_start w c.cells #[.int .i64 0, .int .u64 0, .int .u64 0, .int .i64 0, .bool false, .int .i64 0, .bool false, .int .i64 0, .int .i64 0, .int .i64 0] 26 30
  generalize hb : w.heap.size = b at H ⊢
  generalize (w.alloc _).alloc _ = w1 at H ⊢
  obtain ⟨Z, hZ, H⟩ : ∃ Z, Z.size = 10 ∧ Has w [(b + 1, Z, 30), (b, c.cells, 26)] w1 := ⟨_, rfl, H⟩
  go_upto_region 4 with (first | ((with_reducible refine wpList_load_ifA rfl 26 _ rfl b rfl 26 _ (0, 0) _ (H.get (List.mem_cons_of_mem _ List.mem_cons_self)) Tryz.underlying26 rfl (Cor.info _) ?_); simp only [Act.put, List.setIfInBounds_toArray, List.set_cons_succ, List.set_cons_zero]) | (go_at_call 23; refine (refRight_c c _).mono ?_; rw [hr]; rintro e wa ⟨rfl, hB⟩; dsimp only; replace H := H.grow hB))
  have hlt0 := (Array.getElem?_eq_some_iff.1 (H.get List.mem_cons_self)).1
  go_upto_region 5 with (first | (go_at_call 24; refine (hdec _).mono ?_; rintro e wa ⟨rfl, hB⟩; dsimp only; replace H := H.grow hB) | ((with_reducible refine wpList_store_new H rfl 47 _ _ rfl i.cells rfl rfl (Ins.infoC i) ?_ (Ins.oneC i) ?_); (focus rfl); intro wb H; simp only [Act.put]))
  have hlt : b + 1 < wa.heap.size := Nat.lt_of_lt_of_le hlt0 hB.size
  generalize wa.heap.size = t7 at H hlt ⊢
  go_upto_region 6 with (first | ((with_reducible refine wpList_load_ifA rfl 26 _ rfl b rfl 26 _ (0, 0) _ (H.get (List.mem_cons_of_mem _ (List.mem_cons_of_mem _ List.mem_cons_self))) Tryz.underlying26 rfl (Cor.info _) ?_); simp only [Act.put, List.setIfInBounds_toArray, List.set_cons_succ, List.set_cons_zero]) | ((with_reducible refine wpList_load_ifA rfl 47 _ rfl t7 rfl 47 _ (0, 0) _ (H.get List.mem_cons_self) Tryz.underlying47 rfl (Ins.infoC i) ?_); simp only [Act.put, List.setIfInBounds_toArray, List.set_cons_succ, List.set_cons_zero]) | (go_at_call 25; refine (qbar_c c i _).mono ?_; rw [hbar]; rintro e wa ⟨rfl, hB⟩; dsimp only; replace H := H.grow hB))
  have H2 : Has w [(b + 1, Z, 30), (t7, i.cells, 47), (b, c.cells, 26)] wa := ⟨H.below, fun p hp => H.box p (by simp at hp ⊢; rcases hp with rfl | rfl | rfl <;> simp)⟩
  replace H := H2
  clear H2
  have hne : ∀ p ∈ [(t7, i.cells, (47 : TypeId)), (b, c.cells, (26 : TypeId))], p.1 ≠ b + 1 := by intro p hp; simp at hp; rcases hp with rfl | rfl <;> simp <;> omega
  have c0 := H.at (b := t7) (t := 47) (c := i.cells) (List.mem_cons_of_mem _ List.mem_cons_self) 0 (.int .i64 i.op) rfl
  have c11 := H.at (b := t7) (t := 47) (c := i.cells) (List.mem_cons_of_mem _ List.mem_cons_self) 11 (.int .i64 i.sys) rfl
  rcases ho.out with e | e
  all_goals
    rw [e] at c0
    clear e
    go_wp2_with (first | (go_at_call 28; refine (qdev_c _ _).mono ?_; rw [hd]; rintro e wx ⟨rfl, rfl⟩; dsimp only) | ((with_reducible refine wpList_built_w rfl _ rfl nilW (by kernel_rfl) ?_); simp only [Act.put, List.setIfInBounds_toArray, List.set_cons_succ, List.set_cons_zero]) | ((with_reducible refine wpList_store_w rfl _ _ rfl H hne hZ _ rfl rfl ?_); intro wq H; simp only [Act.put]))
    exact bodyPost_ret (back_wt rfl _ _ _ _ _ _ rfl (H.get List.mem_cons_self)) rfl ⟨rfl, by first | exact H.below | (rw [← hb]; exact H.below)⟩
set_option maxRecDepth 8000 in
set_option maxHeartbeats 8000000 in
theorem qb_31y (c : Cor) (word : Int) (i : Ins) (hdec : ∀ w : World, Calls Tryz.prog 24 #[.int .u32 word] w fun e w' => e = .returned i.val ∧ Below w.heap.size w w') (hr : rightC c = true) (hbar : barB c i = false) (ho : Hid (i.op = 31)) (hd : outB i.sys = true) (w : World) :
    Calls Tryz.prog 10 #[c.val, .int .u32 word] w fun e w' => e = .returned (.tuple #[({ nilW with kind := 11, sys := i.sys }).val, .bool true]) ∧ Below w.heap.size w w' := by
  go_enter Tryz.func10, Tryz.ntmps10
  go_upto_region 1 with fail
  have H := stwo_start w c.cells #[.int .i64 0, .int .u64 0, .int .u64 0, .int .i64 0, .bool false, .int .i64 0, .bool false, .int .i64 0, .int .i64 0, .int .i64 0] 26 30
  generalize hb : w.heap.size = b at H ⊢
  generalize (w.alloc _).alloc _ = w1 at H ⊢
  obtain ⟨Z, hZ, H⟩ : ∃ Z, Z.size = 10 ∧ Has w [(b + 1, Z, 30), (b, c.cells, 26)] w1 := ⟨_, rfl, H⟩
  go_upto_region 4 with (first | ((with_reducible refine wpList_load_ifA rfl 26 _ rfl b rfl 26 _ (0, 0) _ (H.get (List.mem_cons_of_mem _ List.mem_cons_self)) Tryz.underlying26 rfl (Cor.info _) ?_); simp only [Act.put, List.setIfInBounds_toArray, List.set_cons_succ, List.set_cons_zero]) | (go_at_call 23; refine (refRight_c c _).mono ?_; rw [hr]; rintro e wa ⟨rfl, hB⟩; dsimp only; replace H := H.grow hB))
  have hlt0 := (Array.getElem?_eq_some_iff.1 (H.get List.mem_cons_self)).1
  go_upto_region 5 with (first | (go_at_call 24; refine (hdec _).mono ?_; rintro e wa ⟨rfl, hB⟩; dsimp only; replace H := H.grow hB) | ((with_reducible refine wpList_store_new H rfl 47 _ _ rfl i.cells rfl rfl (Ins.infoC i) ?_ (Ins.oneC i) ?_); (focus rfl); intro wb H; simp only [Act.put]))
  have hlt : b + 1 < wa.heap.size := Nat.lt_of_lt_of_le hlt0 hB.size
  generalize wa.heap.size = t7 at H hlt ⊢
  go_upto_region 6 with (first | ((with_reducible refine wpList_load_ifA rfl 26 _ rfl b rfl 26 _ (0, 0) _ (H.get (List.mem_cons_of_mem _ (List.mem_cons_of_mem _ List.mem_cons_self))) Tryz.underlying26 rfl (Cor.info _) ?_); simp only [Act.put, List.setIfInBounds_toArray, List.set_cons_succ, List.set_cons_zero]) | ((with_reducible refine wpList_load_ifA rfl 47 _ rfl t7 rfl 47 _ (0, 0) _ (H.get List.mem_cons_self) Tryz.underlying47 rfl (Ins.infoC i) ?_); simp only [Act.put, List.setIfInBounds_toArray, List.set_cons_succ, List.set_cons_zero]) | (go_at_call 25; refine (qbar_c c i _).mono ?_; rw [hbar]; rintro e wa ⟨rfl, hB⟩; dsimp only; replace H := H.grow hB))
  have H2 : Has w [(b + 1, Z, 30), (t7, i.cells, 47), (b, c.cells, 26)] wa := ⟨H.below, fun p hp => H.box p (by simp at hp ⊢; rcases hp with rfl | rfl | rfl <;> simp)⟩
  replace H := H2
  clear H2
  have hne : ∀ p ∈ [(t7, i.cells, (47 : TypeId)), (b, c.cells, (26 : TypeId))], p.1 ≠ b + 1 := by intro p hp; simp at hp; rcases hp with rfl | rfl <;> simp <;> omega
  have c0 := H.at (b := t7) (t := 47) (c := i.cells) (List.mem_cons_of_mem _ List.mem_cons_self) 0 (.int .i64 i.op) rfl
  rw [ho.out] at c0
  have c11 := H.at (b := t7) (t := 47) (c := i.cells) (List.mem_cons_of_mem _ List.mem_cons_self) 11 (.int .i64 i.sys) rfl
  go_wp2_with (first | (go_at_call 28; refine (qdev_c _ _).mono ?_; rw [hd]; rintro e wx ⟨rfl, rfl⟩; dsimp only) | ((with_reducible refine wpList_built_w rfl _ rfl { nilW with kind := 11, sys := i.sys } (by kernel_rfl) ?_); simp only [Act.put, List.setIfInBounds_toArray, List.set_cons_succ, List.set_cons_zero]) | ((with_reducible refine wpList_store_w rfl _ _ rfl H hne hZ _ rfl rfl ?_); intro wq H; simp only [Act.put]))
  exact bodyPost_ret (back_wt rfl _ _ _ _ _ _ rfl (H.get List.mem_cons_self)) rfl ⟨rfl, by first | exact H.below | (rw [← hb]; exact H.below)⟩
set_option maxRecDepth 8000 in
set_option maxHeartbeats 8000000 in
theorem qb_32y (c : Cor) (word : Int) (i : Ins) (hdec : ∀ w : World, Calls Tryz.prog 24 #[.int .u32 word] w fun e w' => e = .returned i.val ∧ Below w.heap.size w w') (hr : rightC c = true) (hbar : barB c i = false) (ho : Hid (i.op = 32)) (hd : outB i.sys = true) (X : Int) (hX : xV c i.rd = X) (w : World) :
    Calls Tryz.prog 10 #[c.val, .int .u32 word] w fun e w' => e = .returned (.tuple #[({ nilW with kind := 12, sys := i.sys, value := X }).val, .bool true]) ∧ Below w.heap.size w w' := by
  go_enter Tryz.func10, Tryz.ntmps10
  go_upto_region 1 with fail
  have H := stwo_start w c.cells #[.int .i64 0, .int .u64 0, .int .u64 0, .int .i64 0, .bool false, .int .i64 0, .bool false, .int .i64 0, .int .i64 0, .int .i64 0] 26 30
  generalize hb : w.heap.size = b at H ⊢
  generalize (w.alloc _).alloc _ = w1 at H ⊢
  obtain ⟨Z, hZ, H⟩ : ∃ Z, Z.size = 10 ∧ Has w [(b + 1, Z, 30), (b, c.cells, 26)] w1 := ⟨_, rfl, H⟩
  go_upto_region 4 with (first | ((with_reducible refine wpList_load_ifA rfl 26 _ rfl b rfl 26 _ (0, 0) _ (H.get (List.mem_cons_of_mem _ List.mem_cons_self)) Tryz.underlying26 rfl (Cor.info _) ?_); simp only [Act.put, List.setIfInBounds_toArray, List.set_cons_succ, List.set_cons_zero]) | (go_at_call 23; refine (refRight_c c _).mono ?_; rw [hr]; rintro e wa ⟨rfl, hB⟩; dsimp only; replace H := H.grow hB))
  have hlt0 := (Array.getElem?_eq_some_iff.1 (H.get List.mem_cons_self)).1
  go_upto_region 5 with (first | (go_at_call 24; refine (hdec _).mono ?_; rintro e wa ⟨rfl, hB⟩; dsimp only; replace H := H.grow hB) | ((with_reducible refine wpList_store_new H rfl 47 _ _ rfl i.cells rfl rfl (Ins.infoC i) ?_ (Ins.oneC i) ?_); (focus rfl); intro wb H; simp only [Act.put]))
  have hlt : b + 1 < wa.heap.size := Nat.lt_of_lt_of_le hlt0 hB.size
  generalize wa.heap.size = t7 at H hlt ⊢
  go_upto_region 6 with (first | ((with_reducible refine wpList_load_ifA rfl 26 _ rfl b rfl 26 _ (0, 0) _ (H.get (List.mem_cons_of_mem _ (List.mem_cons_of_mem _ List.mem_cons_self))) Tryz.underlying26 rfl (Cor.info _) ?_); simp only [Act.put, List.setIfInBounds_toArray, List.set_cons_succ, List.set_cons_zero]) | ((with_reducible refine wpList_load_ifA rfl 47 _ rfl t7 rfl 47 _ (0, 0) _ (H.get List.mem_cons_self) Tryz.underlying47 rfl (Ins.infoC i) ?_); simp only [Act.put, List.setIfInBounds_toArray, List.set_cons_succ, List.set_cons_zero]) | (go_at_call 25; refine (qbar_c c i _).mono ?_; rw [hbar]; rintro e wa ⟨rfl, hB⟩; dsimp only; replace H := H.grow hB))
  have H2 : Has w [(b + 1, Z, 30), (t7, i.cells, 47), (b, c.cells, 26)] wa := ⟨H.below, fun p hp => H.box p (by simp at hp ⊢; rcases hp with rfl | rfl | rfl <;> simp)⟩
  replace H := H2
  clear H2
  have hne : ∀ p ∈ [(t7, i.cells, (47 : TypeId)), (b, c.cells, (26 : TypeId))], p.1 ≠ b + 1 := by intro p hp; simp at hp; rcases hp with rfl | rfl <;> simp <;> omega
  have c0 := H.at (b := t7) (t := 47) (c := i.cells) (List.mem_cons_of_mem _ List.mem_cons_self) 0 (.int .i64 i.op) rfl
  rw [ho.out] at c0
  have c11 := H.at (b := t7) (t := 47) (c := i.cells) (List.mem_cons_of_mem _ List.mem_cons_self) 11 (.int .i64 i.sys) rfl
  go_upto_region 39 with ((go_at_call 28; refine (qdev_c _ _).mono ?_; rw [hd]; rintro e wx ⟨rfl, rfl⟩; dsimp only))
  refine Rel.wp_region_tail 7 Rel.Grows (fun x => Has w [(b + 1, Z, 30), (t7, i.cells, 47), (b, c.cells, 26)] x) [.inl (.pointer (some ⟨t7, 11, none⟩)), .inl (.int .i64 i.sys), .inl c.val, .inl (.pointer (some ⟨t7, 2, none⟩)), .inl (.int .i64 i.rd), .inl (.int .u64 X), .inl (Wnt.val { nilW with kind := 12, sys := i.sys, value := X })] (by kernel_rfl) (by kernel_rfl) (fun _ _ hh hb => hh.grow hb) (H.grow ⟨rfl, rfl, rfl, Nat.le_refl _, fun _ _ => rfl⟩) (by simp [Rel.upK]) ?_
  refine ⟨fun w1 hC _ => by go_simp; first | exact Below.refl _ _ | exact ⟨Below.refl _ _, rfl⟩, ?_⟩
  simp only [Act.put, List.setIfInBounds_toArray, List.set_cons_succ, List.set_cons_zero]
  refine ⟨fun w1 hC _ => by have hq := hC.at (b := t7) (t := 47) (c := i.cells) (List.mem_cons_of_mem _ List.mem_cons_self) 11 (.int .i64 i.sys) rfl; go_simp; first | exact Below.refl _ _ | exact ⟨Below.refl _ _, rfl⟩, ?_⟩
  simp only [Act.put, List.setIfInBounds_toArray, List.set_cons_succ, List.set_cons_zero]
  refine ⟨fun w1 hC _ => by exact rel_load_c _ rfl b rfl (hC.get (List.mem_cons_of_mem _ (List.mem_cons_of_mem _ List.mem_cons_self))), ?_⟩
  simp only [Act.put, List.setIfInBounds_toArray, List.set_cons_succ, List.set_cons_zero]
  refine ⟨fun w1 hC _ => by go_simp; first | exact Below.refl _ _ | exact ⟨Below.refl _ _, rfl⟩, ?_⟩
  simp only [Act.put, List.setIfInBounds_toArray, List.set_cons_succ, List.set_cons_zero]
  refine ⟨fun w1 hC _ => by have hq := hC.at (b := t7) (t := 47) (c := i.cells) (List.mem_cons_of_mem _ List.mem_cons_self) 2 (.int .i64 i.rd) rfl; go_simp; first | exact Below.refl _ _ | exact ⟨Below.refl _ _, rfl⟩, ?_⟩
  simp only [Act.put, List.setIfInBounds_toArray, List.set_cons_succ, List.set_cons_zero]
  refine ⟨fun w1 hC _ => by go_simp; refine (qx_c c i.rd w1).mono ?_; rintro e w2 ⟨rfl, hb⟩; first | exact ⟨by rw [hX], hb⟩ | exact hb, ?_⟩
  simp only [Act.put, List.setIfInBounds_toArray, List.set_cons_succ, List.set_cons_zero]
  refine ⟨fun w1 hC _ => by exact rel_built_w _ rfl { nilW with kind := 12, sys := i.sys, value := X } (by kernel_rfl), ?_⟩
  simp only [Act.put, List.setIfInBounds_toArray, List.set_cons_succ, List.set_cons_zero]
  clear H
  intro w4 H _
  simp only [List.drop_succ_cons, List.drop_zero]
  go_wp2_with (((with_reducible refine wpList_store_w rfl _ _ rfl H hne hZ _ rfl rfl ?_); intro wq H; simp only [Act.put]))
  exact bodyPost_ret (back_wt rfl _ _ _ _ _ _ rfl (H.get List.mem_cons_self)) rfl ⟨rfl, by first | exact H.below | (rw [← hb]; exact H.below)⟩
set_option maxRecDepth 8000 in
set_option maxHeartbeats 8000000 in
theorem qb_hint (c : Cor) (word : Int) (i : Ins) (hdec : ∀ w : World, Calls Tryz.prog 24 #[.int .u32 word] w fun e w' => e = .returned i.val ∧ Below w.heap.size w w') (hr : rightC c = true) (hbar : barB c i = false) (ho : Hid (i.op = 37)) (V : Wnt) (hh : Hid ((i.imm = 2 ∧ c.event = false ∧ V = { nilW with kind := 13, value := 2 }) ∨ (i.imm = 2 ∧ c.event = true ∧ V = nilW) ∨ (i.imm = 3 ∧ V = { nilW with kind := 13, value := 1 }) ∨ (i.imm = 4 ∧ V = { nilW with kind := 14 }))) (w : World) :
    Calls Tryz.prog 10 #[c.val, .int .u32 word] w fun e w' => e = .returned (.tuple #[(V).val, .bool true]) ∧ Below w.heap.size w w' := by
  go_enter Tryz.func10, Tryz.ntmps10
  go_upto_region 1 with fail
  have H := stwo_start w c.cells #[.int .i64 0, .int .u64 0, .int .u64 0, .int .i64 0, .bool false, .int .i64 0, .bool false, .int .i64 0, .int .i64 0, .int .i64 0] 26 30
  generalize hb : w.heap.size = b at H ⊢
  generalize (w.alloc _).alloc _ = w1 at H ⊢
  obtain ⟨Z, hZ, H⟩ : ∃ Z, Z.size = 10 ∧ Has w [(b + 1, Z, 30), (b, c.cells, 26)] w1 := ⟨_, rfl, H⟩
  go_upto_region 4 with (first | ((with_reducible refine wpList_load_ifA rfl 26 _ rfl b rfl 26 _ (0, 0) _ (H.get (List.mem_cons_of_mem _ List.mem_cons_self)) Tryz.underlying26 rfl (Cor.info _) ?_); simp only [Act.put, List.setIfInBounds_toArray, List.set_cons_succ, List.set_cons_zero]) | (go_at_call 23; refine (refRight_c c _).mono ?_; rw [hr]; rintro e wa ⟨rfl, hB⟩; dsimp only; replace H := H.grow hB))
  have hlt0 := (Array.getElem?_eq_some_iff.1 (H.get List.mem_cons_self)).1
  go_upto_region 5 with (first | (go_at_call 24; refine (hdec _).mono ?_; rintro e wa ⟨rfl, hB⟩; dsimp only; replace H := H.grow hB) | ((with_reducible refine wpList_store_new H rfl 47 _ _ rfl i.cells rfl rfl (Ins.infoC i) ?_ (Ins.oneC i) ?_); (focus rfl); intro wb H; simp only [Act.put]))
  have hlt : b + 1 < wa.heap.size := Nat.lt_of_lt_of_le hlt0 hB.size
  generalize wa.heap.size = t7 at H hlt ⊢
  go_upto_region 6 with (first | ((with_reducible refine wpList_load_ifA rfl 26 _ rfl b rfl 26 _ (0, 0) _ (H.get (List.mem_cons_of_mem _ (List.mem_cons_of_mem _ List.mem_cons_self))) Tryz.underlying26 rfl (Cor.info _) ?_); simp only [Act.put, List.setIfInBounds_toArray, List.set_cons_succ, List.set_cons_zero]) | ((with_reducible refine wpList_load_ifA rfl 47 _ rfl t7 rfl 47 _ (0, 0) _ (H.get List.mem_cons_self) Tryz.underlying47 rfl (Ins.infoC i) ?_); simp only [Act.put, List.setIfInBounds_toArray, List.set_cons_succ, List.set_cons_zero]) | (go_at_call 25; refine (qbar_c c i _).mono ?_; rw [hbar]; rintro e wa ⟨rfl, hB⟩; dsimp only; replace H := H.grow hB))
  have H2 : Has w [(b + 1, Z, 30), (t7, i.cells, 47), (b, c.cells, 26)] wa := ⟨H.below, fun p hp => H.box p (by simp at hp ⊢; rcases hp with rfl | rfl | rfl <;> simp)⟩
  replace H := H2
  clear H2
  have hne : ∀ p ∈ [(t7, i.cells, (47 : TypeId)), (b, c.cells, (26 : TypeId))], p.1 ≠ b + 1 := by intro p hp; simp at hp; rcases hp with rfl | rfl <;> simp <;> omega
  have c0 := H.at (b := t7) (t := 47) (c := i.cells) (List.mem_cons_of_mem _ List.mem_cons_self) 0 (.int .i64 i.op) rfl
  rw [ho.out] at c0
  have c6 := H.at (b := t7) (t := 47) (c := i.cells) (List.mem_cons_of_mem _ List.mem_cons_self) 6 (.int .i64 i.imm) rfl
  have c48 := H.at (b := b) (t := 26) (c := c.cells) (List.mem_cons_of_mem _ (List.mem_cons_of_mem _ List.mem_cons_self)) 48 (.bool c.event) c.a48
  rcases hh.out with ⟨e, e2, rfl⟩ | ⟨e, e2, rfl⟩ | ⟨e, rfl⟩ | ⟨e, rfl⟩
  all_goals
    try (rw [e2] at c48; clear e2)
    rw [e] at c6
    clear e hh
    go_wp2_with (first | ((with_reducible refine wpList_built_w rfl #[] rfl nilW (by kernel_rfl) ?_); simp only [Act.put, List.setIfInBounds_toArray, List.set_cons_succ, List.set_cons_zero]) | ((with_reducible refine wpList_built_w rfl #[_, (2, .const (.int .u64 2))] rfl { nilW with kind := 13, value := 2 } (by kernel_rfl) ?_); simp only [Act.put, List.setIfInBounds_toArray, List.set_cons_succ, List.set_cons_zero]) | ((with_reducible refine wpList_built_w rfl #[_, (2, .const (.int .u64 1))] rfl { nilW with kind := 13, value := 1 } (by kernel_rfl) ?_); simp only [Act.put, List.setIfInBounds_toArray, List.set_cons_succ, List.set_cons_zero]) | ((with_reducible refine wpList_built_w rfl #[(0, .const (.int .i64 14))] rfl { nilW with kind := 14 } (by kernel_rfl) ?_); simp only [Act.put, List.setIfInBounds_toArray, List.set_cons_succ, List.set_cons_zero]) | ((with_reducible refine wpList_store_w rfl _ _ rfl H hne hZ _ rfl rfl ?_); intro wq H; simp only [Act.put]))
    exact bodyPost_ret (back_wt rfl _ _ _ _ _ _ rfl (H.get List.mem_cons_self)) rfl ⟨rfl, by first | exact H.below | (rw [← hb]; exact H.below)⟩
set_option maxRecDepth 8000 in
set_option maxHeartbeats 8000000 in
theorem qb_37_0 (c : Cor) (word : Int) (i : Ins) (hdec : ∀ w : World, Calls Tryz.prog 24 #[.int .u32 word] w fun e w' => e = .returned i.val ∧ Below w.heap.size w w') (hr : rightC c = true) (hbar : barB c i = false) (ho : Hid (i.op = 37)) (h2 : (i.imm == 2) = false) (h3 : (i.imm == 3) = false) (h4 : (i.imm == 4) = false) (w : World) :
    Calls Tryz.prog 10 #[c.val, .int .u32 word] w fun e w' => e = .returned (.tuple #[(nilW).val, .bool true]) ∧ Below w.heap.size w w' := by
  go_enter Tryz.func10, Tryz.ntmps10
  go_upto_region 1 with fail
  have H := stwo_start w c.cells #[.int .i64 0, .int .u64 0, .int .u64 0, .int .i64 0, .bool false, .int .i64 0, .bool false, .int .i64 0, .int .i64 0, .int .i64 0] 26 30
  generalize hb : w.heap.size = b at H ⊢
  generalize (w.alloc _).alloc _ = w1 at H ⊢
  obtain ⟨Z, hZ, H⟩ : ∃ Z, Z.size = 10 ∧ Has w [(b + 1, Z, 30), (b, c.cells, 26)] w1 := ⟨_, rfl, H⟩
  go_upto_region 4 with (first | ((with_reducible refine wpList_load_ifA rfl 26 _ rfl b rfl 26 _ (0, 0) _ (H.get (List.mem_cons_of_mem _ List.mem_cons_self)) Tryz.underlying26 rfl (Cor.info _) ?_); simp only [Act.put, List.setIfInBounds_toArray, List.set_cons_succ, List.set_cons_zero]) | (go_at_call 23; refine (refRight_c c _).mono ?_; rw [hr]; rintro e wa ⟨rfl, hB⟩; dsimp only; replace H := H.grow hB))
  have hlt0 := (Array.getElem?_eq_some_iff.1 (H.get List.mem_cons_self)).1
  go_upto_region 5 with (first | (go_at_call 24; refine (hdec _).mono ?_; rintro e wa ⟨rfl, hB⟩; dsimp only; replace H := H.grow hB) | ((with_reducible refine wpList_store_new H rfl 47 _ _ rfl i.cells rfl rfl (Ins.infoC i) ?_ (Ins.oneC i) ?_); (focus rfl); intro wb H; simp only [Act.put]))
  have hlt : b + 1 < wa.heap.size := Nat.lt_of_lt_of_le hlt0 hB.size
  generalize wa.heap.size = t7 at H hlt ⊢
  go_upto_region 6 with (first | ((with_reducible refine wpList_load_ifA rfl 26 _ rfl b rfl 26 _ (0, 0) _ (H.get (List.mem_cons_of_mem _ (List.mem_cons_of_mem _ List.mem_cons_self))) Tryz.underlying26 rfl (Cor.info _) ?_); simp only [Act.put, List.setIfInBounds_toArray, List.set_cons_succ, List.set_cons_zero]) | ((with_reducible refine wpList_load_ifA rfl 47 _ rfl t7 rfl 47 _ (0, 0) _ (H.get List.mem_cons_self) Tryz.underlying47 rfl (Ins.infoC i) ?_); simp only [Act.put, List.setIfInBounds_toArray, List.set_cons_succ, List.set_cons_zero]) | (go_at_call 25; refine (qbar_c c i _).mono ?_; rw [hbar]; rintro e wa ⟨rfl, hB⟩; dsimp only; replace H := H.grow hB))
  have H2 : Has w [(b + 1, Z, 30), (t7, i.cells, 47), (b, c.cells, 26)] wa := ⟨H.below, fun p hp => H.box p (by simp at hp ⊢; rcases hp with rfl | rfl | rfl <;> simp)⟩
  replace H := H2
  clear H2
  have hne : ∀ p ∈ [(t7, i.cells, (47 : TypeId)), (b, c.cells, (26 : TypeId))], p.1 ≠ b + 1 := by intro p hp; simp at hp; rcases hp with rfl | rfl <;> simp <;> omega
  have c0 := H.at (b := t7) (t := 47) (c := i.cells) (List.mem_cons_of_mem _ List.mem_cons_self) 0 (.int .i64 i.op) rfl
  rw [ho.out] at c0
  have c6 := H.at (b := t7) (t := 47) (c := i.cells) (List.mem_cons_of_mem _ List.mem_cons_self) 6 (.int .i64 i.imm) rfl
  have c48 := H.at (b := b) (t := 26) (c := c.cells) (List.mem_cons_of_mem _ (List.mem_cons_of_mem _ List.mem_cons_self)) 48 (.bool c.event) c.a48
  go_wp2_with (first | ((with_reducible refine wpList_built_w rfl _ rfl nilW (by kernel_rfl) ?_); simp only [Act.put, List.setIfInBounds_toArray, List.set_cons_succ, List.set_cons_zero]) | ((with_reducible refine wpList_store_w rfl _ _ rfl H hne hZ _ rfl rfl ?_); intro wq H; simp only [Act.put]))
  exact bodyPost_ret (back_wt rfl _ _ _ _ _ _ rfl (H.get List.mem_cons_self)) rfl ⟨rfl, by first | exact H.below | (rw [← hb]; exact H.below)⟩
end Go.Proofs.YtbjcdpmhmebjnaaGreat
/- The document's own Begin of a barrier: contracts. -/
namespace Go.Proofs.YtbjcdpmhmebjnaaGreat
open Go.RowKit
set_option linter.unusedVariables false

def SlF (n : Nat) (v : Value) (w : World) : Prop := ∃ z : Nat, v = .slice (some ⟨z, 0, none⟩) 4 4 ∧ n < z ∧ w.heap[z]? = some (.cells #[.int .i64 0, .int .i64 13, .int .i64 10, .int .i64 15] 3)
theorem slF_up (n : Nat) (v : Value) : Rel.Up Rel.Grows (SlF n v) := fun _ _ ⟨z, e, hn, hh⟩ hb => ⟨z, e, hn, keep_row hh hb⟩
def PtF (j : Nat) (f : Int) (v : Value) (w : World) : Prop := ∃ z : Nat, v = .pointer (some ⟨z, j, none⟩) ∧ w.cell? ⟨z, j, none⟩ = some (.int .i64 f)
theorem ptF_up (j : Nat) (f : Int) (v : Value) : Rel.Up Rel.Grows (PtF j f v) := fun _ _ ⟨z, e, hh⟩ hb => ⟨z, e, keep_cell hh hb⟩
set_option maxRecDepth 8000 in
set_option maxHeartbeats 8000000 in
theorem qb_26 (c : Cor) (word : Int) (i : Ins) (hdec : ∀ w : World, Calls Tryz.prog 24 #[.int .u32 word] w fun e w' => e = .returned i.val ∧ Below w.heap.size w w') (hr : rightC c = true) (hbar : barB c i = false) (ho : Hid (i.op = 26)) (j : Nat) (f : Int) (hj : j < 4) (hi : Hid (i.imm = (j : Int))) (hf : (#[.int .i64 0, .int .i64 13, .int .i64 10, .int .i64 15] : Array Value)[j]? = some (.int .i64 f)) (w : World) :
    Calls Tryz.prog 10 #[c.val, .int .u32 word] w fun e w' => e = .returned (.tuple #[({ nilW with kind := 6, fence := f, dsb := i.sub == 1 }).val, .bool true]) ∧ Below w.heap.size w w' := by
  go_enter Tryz.func10, Tryz.ntmps10
  go_upto_region 1 with fail
  have H := stwo_start w c.cells #[.int .i64 0, .int .u64 0, .int .u64 0, .int .i64 0, .bool false, .int .i64 0, .bool false, .int .i64 0, .int .i64 0, .int .i64 0] 26 30
  generalize hb : w.heap.size = b at H ⊢
  generalize (w.alloc _).alloc _ = w1 at H ⊢
  obtain ⟨Z, hZ, H⟩ : ∃ Z, Z.size = 10 ∧ Has w [(b + 1, Z, 30), (b, c.cells, 26)] w1 := ⟨_, rfl, H⟩
  go_upto_region 4 with (first | ((with_reducible refine wpList_load_ifA rfl 26 _ rfl b rfl 26 _ (0, 0) _ (H.get (List.mem_cons_of_mem _ List.mem_cons_self)) Tryz.underlying26 rfl (Cor.info _) ?_); simp only [Act.put, List.setIfInBounds_toArray, List.set_cons_succ, List.set_cons_zero]) | (go_at_call 23; refine (refRight_c c _).mono ?_; rw [hr]; rintro e wa ⟨rfl, hB⟩; dsimp only; replace H := H.grow hB))
  have hlt0 := (Array.getElem?_eq_some_iff.1 (H.get List.mem_cons_self)).1
  go_upto_region 5 with (first | (go_at_call 24; refine (hdec _).mono ?_; rintro e wa ⟨rfl, hB⟩; dsimp only; replace H := H.grow hB) | ((with_reducible refine wpList_store_new H rfl 47 _ _ rfl i.cells rfl rfl (Ins.infoC i) ?_ (Ins.oneC i) ?_); (focus rfl); intro wb H; simp only [Act.put]))
  have hlt : b + 1 < wa.heap.size := Nat.lt_of_lt_of_le hlt0 hB.size
  generalize wa.heap.size = t7 at H hlt ⊢
  go_upto_region 6 with (first | ((with_reducible refine wpList_load_ifA rfl 26 _ rfl b rfl 26 _ (0, 0) _ (H.get (List.mem_cons_of_mem _ (List.mem_cons_of_mem _ List.mem_cons_self))) Tryz.underlying26 rfl (Cor.info _) ?_); simp only [Act.put, List.setIfInBounds_toArray, List.set_cons_succ, List.set_cons_zero]) | ((with_reducible refine wpList_load_ifA rfl 47 _ rfl t7 rfl 47 _ (0, 0) _ (H.get List.mem_cons_self) Tryz.underlying47 rfl (Ins.infoC i) ?_); simp only [Act.put, List.setIfInBounds_toArray, List.set_cons_succ, List.set_cons_zero]) | (go_at_call 25; refine (qbar_c c i _).mono ?_; rw [hbar]; rintro e wa ⟨rfl, hB⟩; dsimp only; replace H := H.grow hB))
  have H2 : Has w [(b + 1, Z, 30), (t7, i.cells, 47), (b, c.cells, 26)] wa := ⟨H.below, fun p hp => H.box p (by simp at hp ⊢; rcases hp with rfl | rfl | rfl <;> simp)⟩
  replace H := H2
  clear H2
  have hne : ∀ p ∈ [(t7, i.cells, (47 : TypeId)), (b, c.cells, (26 : TypeId))], p.1 ≠ b + 1 := by intro p hp; simp at hp; rcases hp with rfl | rfl <;> simp <;> omega
  have c0 := H.at (b := t7) (t := 47) (c := i.cells) (List.mem_cons_of_mem _ List.mem_cons_self) 0 (.int .i64 i.op) rfl
  rw [ho.out] at c0
  go_upto_region 21 with fail
  refine Rel.wp_region_tail 9 Rel.Grows (fun x => Has w [(b + 1, Z, 30), (t7, i.cells, 47), (b, c.cells, 26)] x) [.inr (SlF (b + 1)), .inl (.pointer (some ⟨t7, 6, none⟩)), .inl (.int .i64 (j : Int)), .inr (PtF j f), .inl (.int .i64 f), .inl (.pointer (some ⟨t7, 1, none⟩)), .inl (.int .i64 i.sub), .inl (.bool (i.sub == 1)), .inl (Wnt.val { nilW with kind := 6, fence := f, dsb := i.sub == 1 })] (by kernel_rfl) (by kernel_rfl) (fun _ _ hh hb => hh.grow hb) (H.grow ⟨rfl, rfl, rfl, Nat.le_refl _, fun _ _ => rfl⟩) (by simp only [List.mem_cons, List.not_mem_nil, or_false]; rintro k hk; rcases hk with rfl | rfl | rfl | rfl | rfl | rfl | rfl | rfl | rfl <;> first | trivial | exact fun v => slF_up _ v | exact fun v => ptF_up _ _ v) ?_
  refine ⟨fun w1 hC _ => ?_, fun v0 => ?_⟩
  · have hl := (Array.getElem?_eq_some_iff.1 (hC.get List.mem_cons_self)).1
    go_simp
    exact ⟨r_below_alloc _ _, _, rfl, hl, heap_alloc_new _ _⟩
  simp only [Act.put, List.setIfInBounds_toArray, List.set_cons_succ, List.set_cons_zero]
  refine ⟨fun w1 hC _ => by go_simp; exact Below.refl _ _, ?_⟩
  simp only [Act.put, List.setIfInBounds_toArray, List.set_cons_succ, List.set_cons_zero]
  refine ⟨fun w1 hC _ => by have hq := hC.at (b := t7) (t := 47) (c := i.cells) (List.mem_cons_of_mem _ List.mem_cons_self) 6 (.int .i64 i.imm) rfl; rw [hi.out] at hq; go_simp; exact Below.refl _ _, ?_⟩
  simp only [Act.put, List.setIfInBounds_toArray, List.set_cons_succ, List.set_cons_zero]
  refine ⟨fun w1 hC hF => ?_, fun v3 => ?_⟩
  · obtain ⟨z, rfl, hz, hr2⟩ := (hF 0 (by kernel_rfl)).1 rfl
    have hc := (cell_of_row _ z j _ _ _ hr2).trans hf
    have hj1 : (j : Int) < 4 := by omega
    go_simp
    exact ⟨Below.refl _ _, z, rfl, hc⟩
  simp only [Act.put, List.setIfInBounds_toArray, List.set_cons_succ, List.set_cons_zero]
  refine ⟨fun w1 hC hF => ?_, ?_⟩
  · obtain ⟨z, rfl, hc⟩ := (hF 3 (by kernel_rfl)).1 rfl
    go_simp
    exact Below.refl _ _
  simp only [Act.put, List.setIfInBounds_toArray, List.set_cons_succ, List.set_cons_zero]
  refine ⟨fun w1 hC _ => by go_simp; exact Below.refl _ _, ?_⟩
  simp only [Act.put, List.setIfInBounds_toArray, List.set_cons_succ, List.set_cons_zero]
  refine ⟨fun w1 hC _ => by have hq := hC.at (b := t7) (t := 47) (c := i.cells) (List.mem_cons_of_mem _ List.mem_cons_self) 1 (.int .i64 i.sub) rfl; go_simp; exact Below.refl _ _, ?_⟩
  simp only [Act.put, List.setIfInBounds_toArray, List.set_cons_succ, List.set_cons_zero]
  refine ⟨fun w1 hC _ => by go_simp; first | exact Below.refl _ _ | exact ⟨Below.refl _ _, rfl⟩, ?_⟩
  simp only [Act.put, List.setIfInBounds_toArray, List.set_cons_succ, List.set_cons_zero]
  refine ⟨fun w1 hC _ => rel_built_w _ rfl { nilW with kind := 6, fence := f, dsb := i.sub == 1 } (by kernel_rfl), ?_⟩
  simp only [Act.put, List.setIfInBounds_toArray, List.set_cons_succ, List.set_cons_zero]
  clear H
  intro w4 H _
  simp only [List.drop_succ_cons, List.drop_zero]
  go_wp2_with (((with_reducible refine wpList_store_w rfl _ _ rfl H hne hZ _ rfl rfl ?_); intro wq H; simp only [Act.put]))
  exact bodyPost_ret (back_wt rfl _ _ _ _ _ _ rfl (H.get List.mem_cons_self)) rfl ⟨rfl, by first | exact H.below | (rw [← hb]; exact H.below)⟩
end Go.Proofs.YtbjcdpmhmebjnaaGreat
