/- SemReads returns true: its walk. -/
import Derived.Test.YtbjcdpmhmebjnaaGreatC23
import Derived.Test.YtbjcdpmhmebjnaaGreatC24
import Derived.Test.YtbjcdpmhmebjnaaGreatC25
import Derived.Test.YtbjcdpmhmebjnaaGreatC26
namespace Go.Proofs.YtbjcdpmhmebjnaaGreat.semReads
open Go.RowKit
set_option linter.unusedVariables false

set_option maxRecDepth 8000 in
set_option maxHeartbeats 8000000 in
theorem skip_a (c : Cor) (word : Int) (i : Ins) (k : Gt) (o q : Int) (r : Nat) (V : Wnt) (E : Int) (hr : r < 31) (hq : Hid ((q < 0 ∧ -9223372036854775808 ≤ q ∧ (-(q + 1)).tmod 31 = (r : Int)) ∨ (0 ≤ q ∧ q.tmod 31 = (r : Int))))
    (hbeg : ∀ w : World, Calls Tryz.prog 9 #[c.val, .int .u32 word] w fun e w' => e = .returned (.tuple #[V.val, .int .i64 E]) ∧ Below w.heap.size w w') (hdec : ∀ w : World, Calls Tryz.prog 15 #[.int .u32 word] w fun e w' => e = .returned i.val ∧ Below w.heap.size w w') (hB1 : (setOf i (readsV i)).testBit r = true) (B2 : Bool) (hB2 : (setOf i (writesV i)).testBit r = B2) (w : World) :
    Calls Tryz.prog 6 #[c.val, .int .u32 word, k.val, .int .u64 o, .int .i64 q] w fun e w' => e = .returned (.bool true) ∧ Below w.heap.size w w' := by
  go_enter Tryz.func6, Tryz.ntmps6
  go_upto_region 1 with fail
  have H := stwo_start w c.cells k.cells 26 40
  generalize hb : w.heap.size = b at H ⊢
  generalize (w.alloc _).alloc _ = w0 at H ⊢
  go_upto_region 2 with (go_at_call 8; refine (examples_c _).mono ?_; rintro e wa ⟨rfl, hB⟩; dsimp only; replace H := H.grow hB)
  rcases hq.out with ⟨hq0, hq1, hq2⟩ | ⟨hq0, hq2⟩
  · go_upto_region 5 with fail
    go_upto_region 6 with (first | (go_at_call 15; refine (hdec _).mono ?_; rintro e wa ⟨rfl, hB⟩; dsimp only; replace H := H.grow hB) | ((with_reducible refine wpList_store_new H rfl 47 _ _ rfl i.cells rfl rfl (Ins.infoC i) ?_ (Ins.oneC i) ?_); (focus rfl); intro wb H; simp only [Act.put]))
    generalize wa.heap.size = t12 at H ⊢
    go_upto_region 7 with (first | ((with_reducible refine wpList_load_ifA rfl 47 _ rfl t12 rfl 47 _ (0, 0) _ (H.get List.mem_cons_self) Tryz.underlying47 rfl (Ins.infoC i) ?_); simp only [Act.put, List.setIfInBounds_toArray, List.set_cons_succ, List.set_cons_zero]) | (go_at_call 19; refine (Reads_c i _).mono ?_; rintro e wa ⟨vv, rfl, hown, hB⟩; dsimp only; replace H := H.grow hB) | (go_at_call 17; refine (in_row hown r (by omega)).mono ?_; rw [hB1]; rintro e wz ⟨rfl, rfl⟩; dsimp only))
    go_upto_region 8 with (first | ((with_reducible refine wpList_load_ifA rfl 47 _ rfl t12 rfl 47 _ (0, 0) _ (H.get List.mem_cons_self) Tryz.underlying47 rfl (Ins.infoC i) ?_); simp only [Act.put, List.setIfInBounds_toArray, List.set_cons_succ, List.set_cons_zero]) | (go_at_call 16; refine (Writes_c i _).mono ?_; rintro e wa ⟨vv, rfl, hown, hB⟩; dsimp only; replace H := H.grow hB) | (go_at_call 17; refine (in_row hown r (by omega)).mono ?_; rw [hB2]; rintro e wz ⟨rfl, rfl⟩; dsimp only))
    go_upto_region 9 with (first | ((with_reducible refine wpList_load_ifA rfl 26 _ rfl b rfl 26 _ (0, 0) _ (H.get (List.mem_cons_of_mem _ (List.mem_cons_of_mem _ List.mem_cons_self))) Tryz.underlying26 rfl (Cor.info _) ?_); simp only [Act.put, List.setIfInBounds_toArray, List.set_cons_succ, List.set_cons_zero]) | (go_at_call 9; refine (hbeg _).mono ?_; rintro e wa ⟨rfl, hB⟩; dsimp only; replace H := H.grow hB) | ((with_reducible refine wpList_store_new H rfl 30 _ _ rfl V.cells rfl rfl (Wnt.info _) ?_ (Wnt.one _) ?_); (focus rfl); intro wb H; simp only [Act.put]))
    generalize wa.heap.size = t15 at H ⊢
    have o0 := H.at (b := t12) (t := 47) (c := i.cells) (List.mem_cons_of_mem _ List.mem_cons_self) 0 (.int .i64 i.op) rfl
    have k0 := H.at (b := t15) (t := 30) (c := V.cells) List.mem_cons_self 0 (.int .i64 V.kind) rfl
    have g2 := H.at (b := b + 1) (t := 40) (c := k.cells) (List.mem_cons_of_mem _ (List.mem_cons_of_mem _ List.mem_cons_self)) 2 (.int .i64 k.fault) rfl
    go_wp2
    go_ret
    exact ⟨rfl, by first | exact H.below | (rw [← hb]; exact H.below)⟩
  · go_upto_region 5 with fail
    go_upto_region 6 with (first | (go_at_call 15; refine (hdec _).mono ?_; rintro e wa ⟨rfl, hB⟩; dsimp only; replace H := H.grow hB) | ((with_reducible refine wpList_store_new H rfl 47 _ _ rfl i.cells rfl rfl (Ins.infoC i) ?_ (Ins.oneC i) ?_); (focus rfl); intro wb H; simp only [Act.put]))
    generalize wa.heap.size = t12 at H ⊢
    go_upto_region 7 with (first | ((with_reducible refine wpList_load_ifA rfl 47 _ rfl t12 rfl 47 _ (0, 0) _ (H.get List.mem_cons_self) Tryz.underlying47 rfl (Ins.infoC i) ?_); simp only [Act.put, List.setIfInBounds_toArray, List.set_cons_succ, List.set_cons_zero]) | (go_at_call 19; refine (Reads_c i _).mono ?_; rintro e wa ⟨vv, rfl, hown, hB⟩; dsimp only; replace H := H.grow hB) | (go_at_call 17; refine (in_row hown r (by omega)).mono ?_; rw [hB1]; rintro e wz ⟨rfl, rfl⟩; dsimp only))
    go_upto_region 8 with (first | ((with_reducible refine wpList_load_ifA rfl 47 _ rfl t12 rfl 47 _ (0, 0) _ (H.get List.mem_cons_self) Tryz.underlying47 rfl (Ins.infoC i) ?_); simp only [Act.put, List.setIfInBounds_toArray, List.set_cons_succ, List.set_cons_zero]) | (go_at_call 16; refine (Writes_c i _).mono ?_; rintro e wa ⟨vv, rfl, hown, hB⟩; dsimp only; replace H := H.grow hB) | (go_at_call 17; refine (in_row hown r (by omega)).mono ?_; rw [hB2]; rintro e wz ⟨rfl, rfl⟩; dsimp only))
    go_upto_region 9 with (first | ((with_reducible refine wpList_load_ifA rfl 26 _ rfl b rfl 26 _ (0, 0) _ (H.get (List.mem_cons_of_mem _ (List.mem_cons_of_mem _ List.mem_cons_self))) Tryz.underlying26 rfl (Cor.info _) ?_); simp only [Act.put, List.setIfInBounds_toArray, List.set_cons_succ, List.set_cons_zero]) | (go_at_call 9; refine (hbeg _).mono ?_; rintro e wa ⟨rfl, hB⟩; dsimp only; replace H := H.grow hB) | ((with_reducible refine wpList_store_new H rfl 30 _ _ rfl V.cells rfl rfl (Wnt.info _) ?_ (Wnt.one _) ?_); (focus rfl); intro wb H; simp only [Act.put]))
    generalize wa.heap.size = t15 at H ⊢
    have o0 := H.at (b := t12) (t := 47) (c := i.cells) (List.mem_cons_of_mem _ List.mem_cons_self) 0 (.int .i64 i.op) rfl
    have k0 := H.at (b := t15) (t := 30) (c := V.cells) List.mem_cons_self 0 (.int .i64 V.kind) rfl
    have g2 := H.at (b := b + 1) (t := 40) (c := k.cells) (List.mem_cons_of_mem _ (List.mem_cons_of_mem _ List.mem_cons_self)) 2 (.int .i64 k.fault) rfl
    go_wp2
    go_ret
    exact ⟨rfl, by first | exact H.below | (rw [← hb]; exact H.below)⟩
set_option maxRecDepth 8000 in
set_option maxHeartbeats 8000000 in
theorem skip_b (c : Cor) (word : Int) (i : Ins) (k : Gt) (o q : Int) (r : Nat) (V : Wnt) (E : Int) (hr : r < 31) (hq : Hid ((q < 0 ∧ -9223372036854775808 ≤ q ∧ (-(q + 1)).tmod 31 = (r : Int)) ∨ (0 ≤ q ∧ q.tmod 31 = (r : Int))))
    (hbeg : ∀ w : World, Calls Tryz.prog 9 #[c.val, .int .u32 word] w fun e w' => e = .returned (.tuple #[V.val, .int .i64 E]) ∧ Below w.heap.size w w') (hdec : ∀ w : World, Calls Tryz.prog 15 #[.int .u32 word] w fun e w' => e = .returned i.val ∧ Below w.heap.size w w') (hB1 : (setOf i (readsV i)).testBit r = false) (B2 : Bool) (hB2 : (setOf i (writesV i)).testBit r = B2) (hop : i.op = 0) (w : World) :
    Calls Tryz.prog 6 #[c.val, .int .u32 word, k.val, .int .u64 o, .int .i64 q] w fun e w' => e = .returned (.bool true) ∧ Below w.heap.size w w' := by
  go_enter Tryz.func6, Tryz.ntmps6
  go_upto_region 1 with fail
  have H := stwo_start w c.cells k.cells 26 40
  generalize hb : w.heap.size = b at H ⊢
  generalize (w.alloc _).alloc _ = w0 at H ⊢
  go_upto_region 2 with (go_at_call 8; refine (examples_c _).mono ?_; rintro e wa ⟨rfl, hB⟩; dsimp only; replace H := H.grow hB)
  rcases hq.out with ⟨hq0, hq1, hq2⟩ | ⟨hq0, hq2⟩
  · go_upto_region 5 with fail
    go_upto_region 6 with (first | (go_at_call 15; refine (hdec _).mono ?_; rintro e wa ⟨rfl, hB⟩; dsimp only; replace H := H.grow hB) | ((with_reducible refine wpList_store_new H rfl 47 _ _ rfl i.cells rfl rfl (Ins.infoC i) ?_ (Ins.oneC i) ?_); (focus rfl); intro wb H; simp only [Act.put]))
    generalize wa.heap.size = t12 at H ⊢
    go_upto_region 7 with (first | ((with_reducible refine wpList_load_ifA rfl 47 _ rfl t12 rfl 47 _ (0, 0) _ (H.get List.mem_cons_self) Tryz.underlying47 rfl (Ins.infoC i) ?_); simp only [Act.put, List.setIfInBounds_toArray, List.set_cons_succ, List.set_cons_zero]) | (go_at_call 19; refine (Reads_c i _).mono ?_; rintro e wa ⟨vv, rfl, hown, hB⟩; dsimp only; replace H := H.grow hB) | (go_at_call 17; refine (in_row hown r (by omega)).mono ?_; rw [hB1]; rintro e wz ⟨rfl, rfl⟩; dsimp only))
    go_upto_region 8 with (first | ((with_reducible refine wpList_load_ifA rfl 47 _ rfl t12 rfl 47 _ (0, 0) _ (H.get List.mem_cons_self) Tryz.underlying47 rfl (Ins.infoC i) ?_); simp only [Act.put, List.setIfInBounds_toArray, List.set_cons_succ, List.set_cons_zero]) | (go_at_call 16; refine (Writes_c i _).mono ?_; rintro e wa ⟨vv, rfl, hown, hB⟩; dsimp only; replace H := H.grow hB) | (go_at_call 17; refine (in_row hown r (by omega)).mono ?_; rw [hB2]; rintro e wz ⟨rfl, rfl⟩; dsimp only))
    go_upto_region 9 with (first | ((with_reducible refine wpList_load_ifA rfl 26 _ rfl b rfl 26 _ (0, 0) _ (H.get (List.mem_cons_of_mem _ (List.mem_cons_of_mem _ List.mem_cons_self))) Tryz.underlying26 rfl (Cor.info _) ?_); simp only [Act.put, List.setIfInBounds_toArray, List.set_cons_succ, List.set_cons_zero]) | (go_at_call 9; refine (hbeg _).mono ?_; rintro e wa ⟨rfl, hB⟩; dsimp only; replace H := H.grow hB) | ((with_reducible refine wpList_store_new H rfl 30 _ _ rfl V.cells rfl rfl (Wnt.info _) ?_ (Wnt.one _) ?_); (focus rfl); intro wb H; simp only [Act.put]))
    generalize wa.heap.size = t15 at H ⊢
    have o0 := H.at (b := t12) (t := 47) (c := i.cells) (List.mem_cons_of_mem _ List.mem_cons_self) 0 (.int .i64 i.op) rfl
    have k0 := H.at (b := t15) (t := 30) (c := V.cells) List.mem_cons_self 0 (.int .i64 V.kind) rfl
    have g2 := H.at (b := b + 1) (t := 40) (c := k.cells) (List.mem_cons_of_mem _ (List.mem_cons_of_mem _ List.mem_cons_self)) 2 (.int .i64 k.fault) rfl
    rw [hop] at o0
    go_wp2
    go_ret
    exact ⟨rfl, by first | exact H.below | (rw [← hb]; exact H.below)⟩
  · go_upto_region 5 with fail
    go_upto_region 6 with (first | (go_at_call 15; refine (hdec _).mono ?_; rintro e wa ⟨rfl, hB⟩; dsimp only; replace H := H.grow hB) | ((with_reducible refine wpList_store_new H rfl 47 _ _ rfl i.cells rfl rfl (Ins.infoC i) ?_ (Ins.oneC i) ?_); (focus rfl); intro wb H; simp only [Act.put]))
    generalize wa.heap.size = t12 at H ⊢
    go_upto_region 7 with (first | ((with_reducible refine wpList_load_ifA rfl 47 _ rfl t12 rfl 47 _ (0, 0) _ (H.get List.mem_cons_self) Tryz.underlying47 rfl (Ins.infoC i) ?_); simp only [Act.put, List.setIfInBounds_toArray, List.set_cons_succ, List.set_cons_zero]) | (go_at_call 19; refine (Reads_c i _).mono ?_; rintro e wa ⟨vv, rfl, hown, hB⟩; dsimp only; replace H := H.grow hB) | (go_at_call 17; refine (in_row hown r (by omega)).mono ?_; rw [hB1]; rintro e wz ⟨rfl, rfl⟩; dsimp only))
    go_upto_region 8 with (first | ((with_reducible refine wpList_load_ifA rfl 47 _ rfl t12 rfl 47 _ (0, 0) _ (H.get List.mem_cons_self) Tryz.underlying47 rfl (Ins.infoC i) ?_); simp only [Act.put, List.setIfInBounds_toArray, List.set_cons_succ, List.set_cons_zero]) | (go_at_call 16; refine (Writes_c i _).mono ?_; rintro e wa ⟨vv, rfl, hown, hB⟩; dsimp only; replace H := H.grow hB) | (go_at_call 17; refine (in_row hown r (by omega)).mono ?_; rw [hB2]; rintro e wz ⟨rfl, rfl⟩; dsimp only))
    go_upto_region 9 with (first | ((with_reducible refine wpList_load_ifA rfl 26 _ rfl b rfl 26 _ (0, 0) _ (H.get (List.mem_cons_of_mem _ (List.mem_cons_of_mem _ List.mem_cons_self))) Tryz.underlying26 rfl (Cor.info _) ?_); simp only [Act.put, List.setIfInBounds_toArray, List.set_cons_succ, List.set_cons_zero]) | (go_at_call 9; refine (hbeg _).mono ?_; rintro e wa ⟨rfl, hB⟩; dsimp only; replace H := H.grow hB) | ((with_reducible refine wpList_store_new H rfl 30 _ _ rfl V.cells rfl rfl (Wnt.info _) ?_ (Wnt.one _) ?_); (focus rfl); intro wb H; simp only [Act.put]))
    generalize wa.heap.size = t15 at H ⊢
    have o0 := H.at (b := t12) (t := 47) (c := i.cells) (List.mem_cons_of_mem _ List.mem_cons_self) 0 (.int .i64 i.op) rfl
    have k0 := H.at (b := t15) (t := 30) (c := V.cells) List.mem_cons_self 0 (.int .i64 V.kind) rfl
    have g2 := H.at (b := b + 1) (t := 40) (c := k.cells) (List.mem_cons_of_mem _ (List.mem_cons_of_mem _ List.mem_cons_self)) 2 (.int .i64 k.fault) rfl
    rw [hop] at o0
    go_wp2
    go_ret
    exact ⟨rfl, by first | exact H.below | (rw [← hb]; exact H.below)⟩
set_option maxRecDepth 8000 in
set_option maxHeartbeats 8000000 in
theorem skip_c (c : Cor) (word : Int) (i : Ins) (k : Gt) (o q : Int) (r : Nat) (V : Wnt) (E : Int) (hr : r < 31) (hq : Hid ((q < 0 ∧ -9223372036854775808 ≤ q ∧ (-(q + 1)).tmod 31 = (r : Int)) ∨ (0 ≤ q ∧ q.tmod 31 = (r : Int))))
    (hbeg : ∀ w : World, Calls Tryz.prog 9 #[c.val, .int .u32 word] w fun e w' => e = .returned (.tuple #[V.val, .int .i64 E]) ∧ Below w.heap.size w w') (hdec : ∀ w : World, Calls Tryz.prog 15 #[.int .u32 word] w fun e w' => e = .returned i.val ∧ Below w.heap.size w w') (hB1 : (setOf i (readsV i)).testBit r = false) (B2 : Bool) (hB2 : (setOf i (writesV i)).testBit r = B2) (hop : (i.op == 0) = false) (hE : E = 1) (w : World) :
    Calls Tryz.prog 6 #[c.val, .int .u32 word, k.val, .int .u64 o, .int .i64 q] w fun e w' => e = .returned (.bool true) ∧ Below w.heap.size w w' := by
  go_enter Tryz.func6, Tryz.ntmps6
  go_upto_region 1 with fail
  have H := stwo_start w c.cells k.cells 26 40
  generalize hb : w.heap.size = b at H ⊢
  generalize (w.alloc _).alloc _ = w0 at H ⊢
  go_upto_region 2 with (go_at_call 8; refine (examples_c _).mono ?_; rintro e wa ⟨rfl, hB⟩; dsimp only; replace H := H.grow hB)
  rcases hq.out with ⟨hq0, hq1, hq2⟩ | ⟨hq0, hq2⟩
  · go_upto_region 5 with fail
    go_upto_region 6 with (first | (go_at_call 15; refine (hdec _).mono ?_; rintro e wa ⟨rfl, hB⟩; dsimp only; replace H := H.grow hB) | ((with_reducible refine wpList_store_new H rfl 47 _ _ rfl i.cells rfl rfl (Ins.infoC i) ?_ (Ins.oneC i) ?_); (focus rfl); intro wb H; simp only [Act.put]))
    generalize wa.heap.size = t12 at H ⊢
    go_upto_region 7 with (first | ((with_reducible refine wpList_load_ifA rfl 47 _ rfl t12 rfl 47 _ (0, 0) _ (H.get List.mem_cons_self) Tryz.underlying47 rfl (Ins.infoC i) ?_); simp only [Act.put, List.setIfInBounds_toArray, List.set_cons_succ, List.set_cons_zero]) | (go_at_call 19; refine (Reads_c i _).mono ?_; rintro e wa ⟨vv, rfl, hown, hB⟩; dsimp only; replace H := H.grow hB) | (go_at_call 17; refine (in_row hown r (by omega)).mono ?_; rw [hB1]; rintro e wz ⟨rfl, rfl⟩; dsimp only))
    go_upto_region 8 with (first | ((with_reducible refine wpList_load_ifA rfl 47 _ rfl t12 rfl 47 _ (0, 0) _ (H.get List.mem_cons_self) Tryz.underlying47 rfl (Ins.infoC i) ?_); simp only [Act.put, List.setIfInBounds_toArray, List.set_cons_succ, List.set_cons_zero]) | (go_at_call 16; refine (Writes_c i _).mono ?_; rintro e wa ⟨vv, rfl, hown, hB⟩; dsimp only; replace H := H.grow hB) | (go_at_call 17; refine (in_row hown r (by omega)).mono ?_; rw [hB2]; rintro e wz ⟨rfl, rfl⟩; dsimp only))
    go_upto_region 9 with (first | ((with_reducible refine wpList_load_ifA rfl 26 _ rfl b rfl 26 _ (0, 0) _ (H.get (List.mem_cons_of_mem _ (List.mem_cons_of_mem _ List.mem_cons_self))) Tryz.underlying26 rfl (Cor.info _) ?_); simp only [Act.put, List.setIfInBounds_toArray, List.set_cons_succ, List.set_cons_zero]) | (go_at_call 9; refine (hbeg _).mono ?_; rintro e wa ⟨rfl, hB⟩; dsimp only; replace H := H.grow hB) | ((with_reducible refine wpList_store_new H rfl 30 _ _ rfl V.cells rfl rfl (Wnt.info _) ?_ (Wnt.one _) ?_); (focus rfl); intro wb H; simp only [Act.put]))
    generalize wa.heap.size = t15 at H ⊢
    have o0 := H.at (b := t12) (t := 47) (c := i.cells) (List.mem_cons_of_mem _ List.mem_cons_self) 0 (.int .i64 i.op) rfl
    have k0 := H.at (b := t15) (t := 30) (c := V.cells) List.mem_cons_self 0 (.int .i64 V.kind) rfl
    have g2 := H.at (b := b + 1) (t := 40) (c := k.cells) (List.mem_cons_of_mem _ (List.mem_cons_of_mem _ List.mem_cons_self)) 2 (.int .i64 k.fault) rfl
    subst hE
    go_wp2
    go_ret
    exact ⟨rfl, by first | exact H.below | (rw [← hb]; exact H.below)⟩
  · go_upto_region 5 with fail
    go_upto_region 6 with (first | (go_at_call 15; refine (hdec _).mono ?_; rintro e wa ⟨rfl, hB⟩; dsimp only; replace H := H.grow hB) | ((with_reducible refine wpList_store_new H rfl 47 _ _ rfl i.cells rfl rfl (Ins.infoC i) ?_ (Ins.oneC i) ?_); (focus rfl); intro wb H; simp only [Act.put]))
    generalize wa.heap.size = t12 at H ⊢
    go_upto_region 7 with (first | ((with_reducible refine wpList_load_ifA rfl 47 _ rfl t12 rfl 47 _ (0, 0) _ (H.get List.mem_cons_self) Tryz.underlying47 rfl (Ins.infoC i) ?_); simp only [Act.put, List.setIfInBounds_toArray, List.set_cons_succ, List.set_cons_zero]) | (go_at_call 19; refine (Reads_c i _).mono ?_; rintro e wa ⟨vv, rfl, hown, hB⟩; dsimp only; replace H := H.grow hB) | (go_at_call 17; refine (in_row hown r (by omega)).mono ?_; rw [hB1]; rintro e wz ⟨rfl, rfl⟩; dsimp only))
    go_upto_region 8 with (first | ((with_reducible refine wpList_load_ifA rfl 47 _ rfl t12 rfl 47 _ (0, 0) _ (H.get List.mem_cons_self) Tryz.underlying47 rfl (Ins.infoC i) ?_); simp only [Act.put, List.setIfInBounds_toArray, List.set_cons_succ, List.set_cons_zero]) | (go_at_call 16; refine (Writes_c i _).mono ?_; rintro e wa ⟨vv, rfl, hown, hB⟩; dsimp only; replace H := H.grow hB) | (go_at_call 17; refine (in_row hown r (by omega)).mono ?_; rw [hB2]; rintro e wz ⟨rfl, rfl⟩; dsimp only))
    go_upto_region 9 with (first | ((with_reducible refine wpList_load_ifA rfl 26 _ rfl b rfl 26 _ (0, 0) _ (H.get (List.mem_cons_of_mem _ (List.mem_cons_of_mem _ List.mem_cons_self))) Tryz.underlying26 rfl (Cor.info _) ?_); simp only [Act.put, List.setIfInBounds_toArray, List.set_cons_succ, List.set_cons_zero]) | (go_at_call 9; refine (hbeg _).mono ?_; rintro e wa ⟨rfl, hB⟩; dsimp only; replace H := H.grow hB) | ((with_reducible refine wpList_store_new H rfl 30 _ _ rfl V.cells rfl rfl (Wnt.info _) ?_ (Wnt.one _) ?_); (focus rfl); intro wb H; simp only [Act.put]))
    generalize wa.heap.size = t15 at H ⊢
    have o0 := H.at (b := t12) (t := 47) (c := i.cells) (List.mem_cons_of_mem _ List.mem_cons_self) 0 (.int .i64 i.op) rfl
    have k0 := H.at (b := t15) (t := 30) (c := V.cells) List.mem_cons_self 0 (.int .i64 V.kind) rfl
    have g2 := H.at (b := b + 1) (t := 40) (c := k.cells) (List.mem_cons_of_mem _ (List.mem_cons_of_mem _ List.mem_cons_self)) 2 (.int .i64 k.fault) rfl
    subst hE
    go_wp2
    go_ret
    exact ⟨rfl, by first | exact H.below | (rw [← hb]; exact H.below)⟩
set_option maxRecDepth 8000 in
set_option maxHeartbeats 8000000 in
theorem skip_d (c : Cor) (word : Int) (i : Ins) (k : Gt) (o q : Int) (r : Nat) (V : Wnt) (E : Int) (hr : r < 31) (hq : Hid ((q < 0 ∧ -9223372036854775808 ≤ q ∧ (-(q + 1)).tmod 31 = (r : Int)) ∨ (0 ≤ q ∧ q.tmod 31 = (r : Int))))
    (hbeg : ∀ w : World, Calls Tryz.prog 9 #[c.val, .int .u32 word] w fun e w' => e = .returned (.tuple #[V.val, .int .i64 E]) ∧ Below w.heap.size w w') (hdec : ∀ w : World, Calls Tryz.prog 15 #[.int .u32 word] w fun e w' => e = .returned i.val ∧ Below w.heap.size w w') (hB1 : (setOf i (readsV i)).testBit r = false) (B2 : Bool) (hB2 : (setOf i (writesV i)).testBit r = B2) (hop : (i.op == 0) = false) (hE : E = 0) (hV : V.kind = 15) (w : World) :
    Calls Tryz.prog 6 #[c.val, .int .u32 word, k.val, .int .u64 o, .int .i64 q] w fun e w' => e = .returned (.bool true) ∧ Below w.heap.size w w' := by
  go_enter Tryz.func6, Tryz.ntmps6
  go_upto_region 1 with fail
  have H := stwo_start w c.cells k.cells 26 40
  generalize hb : w.heap.size = b at H ⊢
  generalize (w.alloc _).alloc _ = w0 at H ⊢
  go_upto_region 2 with (go_at_call 8; refine (examples_c _).mono ?_; rintro e wa ⟨rfl, hB⟩; dsimp only; replace H := H.grow hB)
  rcases hq.out with ⟨hq0, hq1, hq2⟩ | ⟨hq0, hq2⟩
  · go_upto_region 5 with fail
    go_upto_region 6 with (first | (go_at_call 15; refine (hdec _).mono ?_; rintro e wa ⟨rfl, hB⟩; dsimp only; replace H := H.grow hB) | ((with_reducible refine wpList_store_new H rfl 47 _ _ rfl i.cells rfl rfl (Ins.infoC i) ?_ (Ins.oneC i) ?_); (focus rfl); intro wb H; simp only [Act.put]))
    generalize wa.heap.size = t12 at H ⊢
    go_upto_region 7 with (first | ((with_reducible refine wpList_load_ifA rfl 47 _ rfl t12 rfl 47 _ (0, 0) _ (H.get List.mem_cons_self) Tryz.underlying47 rfl (Ins.infoC i) ?_); simp only [Act.put, List.setIfInBounds_toArray, List.set_cons_succ, List.set_cons_zero]) | (go_at_call 19; refine (Reads_c i _).mono ?_; rintro e wa ⟨vv, rfl, hown, hB⟩; dsimp only; replace H := H.grow hB) | (go_at_call 17; refine (in_row hown r (by omega)).mono ?_; rw [hB1]; rintro e wz ⟨rfl, rfl⟩; dsimp only))
    go_upto_region 8 with (first | ((with_reducible refine wpList_load_ifA rfl 47 _ rfl t12 rfl 47 _ (0, 0) _ (H.get List.mem_cons_self) Tryz.underlying47 rfl (Ins.infoC i) ?_); simp only [Act.put, List.setIfInBounds_toArray, List.set_cons_succ, List.set_cons_zero]) | (go_at_call 16; refine (Writes_c i _).mono ?_; rintro e wa ⟨vv, rfl, hown, hB⟩; dsimp only; replace H := H.grow hB) | (go_at_call 17; refine (in_row hown r (by omega)).mono ?_; rw [hB2]; rintro e wz ⟨rfl, rfl⟩; dsimp only))
    go_upto_region 9 with (first | ((with_reducible refine wpList_load_ifA rfl 26 _ rfl b rfl 26 _ (0, 0) _ (H.get (List.mem_cons_of_mem _ (List.mem_cons_of_mem _ List.mem_cons_self))) Tryz.underlying26 rfl (Cor.info _) ?_); simp only [Act.put, List.setIfInBounds_toArray, List.set_cons_succ, List.set_cons_zero]) | (go_at_call 9; refine (hbeg _).mono ?_; rintro e wa ⟨rfl, hB⟩; dsimp only; replace H := H.grow hB) | ((with_reducible refine wpList_store_new H rfl 30 _ _ rfl V.cells rfl rfl (Wnt.info _) ?_ (Wnt.one _) ?_); (focus rfl); intro wb H; simp only [Act.put]))
    generalize wa.heap.size = t15 at H ⊢
    have o0 := H.at (b := t12) (t := 47) (c := i.cells) (List.mem_cons_of_mem _ List.mem_cons_self) 0 (.int .i64 i.op) rfl
    have k0 := H.at (b := t15) (t := 30) (c := V.cells) List.mem_cons_self 0 (.int .i64 V.kind) rfl
    have g2 := H.at (b := b + 1) (t := 40) (c := k.cells) (List.mem_cons_of_mem _ (List.mem_cons_of_mem _ List.mem_cons_self)) 2 (.int .i64 k.fault) rfl
    subst hE
    rw [hV] at k0
    go_wp2
    go_ret
    exact ⟨rfl, by first | exact H.below | (rw [← hb]; exact H.below)⟩
  · go_upto_region 5 with fail
    go_upto_region 6 with (first | (go_at_call 15; refine (hdec _).mono ?_; rintro e wa ⟨rfl, hB⟩; dsimp only; replace H := H.grow hB) | ((with_reducible refine wpList_store_new H rfl 47 _ _ rfl i.cells rfl rfl (Ins.infoC i) ?_ (Ins.oneC i) ?_); (focus rfl); intro wb H; simp only [Act.put]))
    generalize wa.heap.size = t12 at H ⊢
    go_upto_region 7 with (first | ((with_reducible refine wpList_load_ifA rfl 47 _ rfl t12 rfl 47 _ (0, 0) _ (H.get List.mem_cons_self) Tryz.underlying47 rfl (Ins.infoC i) ?_); simp only [Act.put, List.setIfInBounds_toArray, List.set_cons_succ, List.set_cons_zero]) | (go_at_call 19; refine (Reads_c i _).mono ?_; rintro e wa ⟨vv, rfl, hown, hB⟩; dsimp only; replace H := H.grow hB) | (go_at_call 17; refine (in_row hown r (by omega)).mono ?_; rw [hB1]; rintro e wz ⟨rfl, rfl⟩; dsimp only))
    go_upto_region 8 with (first | ((with_reducible refine wpList_load_ifA rfl 47 _ rfl t12 rfl 47 _ (0, 0) _ (H.get List.mem_cons_self) Tryz.underlying47 rfl (Ins.infoC i) ?_); simp only [Act.put, List.setIfInBounds_toArray, List.set_cons_succ, List.set_cons_zero]) | (go_at_call 16; refine (Writes_c i _).mono ?_; rintro e wa ⟨vv, rfl, hown, hB⟩; dsimp only; replace H := H.grow hB) | (go_at_call 17; refine (in_row hown r (by omega)).mono ?_; rw [hB2]; rintro e wz ⟨rfl, rfl⟩; dsimp only))
    go_upto_region 9 with (first | ((with_reducible refine wpList_load_ifA rfl 26 _ rfl b rfl 26 _ (0, 0) _ (H.get (List.mem_cons_of_mem _ (List.mem_cons_of_mem _ List.mem_cons_self))) Tryz.underlying26 rfl (Cor.info _) ?_); simp only [Act.put, List.setIfInBounds_toArray, List.set_cons_succ, List.set_cons_zero]) | (go_at_call 9; refine (hbeg _).mono ?_; rintro e wa ⟨rfl, hB⟩; dsimp only; replace H := H.grow hB) | ((with_reducible refine wpList_store_new H rfl 30 _ _ rfl V.cells rfl rfl (Wnt.info _) ?_ (Wnt.one _) ?_); (focus rfl); intro wb H; simp only [Act.put]))
    generalize wa.heap.size = t15 at H ⊢
    have o0 := H.at (b := t12) (t := 47) (c := i.cells) (List.mem_cons_of_mem _ List.mem_cons_self) 0 (.int .i64 i.op) rfl
    have k0 := H.at (b := t15) (t := 30) (c := V.cells) List.mem_cons_self 0 (.int .i64 V.kind) rfl
    have g2 := H.at (b := b + 1) (t := 40) (c := k.cells) (List.mem_cons_of_mem _ (List.mem_cons_of_mem _ List.mem_cons_self)) 2 (.int .i64 k.fault) rfl
    subst hE
    rw [hV] at k0
    go_wp2
    go_ret
    exact ⟨rfl, by first | exact H.below | (rw [← hb]; exact H.below)⟩
set_option maxRecDepth 8000 in
set_option maxHeartbeats 8000000 in
theorem skip_e (c : Cor) (word : Int) (i : Ins) (k : Gt) (o q : Int) (r : Nat) (V : Wnt) (E : Int) (hr : r < 31) (hq : Hid ((q < 0 ∧ -9223372036854775808 ≤ q ∧ (-(q + 1)).tmod 31 = (r : Int)) ∨ (0 ≤ q ∧ q.tmod 31 = (r : Int))))
    (hbeg : ∀ w : World, Calls Tryz.prog 9 #[c.val, .int .u32 word] w fun e w' => e = .returned (.tuple #[V.val, .int .i64 E]) ∧ Below w.heap.size w w') (hdec : ∀ w : World, Calls Tryz.prog 15 #[.int .u32 word] w fun e w' => e = .returned i.val ∧ Below w.heap.size w w') (hB1 : (setOf i (readsV i)).testBit r = false) (B2 : Bool) (hB2 : (setOf i (writesV i)).testBit r = B2) (hop : (i.op == 0) = false) (hE : E = 0) (hV : (V.kind == 15) = false) (hF : (k.fault != 0) = true) (w : World) :
    Calls Tryz.prog 6 #[c.val, .int .u32 word, k.val, .int .u64 o, .int .i64 q] w fun e w' => e = .returned (.bool true) ∧ Below w.heap.size w w' := by
  go_enter Tryz.func6, Tryz.ntmps6
  go_upto_region 1 with fail
  have H := stwo_start w c.cells k.cells 26 40
  generalize hb : w.heap.size = b at H ⊢
  generalize (w.alloc _).alloc _ = w0 at H ⊢
  go_upto_region 2 with (go_at_call 8; refine (examples_c _).mono ?_; rintro e wa ⟨rfl, hB⟩; dsimp only; replace H := H.grow hB)
  rcases hq.out with ⟨hq0, hq1, hq2⟩ | ⟨hq0, hq2⟩
  · go_upto_region 5 with fail
    go_upto_region 6 with (first | (go_at_call 15; refine (hdec _).mono ?_; rintro e wa ⟨rfl, hB⟩; dsimp only; replace H := H.grow hB) | ((with_reducible refine wpList_store_new H rfl 47 _ _ rfl i.cells rfl rfl (Ins.infoC i) ?_ (Ins.oneC i) ?_); (focus rfl); intro wb H; simp only [Act.put]))
    generalize wa.heap.size = t12 at H ⊢
    go_upto_region 7 with (first | ((with_reducible refine wpList_load_ifA rfl 47 _ rfl t12 rfl 47 _ (0, 0) _ (H.get List.mem_cons_self) Tryz.underlying47 rfl (Ins.infoC i) ?_); simp only [Act.put, List.setIfInBounds_toArray, List.set_cons_succ, List.set_cons_zero]) | (go_at_call 19; refine (Reads_c i _).mono ?_; rintro e wa ⟨vv, rfl, hown, hB⟩; dsimp only; replace H := H.grow hB) | (go_at_call 17; refine (in_row hown r (by omega)).mono ?_; rw [hB1]; rintro e wz ⟨rfl, rfl⟩; dsimp only))
    go_upto_region 8 with (first | ((with_reducible refine wpList_load_ifA rfl 47 _ rfl t12 rfl 47 _ (0, 0) _ (H.get List.mem_cons_self) Tryz.underlying47 rfl (Ins.infoC i) ?_); simp only [Act.put, List.setIfInBounds_toArray, List.set_cons_succ, List.set_cons_zero]) | (go_at_call 16; refine (Writes_c i _).mono ?_; rintro e wa ⟨vv, rfl, hown, hB⟩; dsimp only; replace H := H.grow hB) | (go_at_call 17; refine (in_row hown r (by omega)).mono ?_; rw [hB2]; rintro e wz ⟨rfl, rfl⟩; dsimp only))
    go_upto_region 9 with (first | ((with_reducible refine wpList_load_ifA rfl 26 _ rfl b rfl 26 _ (0, 0) _ (H.get (List.mem_cons_of_mem _ (List.mem_cons_of_mem _ List.mem_cons_self))) Tryz.underlying26 rfl (Cor.info _) ?_); simp only [Act.put, List.setIfInBounds_toArray, List.set_cons_succ, List.set_cons_zero]) | (go_at_call 9; refine (hbeg _).mono ?_; rintro e wa ⟨rfl, hB⟩; dsimp only; replace H := H.grow hB) | ((with_reducible refine wpList_store_new H rfl 30 _ _ rfl V.cells rfl rfl (Wnt.info _) ?_ (Wnt.one _) ?_); (focus rfl); intro wb H; simp only [Act.put]))
    generalize wa.heap.size = t15 at H ⊢
    have o0 := H.at (b := t12) (t := 47) (c := i.cells) (List.mem_cons_of_mem _ List.mem_cons_self) 0 (.int .i64 i.op) rfl
    have k0 := H.at (b := t15) (t := 30) (c := V.cells) List.mem_cons_self 0 (.int .i64 V.kind) rfl
    have g2 := H.at (b := b + 1) (t := 40) (c := k.cells) (List.mem_cons_of_mem _ (List.mem_cons_of_mem _ List.mem_cons_self)) 2 (.int .i64 k.fault) rfl
    subst hE
    go_wp2
    go_ret
    exact ⟨rfl, by first | exact H.below | (rw [← hb]; exact H.below)⟩
  · go_upto_region 5 with fail
    go_upto_region 6 with (first | (go_at_call 15; refine (hdec _).mono ?_; rintro e wa ⟨rfl, hB⟩; dsimp only; replace H := H.grow hB) | ((with_reducible refine wpList_store_new H rfl 47 _ _ rfl i.cells rfl rfl (Ins.infoC i) ?_ (Ins.oneC i) ?_); (focus rfl); intro wb H; simp only [Act.put]))
    generalize wa.heap.size = t12 at H ⊢
    go_upto_region 7 with (first | ((with_reducible refine wpList_load_ifA rfl 47 _ rfl t12 rfl 47 _ (0, 0) _ (H.get List.mem_cons_self) Tryz.underlying47 rfl (Ins.infoC i) ?_); simp only [Act.put, List.setIfInBounds_toArray, List.set_cons_succ, List.set_cons_zero]) | (go_at_call 19; refine (Reads_c i _).mono ?_; rintro e wa ⟨vv, rfl, hown, hB⟩; dsimp only; replace H := H.grow hB) | (go_at_call 17; refine (in_row hown r (by omega)).mono ?_; rw [hB1]; rintro e wz ⟨rfl, rfl⟩; dsimp only))
    go_upto_region 8 with (first | ((with_reducible refine wpList_load_ifA rfl 47 _ rfl t12 rfl 47 _ (0, 0) _ (H.get List.mem_cons_self) Tryz.underlying47 rfl (Ins.infoC i) ?_); simp only [Act.put, List.setIfInBounds_toArray, List.set_cons_succ, List.set_cons_zero]) | (go_at_call 16; refine (Writes_c i _).mono ?_; rintro e wa ⟨vv, rfl, hown, hB⟩; dsimp only; replace H := H.grow hB) | (go_at_call 17; refine (in_row hown r (by omega)).mono ?_; rw [hB2]; rintro e wz ⟨rfl, rfl⟩; dsimp only))
    go_upto_region 9 with (first | ((with_reducible refine wpList_load_ifA rfl 26 _ rfl b rfl 26 _ (0, 0) _ (H.get (List.mem_cons_of_mem _ (List.mem_cons_of_mem _ List.mem_cons_self))) Tryz.underlying26 rfl (Cor.info _) ?_); simp only [Act.put, List.setIfInBounds_toArray, List.set_cons_succ, List.set_cons_zero]) | (go_at_call 9; refine (hbeg _).mono ?_; rintro e wa ⟨rfl, hB⟩; dsimp only; replace H := H.grow hB) | ((with_reducible refine wpList_store_new H rfl 30 _ _ rfl V.cells rfl rfl (Wnt.info _) ?_ (Wnt.one _) ?_); (focus rfl); intro wb H; simp only [Act.put]))
    generalize wa.heap.size = t15 at H ⊢
    have o0 := H.at (b := t12) (t := 47) (c := i.cells) (List.mem_cons_of_mem _ List.mem_cons_self) 0 (.int .i64 i.op) rfl
    have k0 := H.at (b := t15) (t := 30) (c := V.cells) List.mem_cons_self 0 (.int .i64 V.kind) rfl
    have g2 := H.at (b := b + 1) (t := 40) (c := k.cells) (List.mem_cons_of_mem _ (List.mem_cons_of_mem _ List.mem_cons_self)) 2 (.int .i64 k.fault) rfl
    subst hE
    go_wp2
    go_ret
    exact ⟨rfl, by first | exact H.below | (rw [← hb]; exact H.below)⟩
theorem put_back (x : Cor) (r : Nat) (hr : r < 31) (o : Int) : (putX x r hr o).cells.setIfInBounds r (.int .u64 x.x[r]) = x.cells := by
  refine ((putX x r hr o).setX r x.x[r] hr).trans ?_
  congr 1
  obtain ⟨xx, sp0, sp1, pc, n, z, cc, v, el, mask, spsr, elr, esr, far, vbar, tpidr, id, wait, event⟩ := x
  simp only [putX, Cor.mk.injEq, and_true]
  apply Vector.ext
  intro q hq
  simp only [Vector.getElem_set]
  split
  · rename_i e; subst e; rfl
  · rfl
set_option maxRecDepth 8000 in
set_option maxHeartbeats 16000000 in
theorem main_w (c : Cor) (word : Int) (i : Ins) (k : Gt) (o q : Int) (r : Nat) (V : Wnt) (E : Int) (hr : r < 31) (hq : Hid ((q < 0 ∧ -9223372036854775808 ≤ q ∧ (-(q + 1)).tmod 31 = (r : Int)) ∨ (0 ≤ q ∧ q.tmod 31 = (r : Int))))
    (hbeg : ∀ w : World, Calls Tryz.prog 9 #[c.val, .int .u32 word] w fun e w' => e = .returned (.tuple #[V.val, .int .i64 E]) ∧ Below w.heap.size w w') (hdec : ∀ w : World, Calls Tryz.prog 15 #[.int .u32 word] w fun e w' => e = .returned i.val ∧ Below w.heap.size w w') (hB1 : (setOf i (readsV i)).testBit r = false) (hB2 : (setOf i (writesV i)).testBit r = true) (hop : (i.op == 0) = false) (hE : E = 0) (hV : (V.kind == 15) = false) (hF : (k.fault != 0) = false) (x : Cor) (hbeg2 : ∀ w : World, Calls Tryz.prog 9 #[(putX c r hr o).val, .int .u32 word] w fun e w' => e = .returned (.tuple #[V.val, .int .i64 0]) ∧ Below w.heap.size w w') (hend1 : ∀ w : World, Calls Tryz.prog 13 #[c.val, .int .u32 word, k.val] w fun e w' => e = .returned (.tuple #[x.val, .int .i64 0]) ∧ Below w.heap.size w w') (hend2 : ∀ w : World, Calls Tryz.prog 13 #[(putX c r hr o).val, .int .u32 word, k.val] w fun e w' => e = .returned (.tuple #[x.val, .int .i64 0]) ∧ Below w.heap.size w w') (w : World) :
    Calls Tryz.prog 6 #[c.val, .int .u32 word, k.val, .int .u64 o, .int .i64 q] w fun e w' => e = .returned (.bool true) ∧ Below w.heap.size w w' := by
  go_enter Tryz.func6, Tryz.ntmps6
  go_upto_region 1 with fail
  have H := stwo_start w c.cells k.cells 26 40
  generalize hb : w.heap.size = b at H ⊢
  generalize (w.alloc _).alloc _ = w0 at H ⊢
  go_upto_region 2 with (go_at_call 8; refine (examples_c _).mono ?_; rintro e wa ⟨rfl, hB⟩; dsimp only; replace H := H.grow hB)
  rcases hq.out with ⟨hq0, hq1, hq2⟩ | ⟨hq0, hq2⟩
  · go_upto_region 5 with fail
    go_upto_region 6 with (first | (go_at_call 15; refine (hdec _).mono ?_; rintro e wa ⟨rfl, hB⟩; dsimp only; replace H := H.grow hB) | ((with_reducible refine wpList_store_new H rfl 47 _ _ rfl i.cells rfl rfl (Ins.infoC i) ?_ (Ins.oneC i) ?_); (focus rfl); intro wb H; simp only [Act.put]))
    generalize wa.heap.size = t12 at H ⊢
    go_upto_region 7 with (first | ((with_reducible refine wpList_load_ifA rfl 47 _ rfl t12 rfl 47 _ (0, 0) _ (H.get List.mem_cons_self) Tryz.underlying47 rfl (Ins.infoC i) ?_); simp only [Act.put, List.setIfInBounds_toArray, List.set_cons_succ, List.set_cons_zero]) | (go_at_call 19; refine (Reads_c i _).mono ?_; rintro e wa ⟨vv, rfl, hown, hB⟩; dsimp only; replace H := H.grow hB) | (go_at_call 17; refine (in_row hown r (by omega)).mono ?_; rw [hB1]; rintro e wz ⟨rfl, rfl⟩; dsimp only))
    go_upto_region 8 with (first | ((with_reducible refine wpList_load_ifA rfl 47 _ rfl t12 rfl 47 _ (0, 0) _ (H.get List.mem_cons_self) Tryz.underlying47 rfl (Ins.infoC i) ?_); simp only [Act.put, List.setIfInBounds_toArray, List.set_cons_succ, List.set_cons_zero]) | (go_at_call 16; refine (Writes_c i _).mono ?_; rintro e wa ⟨vv, rfl, hown, hB⟩; dsimp only; replace H := H.grow hB) | (go_at_call 17; refine (in_row hown r (by omega)).mono ?_; rw [hB2]; rintro e wz ⟨rfl, rfl⟩; dsimp only))
    go_upto_region 9 with (first | ((with_reducible refine wpList_load_ifA rfl 26 _ rfl b rfl 26 _ (0, 0) _ (H.get (List.mem_cons_of_mem _ (List.mem_cons_of_mem _ List.mem_cons_self))) Tryz.underlying26 rfl (Cor.info _) ?_); simp only [Act.put, List.setIfInBounds_toArray, List.set_cons_succ, List.set_cons_zero]) | (go_at_call 9; refine (hbeg _).mono ?_; rintro e wa ⟨rfl, hB⟩; dsimp only; replace H := H.grow hB) | ((with_reducible refine wpList_store_new H rfl 30 _ _ rfl V.cells rfl rfl (Wnt.info _) ?_ (Wnt.one _) ?_); (focus rfl); intro wb H; simp only [Act.put]))
    generalize wa.heap.size = t15 at H ⊢
    have o0 := H.at (b := t12) (t := 47) (c := i.cells) (List.mem_cons_of_mem _ List.mem_cons_self) 0 (.int .i64 i.op) rfl
    have k0 := H.at (b := t15) (t := 30) (c := V.cells) List.mem_cons_self 0 (.int .i64 V.kind) rfl
    have g2 := H.at (b := b + 1) (t := 40) (c := k.cells) (List.mem_cons_of_mem _ (List.mem_cons_of_mem _ List.mem_cons_self)) 2 (.int .i64 k.fault) rfl
    subst hE
    have hl : ∀ p ∈ [(t15, V.cells, (30 : TypeId)), (t12, i.cells, (47 : TypeId)), (b + 1, k.cells, (40 : TypeId)), (b, c.cells, (26 : TypeId))], p.1 ≠ wb.heap.size := fun p hp => by
      have := (Array.getElem?_eq_some_iff.1 (H.box p hp).2).1
      omega
    go_upto_region 12 with (first | ((with_reducible refine wpList_load_ifA rfl 26 _ rfl b rfl 26 _ (0, 0) _ (H.get (List.mem_cons_of_mem _ (List.mem_cons_of_mem _ (List.mem_cons_of_mem _ List.mem_cons_self)))) Tryz.underlying26 rfl (Cor.info _) ?_); simp only [Act.put, List.setIfInBounds_toArray, List.set_cons_succ, List.set_cons_zero]) | ((with_reducible refine wpList_store_new H rfl 26 _ _ rfl c.cells rfl rfl (Cor.info _) ?_ (Cor.one _) ?_); (focus (rw [Cor.size]; rfl)); intro wc H; simp only [Act.put]))
    clear o0 k0 g2
    generalize wb.heap.size = z at H hl ⊢
    have cz := H.at (b := z) (t := 26) (c := c.cells) List.mem_cons_self r (.int .u64 c.x[r]) (c.atX r hr)
    have fz := frozen_of_row _ z r _ _ (H.get List.mem_cons_self)
    have hrI : (r : Int) < 31 := by omega
    go_upto_region 13 with ((with_reducible refine wpList_store_int rfl 22 _ _ rfl z r .u64 o rfl rfl _ cz fz size22 ?_); generalize hw3 : World.setCell _ _ _ = w3; simp only [Act.put])
    have H3 : Has w [(z, (putX c r hr o).cells, 26), (t15, V.cells, 30), (t12, i.cells, 47), (b + 1, k.cells, 40), (b, c.cells, 26)] w3 := by
      have := H.setAt hl r (.int .u64 o)
      rw [show (Value.int .u64 o) = vU o from rfl, c.setX r o hr] at this
      rw [← hw3]
      exact this
    replace H := H3
    clear H3 hw3 cz fz hl
    go_upto_region 14 with (first | ((with_reducible refine wpList_load_ifA rfl 26 _ rfl z rfl 26 _ (0, 0) _ (H.get List.mem_cons_self) Tryz.underlying26 rfl (Cor.info _) ?_); simp only [Act.put, List.setIfInBounds_toArray, List.set_cons_succ, List.set_cons_zero]) | (go_at_call 9; refine (hbeg2 _).mono ?_; rintro e wa ⟨rfl, hB⟩; dsimp only; replace H := H.grow hB) | ((with_reducible refine wpList_store_new H rfl 30 _ _ rfl V.cells rfl rfl (Wnt.info _) ?_ (Wnt.one _) ?_); (focus rfl); intro wb H; simp only [Act.put]))
    generalize wa.heap.size = t18 at H ⊢
    go_upto_region 15 with (first | ((with_reducible refine wpList_load_ifA rfl 26 _ rfl b rfl 26 _ (0, 0) _ (H.get (List.mem_cons_of_mem _ (List.mem_cons_of_mem _ (List.mem_cons_of_mem _ (List.mem_cons_of_mem _ (List.mem_cons_of_mem _ List.mem_cons_self)))))) Tryz.underlying26 rfl (Cor.info _) ?_); simp only [Act.put, List.setIfInBounds_toArray, List.set_cons_succ, List.set_cons_zero]) | ((with_reducible refine wpList_load_ifA rfl 40 _ rfl (b + 1) rfl 40 _ (0, 0) _ (H.get (List.mem_cons_of_mem _ (List.mem_cons_of_mem _ (List.mem_cons_of_mem _ (List.mem_cons_of_mem _ List.mem_cons_self))))) Tryz.underlying40 rfl (Gt.info _) ?_); simp only [Act.put, List.setIfInBounds_toArray, List.set_cons_succ, List.set_cons_zero]) | (go_at_call 13; refine (hend1 _).mono ?_; rintro e wa ⟨rfl, hB⟩; dsimp only; replace H := H.grow hB) | ((with_reducible refine wpList_store_new H rfl 26 _ _ rfl x.cells rfl rfl (Cor.info _) ?_ (Cor.one _) ?_); (focus (rw [Cor.size]; rfl)); intro wb H; simp only [Act.put]))
    generalize wa.heap.size = t20 at H ⊢
    have hl : ∀ p ∈ [(t20, x.cells, (26 : TypeId)), (t18, V.cells, (30 : TypeId)), (z, (putX c r hr o).cells, (26 : TypeId)), (t15, V.cells, (30 : TypeId)), (t12, i.cells, (47 : TypeId)), (b + 1, k.cells, (40 : TypeId)), (b, c.cells, (26 : TypeId))], p.1 < wb.heap.size := fun p hp => (Array.getElem?_eq_some_iff.1 (H.box p hp).2).1
    go_upto_region 16 with (first | ((with_reducible refine wpList_load_ifA rfl 26 _ rfl z rfl 26 _ (0, 0) _ (H.get (List.mem_cons_of_mem _ (List.mem_cons_of_mem _ List.mem_cons_self))) Tryz.underlying26 rfl (Cor.info _) ?_); simp only [Act.put, List.setIfInBounds_toArray, List.set_cons_succ, List.set_cons_zero]) | ((with_reducible refine wpList_load_ifA rfl 40 _ rfl (b + 1) rfl 40 _ (0, 0) _ (H.get (List.mem_cons_of_mem _ (List.mem_cons_of_mem _ (List.mem_cons_of_mem _ (List.mem_cons_of_mem _ (List.mem_cons_of_mem _ List.mem_cons_self)))))) Tryz.underlying40 rfl (Gt.info _) ?_); simp only [Act.put, List.setIfInBounds_toArray, List.set_cons_succ, List.set_cons_zero]) | (go_at_call 13; refine (hend2 _).mono ?_; rintro e wa ⟨rfl, hB⟩; dsimp only; replace H := H.grow hB; have hsz := hB.size) | ((with_reducible refine wpList_store_new H rfl 26 _ _ rfl x.cells rfl rfl (Cor.info _) ?_ (Cor.one _) ?_); (focus (rw [Cor.size]; rfl)); intro wb H; simp only [Act.put]))
    generalize wa.heap.size = t22 at H ⊢
    go_wp2_with (first | ((with_reducible refine wpList_load_ifA rfl 30 _ rfl t15 rfl 30 _ (0, 0) _ (H.get (List.mem_cons_of_mem _ (List.mem_cons_of_mem _ (List.mem_cons_of_mem _ (List.mem_cons_of_mem _ List.mem_cons_self))))) Tryz.underlying30 rfl (Wnt.info _) ?_); simp only [Act.put, List.setIfInBounds_toArray, List.set_cons_succ, List.set_cons_zero]) | ((with_reducible refine wpList_load_ifA rfl 30 _ rfl t18 rfl 30 _ (0, 0) _ (H.get (List.mem_cons_of_mem _ (List.mem_cons_of_mem _ List.mem_cons_self))) Tryz.underlying30 rfl (Wnt.info _) ?_); simp only [Act.put, List.setIfInBounds_toArray, List.set_cons_succ, List.set_cons_zero]) | ((with_reducible refine wpList_eql_w rfl _ _ rfl _ _ rfl rfl true (eqW_refl _) ?_); simp only [Act.put, List.setIfInBounds_toArray, List.set_cons_succ, List.set_cons_zero]) | ((with_reducible refine wpList_load_ifA rfl 26 _ rfl t20 rfl 26 _ (0, 0) _ (H.get (List.mem_cons_of_mem _ List.mem_cons_self)) Tryz.underlying26 rfl (Cor.info _) ?_); simp only [Act.put, List.setIfInBounds_toArray, List.set_cons_succ, List.set_cons_zero]) | ((with_reducible refine wpList_load_ifA rfl 26 _ rfl t22 rfl 26 _ (0, 0) _ (H.get List.mem_cons_self) Tryz.underlying26 rfl (Cor.info _) ?_); simp only [Act.put, List.setIfInBounds_toArray, List.set_cons_succ, List.set_cons_zero]) | ((with_reducible refine wpList_eql_core rfl _ _ rfl _ _ rfl rfl true (eqC_refl _) ?_); simp only [Act.put, List.setIfInBounds_toArray, List.set_cons_succ, List.set_cons_zero]))
    go_ret
    exact ⟨rfl, by first | exact H.below | (rw [← hb]; exact H.below)⟩
  · go_upto_region 5 with fail
    go_upto_region 6 with (first | (go_at_call 15; refine (hdec _).mono ?_; rintro e wa ⟨rfl, hB⟩; dsimp only; replace H := H.grow hB) | ((with_reducible refine wpList_store_new H rfl 47 _ _ rfl i.cells rfl rfl (Ins.infoC i) ?_ (Ins.oneC i) ?_); (focus rfl); intro wb H; simp only [Act.put]))
    generalize wa.heap.size = t12 at H ⊢
    go_upto_region 7 with (first | ((with_reducible refine wpList_load_ifA rfl 47 _ rfl t12 rfl 47 _ (0, 0) _ (H.get List.mem_cons_self) Tryz.underlying47 rfl (Ins.infoC i) ?_); simp only [Act.put, List.setIfInBounds_toArray, List.set_cons_succ, List.set_cons_zero]) | (go_at_call 19; refine (Reads_c i _).mono ?_; rintro e wa ⟨vv, rfl, hown, hB⟩; dsimp only; replace H := H.grow hB) | (go_at_call 17; refine (in_row hown r (by omega)).mono ?_; rw [hB1]; rintro e wz ⟨rfl, rfl⟩; dsimp only))
    go_upto_region 8 with (first | ((with_reducible refine wpList_load_ifA rfl 47 _ rfl t12 rfl 47 _ (0, 0) _ (H.get List.mem_cons_self) Tryz.underlying47 rfl (Ins.infoC i) ?_); simp only [Act.put, List.setIfInBounds_toArray, List.set_cons_succ, List.set_cons_zero]) | (go_at_call 16; refine (Writes_c i _).mono ?_; rintro e wa ⟨vv, rfl, hown, hB⟩; dsimp only; replace H := H.grow hB) | (go_at_call 17; refine (in_row hown r (by omega)).mono ?_; rw [hB2]; rintro e wz ⟨rfl, rfl⟩; dsimp only))
    go_upto_region 9 with (first | ((with_reducible refine wpList_load_ifA rfl 26 _ rfl b rfl 26 _ (0, 0) _ (H.get (List.mem_cons_of_mem _ (List.mem_cons_of_mem _ List.mem_cons_self))) Tryz.underlying26 rfl (Cor.info _) ?_); simp only [Act.put, List.setIfInBounds_toArray, List.set_cons_succ, List.set_cons_zero]) | (go_at_call 9; refine (hbeg _).mono ?_; rintro e wa ⟨rfl, hB⟩; dsimp only; replace H := H.grow hB) | ((with_reducible refine wpList_store_new H rfl 30 _ _ rfl V.cells rfl rfl (Wnt.info _) ?_ (Wnt.one _) ?_); (focus rfl); intro wb H; simp only [Act.put]))
    generalize wa.heap.size = t15 at H ⊢
    have o0 := H.at (b := t12) (t := 47) (c := i.cells) (List.mem_cons_of_mem _ List.mem_cons_self) 0 (.int .i64 i.op) rfl
    have k0 := H.at (b := t15) (t := 30) (c := V.cells) List.mem_cons_self 0 (.int .i64 V.kind) rfl
    have g2 := H.at (b := b + 1) (t := 40) (c := k.cells) (List.mem_cons_of_mem _ (List.mem_cons_of_mem _ List.mem_cons_self)) 2 (.int .i64 k.fault) rfl
    subst hE
    have hl : ∀ p ∈ [(t15, V.cells, (30 : TypeId)), (t12, i.cells, (47 : TypeId)), (b + 1, k.cells, (40 : TypeId)), (b, c.cells, (26 : TypeId))], p.1 ≠ wb.heap.size := fun p hp => by
      have := (Array.getElem?_eq_some_iff.1 (H.box p hp).2).1
      omega
    go_upto_region 12 with (first | ((with_reducible refine wpList_load_ifA rfl 26 _ rfl b rfl 26 _ (0, 0) _ (H.get (List.mem_cons_of_mem _ (List.mem_cons_of_mem _ (List.mem_cons_of_mem _ List.mem_cons_self)))) Tryz.underlying26 rfl (Cor.info _) ?_); simp only [Act.put, List.setIfInBounds_toArray, List.set_cons_succ, List.set_cons_zero]) | ((with_reducible refine wpList_store_new H rfl 26 _ _ rfl c.cells rfl rfl (Cor.info _) ?_ (Cor.one _) ?_); (focus (rw [Cor.size]; rfl)); intro wc H; simp only [Act.put]))
    clear o0 k0 g2
    generalize wb.heap.size = z at H hl ⊢
    have cz := H.at (b := z) (t := 26) (c := c.cells) List.mem_cons_self r (.int .u64 c.x[r]) (c.atX r hr)
    have fz := frozen_of_row _ z r _ _ (H.get List.mem_cons_self)
    have hrI : (r : Int) < 31 := by omega
    go_upto_region 13 with ((with_reducible refine wpList_store_int rfl 22 _ _ rfl z r .u64 o rfl rfl _ cz fz size22 ?_); generalize hw3 : World.setCell _ _ _ = w3; simp only [Act.put])
    have H3 : Has w [(z, (putX c r hr o).cells, 26), (t15, V.cells, 30), (t12, i.cells, 47), (b + 1, k.cells, 40), (b, c.cells, 26)] w3 := by
      have := H.setAt hl r (.int .u64 o)
      rw [show (Value.int .u64 o) = vU o from rfl, c.setX r o hr] at this
      rw [← hw3]
      exact this
    replace H := H3
    clear H3 hw3 cz fz hl
    go_upto_region 14 with (first | ((with_reducible refine wpList_load_ifA rfl 26 _ rfl z rfl 26 _ (0, 0) _ (H.get List.mem_cons_self) Tryz.underlying26 rfl (Cor.info _) ?_); simp only [Act.put, List.setIfInBounds_toArray, List.set_cons_succ, List.set_cons_zero]) | (go_at_call 9; refine (hbeg2 _).mono ?_; rintro e wa ⟨rfl, hB⟩; dsimp only; replace H := H.grow hB) | ((with_reducible refine wpList_store_new H rfl 30 _ _ rfl V.cells rfl rfl (Wnt.info _) ?_ (Wnt.one _) ?_); (focus rfl); intro wb H; simp only [Act.put]))
    generalize wa.heap.size = t18 at H ⊢
    go_upto_region 15 with (first | ((with_reducible refine wpList_load_ifA rfl 26 _ rfl b rfl 26 _ (0, 0) _ (H.get (List.mem_cons_of_mem _ (List.mem_cons_of_mem _ (List.mem_cons_of_mem _ (List.mem_cons_of_mem _ (List.mem_cons_of_mem _ List.mem_cons_self)))))) Tryz.underlying26 rfl (Cor.info _) ?_); simp only [Act.put, List.setIfInBounds_toArray, List.set_cons_succ, List.set_cons_zero]) | ((with_reducible refine wpList_load_ifA rfl 40 _ rfl (b + 1) rfl 40 _ (0, 0) _ (H.get (List.mem_cons_of_mem _ (List.mem_cons_of_mem _ (List.mem_cons_of_mem _ (List.mem_cons_of_mem _ List.mem_cons_self))))) Tryz.underlying40 rfl (Gt.info _) ?_); simp only [Act.put, List.setIfInBounds_toArray, List.set_cons_succ, List.set_cons_zero]) | (go_at_call 13; refine (hend1 _).mono ?_; rintro e wa ⟨rfl, hB⟩; dsimp only; replace H := H.grow hB) | ((with_reducible refine wpList_store_new H rfl 26 _ _ rfl x.cells rfl rfl (Cor.info _) ?_ (Cor.one _) ?_); (focus (rw [Cor.size]; rfl)); intro wb H; simp only [Act.put]))
    generalize wa.heap.size = t20 at H ⊢
    have hl : ∀ p ∈ [(t20, x.cells, (26 : TypeId)), (t18, V.cells, (30 : TypeId)), (z, (putX c r hr o).cells, (26 : TypeId)), (t15, V.cells, (30 : TypeId)), (t12, i.cells, (47 : TypeId)), (b + 1, k.cells, (40 : TypeId)), (b, c.cells, (26 : TypeId))], p.1 < wb.heap.size := fun p hp => (Array.getElem?_eq_some_iff.1 (H.box p hp).2).1
    go_upto_region 16 with (first | ((with_reducible refine wpList_load_ifA rfl 26 _ rfl z rfl 26 _ (0, 0) _ (H.get (List.mem_cons_of_mem _ (List.mem_cons_of_mem _ List.mem_cons_self))) Tryz.underlying26 rfl (Cor.info _) ?_); simp only [Act.put, List.setIfInBounds_toArray, List.set_cons_succ, List.set_cons_zero]) | ((with_reducible refine wpList_load_ifA rfl 40 _ rfl (b + 1) rfl 40 _ (0, 0) _ (H.get (List.mem_cons_of_mem _ (List.mem_cons_of_mem _ (List.mem_cons_of_mem _ (List.mem_cons_of_mem _ (List.mem_cons_of_mem _ List.mem_cons_self)))))) Tryz.underlying40 rfl (Gt.info _) ?_); simp only [Act.put, List.setIfInBounds_toArray, List.set_cons_succ, List.set_cons_zero]) | (go_at_call 13; refine (hend2 _).mono ?_; rintro e wa ⟨rfl, hB⟩; dsimp only; replace H := H.grow hB; have hsz := hB.size) | ((with_reducible refine wpList_store_new H rfl 26 _ _ rfl x.cells rfl rfl (Cor.info _) ?_ (Cor.one _) ?_); (focus (rw [Cor.size]; rfl)); intro wb H; simp only [Act.put]))
    generalize wa.heap.size = t22 at H ⊢
    go_wp2_with (first | ((with_reducible refine wpList_load_ifA rfl 30 _ rfl t15 rfl 30 _ (0, 0) _ (H.get (List.mem_cons_of_mem _ (List.mem_cons_of_mem _ (List.mem_cons_of_mem _ (List.mem_cons_of_mem _ List.mem_cons_self))))) Tryz.underlying30 rfl (Wnt.info _) ?_); simp only [Act.put, List.setIfInBounds_toArray, List.set_cons_succ, List.set_cons_zero]) | ((with_reducible refine wpList_load_ifA rfl 30 _ rfl t18 rfl 30 _ (0, 0) _ (H.get (List.mem_cons_of_mem _ (List.mem_cons_of_mem _ List.mem_cons_self))) Tryz.underlying30 rfl (Wnt.info _) ?_); simp only [Act.put, List.setIfInBounds_toArray, List.set_cons_succ, List.set_cons_zero]) | ((with_reducible refine wpList_eql_w rfl _ _ rfl _ _ rfl rfl true (eqW_refl _) ?_); simp only [Act.put, List.setIfInBounds_toArray, List.set_cons_succ, List.set_cons_zero]) | ((with_reducible refine wpList_load_ifA rfl 26 _ rfl t20 rfl 26 _ (0, 0) _ (H.get (List.mem_cons_of_mem _ List.mem_cons_self)) Tryz.underlying26 rfl (Cor.info _) ?_); simp only [Act.put, List.setIfInBounds_toArray, List.set_cons_succ, List.set_cons_zero]) | ((with_reducible refine wpList_load_ifA rfl 26 _ rfl t22 rfl 26 _ (0, 0) _ (H.get List.mem_cons_self) Tryz.underlying26 rfl (Cor.info _) ?_); simp only [Act.put, List.setIfInBounds_toArray, List.set_cons_succ, List.set_cons_zero]) | ((with_reducible refine wpList_eql_core rfl _ _ rfl _ _ rfl rfl true (eqC_refl _) ?_); simp only [Act.put, List.setIfInBounds_toArray, List.set_cons_succ, List.set_cons_zero]))
    go_ret
    exact ⟨rfl, by first | exact H.below | (rw [← hb]; exact H.below)⟩
set_option maxRecDepth 8000 in
set_option maxHeartbeats 16000000 in
theorem main_n (c : Cor) (word : Int) (i : Ins) (k : Gt) (o q : Int) (r : Nat) (V : Wnt) (E : Int) (hr : r < 31) (hq : Hid ((q < 0 ∧ -9223372036854775808 ≤ q ∧ (-(q + 1)).tmod 31 = (r : Int)) ∨ (0 ≤ q ∧ q.tmod 31 = (r : Int))))
    (hbeg : ∀ w : World, Calls Tryz.prog 9 #[c.val, .int .u32 word] w fun e w' => e = .returned (.tuple #[V.val, .int .i64 E]) ∧ Below w.heap.size w w') (hdec : ∀ w : World, Calls Tryz.prog 15 #[.int .u32 word] w fun e w' => e = .returned i.val ∧ Below w.heap.size w w') (hB1 : (setOf i (readsV i)).testBit r = false) (hB2 : (setOf i (writesV i)).testBit r = false) (hop : (i.op == 0) = false) (hE : E = 0) (hV : (V.kind == 15) = false) (hF : (k.fault != 0) = false) (x : Cor) (hbeg2 : ∀ w : World, Calls Tryz.prog 9 #[(putX c r hr o).val, .int .u32 word] w fun e w' => e = .returned (.tuple #[V.val, .int .i64 0]) ∧ Below w.heap.size w w') (hend1 : ∀ w : World, Calls Tryz.prog 13 #[c.val, .int .u32 word, k.val] w fun e w' => e = .returned (.tuple #[x.val, .int .i64 0]) ∧ Below w.heap.size w w') (hend2 : ∀ w : World, Calls Tryz.prog 13 #[(putX c r hr o).val, .int .u32 word, k.val] w fun e w' => e = .returned (.tuple #[(putX x r hr o).val, .int .i64 0]) ∧ Below w.heap.size w w') (w : World) :
    Calls Tryz.prog 6 #[c.val, .int .u32 word, k.val, .int .u64 o, .int .i64 q] w fun e w' => e = .returned (.bool true) ∧ Below w.heap.size w w' := by
  go_enter Tryz.func6, Tryz.ntmps6
  go_upto_region 1 with fail
  have H := stwo_start w c.cells k.cells 26 40
  generalize hb : w.heap.size = b at H ⊢
  generalize (w.alloc _).alloc _ = w0 at H ⊢
  go_upto_region 2 with (go_at_call 8; refine (examples_c _).mono ?_; rintro e wa ⟨rfl, hB⟩; dsimp only; replace H := H.grow hB)
  rcases hq.out with ⟨hq0, hq1, hq2⟩ | ⟨hq0, hq2⟩
  · go_upto_region 5 with fail
    go_upto_region 6 with (first | (go_at_call 15; refine (hdec _).mono ?_; rintro e wa ⟨rfl, hB⟩; dsimp only; replace H := H.grow hB) | ((with_reducible refine wpList_store_new H rfl 47 _ _ rfl i.cells rfl rfl (Ins.infoC i) ?_ (Ins.oneC i) ?_); (focus rfl); intro wb H; simp only [Act.put]))
    generalize wa.heap.size = t12 at H ⊢
    go_upto_region 7 with (first | ((with_reducible refine wpList_load_ifA rfl 47 _ rfl t12 rfl 47 _ (0, 0) _ (H.get List.mem_cons_self) Tryz.underlying47 rfl (Ins.infoC i) ?_); simp only [Act.put, List.setIfInBounds_toArray, List.set_cons_succ, List.set_cons_zero]) | (go_at_call 19; refine (Reads_c i _).mono ?_; rintro e wa ⟨vv, rfl, hown, hB⟩; dsimp only; replace H := H.grow hB) | (go_at_call 17; refine (in_row hown r (by omega)).mono ?_; rw [hB1]; rintro e wz ⟨rfl, rfl⟩; dsimp only))
    go_upto_region 8 with (first | ((with_reducible refine wpList_load_ifA rfl 47 _ rfl t12 rfl 47 _ (0, 0) _ (H.get List.mem_cons_self) Tryz.underlying47 rfl (Ins.infoC i) ?_); simp only [Act.put, List.setIfInBounds_toArray, List.set_cons_succ, List.set_cons_zero]) | (go_at_call 16; refine (Writes_c i _).mono ?_; rintro e wa ⟨vv, rfl, hown, hB⟩; dsimp only; replace H := H.grow hB) | (go_at_call 17; refine (in_row hown r (by omega)).mono ?_; rw [hB2]; rintro e wz ⟨rfl, rfl⟩; dsimp only))
    go_upto_region 9 with (first | ((with_reducible refine wpList_load_ifA rfl 26 _ rfl b rfl 26 _ (0, 0) _ (H.get (List.mem_cons_of_mem _ (List.mem_cons_of_mem _ List.mem_cons_self))) Tryz.underlying26 rfl (Cor.info _) ?_); simp only [Act.put, List.setIfInBounds_toArray, List.set_cons_succ, List.set_cons_zero]) | (go_at_call 9; refine (hbeg _).mono ?_; rintro e wa ⟨rfl, hB⟩; dsimp only; replace H := H.grow hB) | ((with_reducible refine wpList_store_new H rfl 30 _ _ rfl V.cells rfl rfl (Wnt.info _) ?_ (Wnt.one _) ?_); (focus rfl); intro wb H; simp only [Act.put]))
    generalize wa.heap.size = t15 at H ⊢
    have o0 := H.at (b := t12) (t := 47) (c := i.cells) (List.mem_cons_of_mem _ List.mem_cons_self) 0 (.int .i64 i.op) rfl
    have k0 := H.at (b := t15) (t := 30) (c := V.cells) List.mem_cons_self 0 (.int .i64 V.kind) rfl
    have g2 := H.at (b := b + 1) (t := 40) (c := k.cells) (List.mem_cons_of_mem _ (List.mem_cons_of_mem _ List.mem_cons_self)) 2 (.int .i64 k.fault) rfl
    subst hE
    have hl : ∀ p ∈ [(t15, V.cells, (30 : TypeId)), (t12, i.cells, (47 : TypeId)), (b + 1, k.cells, (40 : TypeId)), (b, c.cells, (26 : TypeId))], p.1 ≠ wb.heap.size := fun p hp => by
      have := (Array.getElem?_eq_some_iff.1 (H.box p hp).2).1
      omega
    go_upto_region 12 with (first | ((with_reducible refine wpList_load_ifA rfl 26 _ rfl b rfl 26 _ (0, 0) _ (H.get (List.mem_cons_of_mem _ (List.mem_cons_of_mem _ (List.mem_cons_of_mem _ List.mem_cons_self)))) Tryz.underlying26 rfl (Cor.info _) ?_); simp only [Act.put, List.setIfInBounds_toArray, List.set_cons_succ, List.set_cons_zero]) | ((with_reducible refine wpList_store_new H rfl 26 _ _ rfl c.cells rfl rfl (Cor.info _) ?_ (Cor.one _) ?_); (focus (rw [Cor.size]; rfl)); intro wc H; simp only [Act.put]))
    clear o0 k0 g2
    generalize wb.heap.size = z at H hl ⊢
    have cz := H.at (b := z) (t := 26) (c := c.cells) List.mem_cons_self r (.int .u64 c.x[r]) (c.atX r hr)
    have fz := frozen_of_row _ z r _ _ (H.get List.mem_cons_self)
    have hrI : (r : Int) < 31 := by omega
    go_upto_region 13 with ((with_reducible refine wpList_store_int rfl 22 _ _ rfl z r .u64 o rfl rfl _ cz fz size22 ?_); generalize hw3 : World.setCell _ _ _ = w3; simp only [Act.put])
    have H3 : Has w [(z, (putX c r hr o).cells, 26), (t15, V.cells, 30), (t12, i.cells, 47), (b + 1, k.cells, 40), (b, c.cells, 26)] w3 := by
      have := H.setAt hl r (.int .u64 o)
      rw [show (Value.int .u64 o) = vU o from rfl, c.setX r o hr] at this
      rw [← hw3]
      exact this
    replace H := H3
    clear H3 hw3 cz fz hl
    go_upto_region 14 with (first | ((with_reducible refine wpList_load_ifA rfl 26 _ rfl z rfl 26 _ (0, 0) _ (H.get List.mem_cons_self) Tryz.underlying26 rfl (Cor.info _) ?_); simp only [Act.put, List.setIfInBounds_toArray, List.set_cons_succ, List.set_cons_zero]) | (go_at_call 9; refine (hbeg2 _).mono ?_; rintro e wa ⟨rfl, hB⟩; dsimp only; replace H := H.grow hB) | ((with_reducible refine wpList_store_new H rfl 30 _ _ rfl V.cells rfl rfl (Wnt.info _) ?_ (Wnt.one _) ?_); (focus rfl); intro wb H; simp only [Act.put]))
    generalize wa.heap.size = t18 at H ⊢
    go_upto_region 15 with (first | ((with_reducible refine wpList_load_ifA rfl 26 _ rfl b rfl 26 _ (0, 0) _ (H.get (List.mem_cons_of_mem _ (List.mem_cons_of_mem _ (List.mem_cons_of_mem _ (List.mem_cons_of_mem _ (List.mem_cons_of_mem _ List.mem_cons_self)))))) Tryz.underlying26 rfl (Cor.info _) ?_); simp only [Act.put, List.setIfInBounds_toArray, List.set_cons_succ, List.set_cons_zero]) | ((with_reducible refine wpList_load_ifA rfl 40 _ rfl (b + 1) rfl 40 _ (0, 0) _ (H.get (List.mem_cons_of_mem _ (List.mem_cons_of_mem _ (List.mem_cons_of_mem _ (List.mem_cons_of_mem _ List.mem_cons_self))))) Tryz.underlying40 rfl (Gt.info _) ?_); simp only [Act.put, List.setIfInBounds_toArray, List.set_cons_succ, List.set_cons_zero]) | (go_at_call 13; refine (hend1 _).mono ?_; rintro e wa ⟨rfl, hB⟩; dsimp only; replace H := H.grow hB) | ((with_reducible refine wpList_store_new H rfl 26 _ _ rfl x.cells rfl rfl (Cor.info _) ?_ (Cor.one _) ?_); (focus (rw [Cor.size]; rfl)); intro wb H; simp only [Act.put]))
    generalize wa.heap.size = t20 at H ⊢
    have hl : ∀ p ∈ [(t20, x.cells, (26 : TypeId)), (t18, V.cells, (30 : TypeId)), (z, (putX c r hr o).cells, (26 : TypeId)), (t15, V.cells, (30 : TypeId)), (t12, i.cells, (47 : TypeId)), (b + 1, k.cells, (40 : TypeId)), (b, c.cells, (26 : TypeId))], p.1 < wb.heap.size := fun p hp => (Array.getElem?_eq_some_iff.1 (H.box p hp).2).1
    go_upto_region 16 with (first | ((with_reducible refine wpList_load_ifA rfl 26 _ rfl z rfl 26 _ (0, 0) _ (H.get (List.mem_cons_of_mem _ (List.mem_cons_of_mem _ List.mem_cons_self))) Tryz.underlying26 rfl (Cor.info _) ?_); simp only [Act.put, List.setIfInBounds_toArray, List.set_cons_succ, List.set_cons_zero]) | ((with_reducible refine wpList_load_ifA rfl 40 _ rfl (b + 1) rfl 40 _ (0, 0) _ (H.get (List.mem_cons_of_mem _ (List.mem_cons_of_mem _ (List.mem_cons_of_mem _ (List.mem_cons_of_mem _ (List.mem_cons_of_mem _ List.mem_cons_self)))))) Tryz.underlying40 rfl (Gt.info _) ?_); simp only [Act.put, List.setIfInBounds_toArray, List.set_cons_succ, List.set_cons_zero]) | (go_at_call 13; refine (hend2 _).mono ?_; rintro e wa ⟨rfl, hB⟩; dsimp only; replace H := H.grow hB; have hsz := hB.size) | ((with_reducible refine wpList_store_new H rfl 26 _ _ rfl (putX x r hr o).cells rfl rfl (Cor.info _) ?_ (Cor.one _) ?_); (focus (rw [Cor.size]; rfl)); intro wb H; simp only [Act.put]))
    have hl2 : ∀ p ∈ [(t20, x.cells, (26 : TypeId)), (t18, V.cells, (30 : TypeId)), (z, (putX c r hr o).cells, (26 : TypeId)), (t15, V.cells, (30 : TypeId)), (t12, i.cells, (47 : TypeId)), (b + 1, k.cells, (40 : TypeId)), (b, c.cells, (26 : TypeId))], p.1 ≠ wa.heap.size := fun p hp => by
      have := hl p hp
      omega
    clear hl
    generalize wa.heap.size = t22 at H hl2 ⊢
    have cy := H.at (b := t22) (t := 26) (c := (putX x r hr o).cells) List.mem_cons_self r _ ((putX x r hr o).atX r hr)
    have fy := frozen_of_row _ t22 r _ _ (H.get List.mem_cons_self)
    have cx := H.at (b := t20) (t := 26) (c := x.cells) (List.mem_cons_of_mem _ List.mem_cons_self) r (.int .u64 x.x[r]) (x.atX r hr)
    go_upto_region 18 with ((with_reducible refine wpList_store_int rfl 22 _ _ rfl t22 r .u64 x.x[r] rfl rfl _ cy fy size22 ?_); generalize hw4 : World.setCell _ _ _ = w4; simp only [Act.put])
    have H4 : Has w [(t22, x.cells, 26), (t20, x.cells, 26), (t18, V.cells, 30), (z, (putX c r hr o).cells, 26), (t15, V.cells, 30), (t12, i.cells, 47), (b + 1, k.cells, 40), (b, c.cells, 26)] w4 := by
      have := H.setAt hl2 r (.int .u64 x.x[r])
      rw [put_back x r hr o] at this
      rw [← hw4]
      exact this
    replace H := H4
    clear H4 hw4 cy fy cx hl2
    go_wp2_with (first | ((with_reducible refine wpList_load_ifA rfl 30 _ rfl t15 rfl 30 _ (0, 0) _ (H.get (List.mem_cons_of_mem _ (List.mem_cons_of_mem _ (List.mem_cons_of_mem _ (List.mem_cons_of_mem _ List.mem_cons_self))))) Tryz.underlying30 rfl (Wnt.info _) ?_); simp only [Act.put, List.setIfInBounds_toArray, List.set_cons_succ, List.set_cons_zero]) | ((with_reducible refine wpList_load_ifA rfl 30 _ rfl t18 rfl 30 _ (0, 0) _ (H.get (List.mem_cons_of_mem _ (List.mem_cons_of_mem _ List.mem_cons_self))) Tryz.underlying30 rfl (Wnt.info _) ?_); simp only [Act.put, List.setIfInBounds_toArray, List.set_cons_succ, List.set_cons_zero]) | ((with_reducible refine wpList_eql_w rfl _ _ rfl _ _ rfl rfl true (eqW_refl _) ?_); simp only [Act.put, List.setIfInBounds_toArray, List.set_cons_succ, List.set_cons_zero]) | ((with_reducible refine wpList_load_ifA rfl 26 _ rfl t20 rfl 26 _ (0, 0) _ (H.get (List.mem_cons_of_mem _ List.mem_cons_self)) Tryz.underlying26 rfl (Cor.info _) ?_); simp only [Act.put, List.setIfInBounds_toArray, List.set_cons_succ, List.set_cons_zero]) | ((with_reducible refine wpList_load_ifA rfl 26 _ rfl t22 rfl 26 _ (0, 0) _ (H.get List.mem_cons_self) Tryz.underlying26 rfl (Cor.info _) ?_); simp only [Act.put, List.setIfInBounds_toArray, List.set_cons_succ, List.set_cons_zero]) | ((with_reducible refine wpList_eql_core rfl _ _ rfl _ _ rfl rfl true (eqC_refl _) ?_); simp only [Act.put, List.setIfInBounds_toArray, List.set_cons_succ, List.set_cons_zero]))
    go_ret
    exact ⟨rfl, by first | exact H.below | (rw [← hb]; exact H.below)⟩
  · go_upto_region 5 with fail
    go_upto_region 6 with (first | (go_at_call 15; refine (hdec _).mono ?_; rintro e wa ⟨rfl, hB⟩; dsimp only; replace H := H.grow hB) | ((with_reducible refine wpList_store_new H rfl 47 _ _ rfl i.cells rfl rfl (Ins.infoC i) ?_ (Ins.oneC i) ?_); (focus rfl); intro wb H; simp only [Act.put]))
    generalize wa.heap.size = t12 at H ⊢
    go_upto_region 7 with (first | ((with_reducible refine wpList_load_ifA rfl 47 _ rfl t12 rfl 47 _ (0, 0) _ (H.get List.mem_cons_self) Tryz.underlying47 rfl (Ins.infoC i) ?_); simp only [Act.put, List.setIfInBounds_toArray, List.set_cons_succ, List.set_cons_zero]) | (go_at_call 19; refine (Reads_c i _).mono ?_; rintro e wa ⟨vv, rfl, hown, hB⟩; dsimp only; replace H := H.grow hB) | (go_at_call 17; refine (in_row hown r (by omega)).mono ?_; rw [hB1]; rintro e wz ⟨rfl, rfl⟩; dsimp only))
    go_upto_region 8 with (first | ((with_reducible refine wpList_load_ifA rfl 47 _ rfl t12 rfl 47 _ (0, 0) _ (H.get List.mem_cons_self) Tryz.underlying47 rfl (Ins.infoC i) ?_); simp only [Act.put, List.setIfInBounds_toArray, List.set_cons_succ, List.set_cons_zero]) | (go_at_call 16; refine (Writes_c i _).mono ?_; rintro e wa ⟨vv, rfl, hown, hB⟩; dsimp only; replace H := H.grow hB) | (go_at_call 17; refine (in_row hown r (by omega)).mono ?_; rw [hB2]; rintro e wz ⟨rfl, rfl⟩; dsimp only))
    go_upto_region 9 with (first | ((with_reducible refine wpList_load_ifA rfl 26 _ rfl b rfl 26 _ (0, 0) _ (H.get (List.mem_cons_of_mem _ (List.mem_cons_of_mem _ List.mem_cons_self))) Tryz.underlying26 rfl (Cor.info _) ?_); simp only [Act.put, List.setIfInBounds_toArray, List.set_cons_succ, List.set_cons_zero]) | (go_at_call 9; refine (hbeg _).mono ?_; rintro e wa ⟨rfl, hB⟩; dsimp only; replace H := H.grow hB) | ((with_reducible refine wpList_store_new H rfl 30 _ _ rfl V.cells rfl rfl (Wnt.info _) ?_ (Wnt.one _) ?_); (focus rfl); intro wb H; simp only [Act.put]))
    generalize wa.heap.size = t15 at H ⊢
    have o0 := H.at (b := t12) (t := 47) (c := i.cells) (List.mem_cons_of_mem _ List.mem_cons_self) 0 (.int .i64 i.op) rfl
    have k0 := H.at (b := t15) (t := 30) (c := V.cells) List.mem_cons_self 0 (.int .i64 V.kind) rfl
    have g2 := H.at (b := b + 1) (t := 40) (c := k.cells) (List.mem_cons_of_mem _ (List.mem_cons_of_mem _ List.mem_cons_self)) 2 (.int .i64 k.fault) rfl
    subst hE
    have hl : ∀ p ∈ [(t15, V.cells, (30 : TypeId)), (t12, i.cells, (47 : TypeId)), (b + 1, k.cells, (40 : TypeId)), (b, c.cells, (26 : TypeId))], p.1 ≠ wb.heap.size := fun p hp => by
      have := (Array.getElem?_eq_some_iff.1 (H.box p hp).2).1
      omega
    go_upto_region 12 with (first | ((with_reducible refine wpList_load_ifA rfl 26 _ rfl b rfl 26 _ (0, 0) _ (H.get (List.mem_cons_of_mem _ (List.mem_cons_of_mem _ (List.mem_cons_of_mem _ List.mem_cons_self)))) Tryz.underlying26 rfl (Cor.info _) ?_); simp only [Act.put, List.setIfInBounds_toArray, List.set_cons_succ, List.set_cons_zero]) | ((with_reducible refine wpList_store_new H rfl 26 _ _ rfl c.cells rfl rfl (Cor.info _) ?_ (Cor.one _) ?_); (focus (rw [Cor.size]; rfl)); intro wc H; simp only [Act.put]))
    clear o0 k0 g2
    generalize wb.heap.size = z at H hl ⊢
    have cz := H.at (b := z) (t := 26) (c := c.cells) List.mem_cons_self r (.int .u64 c.x[r]) (c.atX r hr)
    have fz := frozen_of_row _ z r _ _ (H.get List.mem_cons_self)
    have hrI : (r : Int) < 31 := by omega
    go_upto_region 13 with ((with_reducible refine wpList_store_int rfl 22 _ _ rfl z r .u64 o rfl rfl _ cz fz size22 ?_); generalize hw3 : World.setCell _ _ _ = w3; simp only [Act.put])
    have H3 : Has w [(z, (putX c r hr o).cells, 26), (t15, V.cells, 30), (t12, i.cells, 47), (b + 1, k.cells, 40), (b, c.cells, 26)] w3 := by
      have := H.setAt hl r (.int .u64 o)
      rw [show (Value.int .u64 o) = vU o from rfl, c.setX r o hr] at this
      rw [← hw3]
      exact this
    replace H := H3
    clear H3 hw3 cz fz hl
    go_upto_region 14 with (first | ((with_reducible refine wpList_load_ifA rfl 26 _ rfl z rfl 26 _ (0, 0) _ (H.get List.mem_cons_self) Tryz.underlying26 rfl (Cor.info _) ?_); simp only [Act.put, List.setIfInBounds_toArray, List.set_cons_succ, List.set_cons_zero]) | (go_at_call 9; refine (hbeg2 _).mono ?_; rintro e wa ⟨rfl, hB⟩; dsimp only; replace H := H.grow hB) | ((with_reducible refine wpList_store_new H rfl 30 _ _ rfl V.cells rfl rfl (Wnt.info _) ?_ (Wnt.one _) ?_); (focus rfl); intro wb H; simp only [Act.put]))
    generalize wa.heap.size = t18 at H ⊢
    go_upto_region 15 with (first | ((with_reducible refine wpList_load_ifA rfl 26 _ rfl b rfl 26 _ (0, 0) _ (H.get (List.mem_cons_of_mem _ (List.mem_cons_of_mem _ (List.mem_cons_of_mem _ (List.mem_cons_of_mem _ (List.mem_cons_of_mem _ List.mem_cons_self)))))) Tryz.underlying26 rfl (Cor.info _) ?_); simp only [Act.put, List.setIfInBounds_toArray, List.set_cons_succ, List.set_cons_zero]) | ((with_reducible refine wpList_load_ifA rfl 40 _ rfl (b + 1) rfl 40 _ (0, 0) _ (H.get (List.mem_cons_of_mem _ (List.mem_cons_of_mem _ (List.mem_cons_of_mem _ (List.mem_cons_of_mem _ List.mem_cons_self))))) Tryz.underlying40 rfl (Gt.info _) ?_); simp only [Act.put, List.setIfInBounds_toArray, List.set_cons_succ, List.set_cons_zero]) | (go_at_call 13; refine (hend1 _).mono ?_; rintro e wa ⟨rfl, hB⟩; dsimp only; replace H := H.grow hB) | ((with_reducible refine wpList_store_new H rfl 26 _ _ rfl x.cells rfl rfl (Cor.info _) ?_ (Cor.one _) ?_); (focus (rw [Cor.size]; rfl)); intro wb H; simp only [Act.put]))
    generalize wa.heap.size = t20 at H ⊢
    have hl : ∀ p ∈ [(t20, x.cells, (26 : TypeId)), (t18, V.cells, (30 : TypeId)), (z, (putX c r hr o).cells, (26 : TypeId)), (t15, V.cells, (30 : TypeId)), (t12, i.cells, (47 : TypeId)), (b + 1, k.cells, (40 : TypeId)), (b, c.cells, (26 : TypeId))], p.1 < wb.heap.size := fun p hp => (Array.getElem?_eq_some_iff.1 (H.box p hp).2).1
    go_upto_region 16 with (first | ((with_reducible refine wpList_load_ifA rfl 26 _ rfl z rfl 26 _ (0, 0) _ (H.get (List.mem_cons_of_mem _ (List.mem_cons_of_mem _ List.mem_cons_self))) Tryz.underlying26 rfl (Cor.info _) ?_); simp only [Act.put, List.setIfInBounds_toArray, List.set_cons_succ, List.set_cons_zero]) | ((with_reducible refine wpList_load_ifA rfl 40 _ rfl (b + 1) rfl 40 _ (0, 0) _ (H.get (List.mem_cons_of_mem _ (List.mem_cons_of_mem _ (List.mem_cons_of_mem _ (List.mem_cons_of_mem _ (List.mem_cons_of_mem _ List.mem_cons_self)))))) Tryz.underlying40 rfl (Gt.info _) ?_); simp only [Act.put, List.setIfInBounds_toArray, List.set_cons_succ, List.set_cons_zero]) | (go_at_call 13; refine (hend2 _).mono ?_; rintro e wa ⟨rfl, hB⟩; dsimp only; replace H := H.grow hB; have hsz := hB.size) | ((with_reducible refine wpList_store_new H rfl 26 _ _ rfl (putX x r hr o).cells rfl rfl (Cor.info _) ?_ (Cor.one _) ?_); (focus (rw [Cor.size]; rfl)); intro wb H; simp only [Act.put]))
    have hl2 : ∀ p ∈ [(t20, x.cells, (26 : TypeId)), (t18, V.cells, (30 : TypeId)), (z, (putX c r hr o).cells, (26 : TypeId)), (t15, V.cells, (30 : TypeId)), (t12, i.cells, (47 : TypeId)), (b + 1, k.cells, (40 : TypeId)), (b, c.cells, (26 : TypeId))], p.1 ≠ wa.heap.size := fun p hp => by
      have := hl p hp
      omega
    clear hl
    generalize wa.heap.size = t22 at H hl2 ⊢
    have cy := H.at (b := t22) (t := 26) (c := (putX x r hr o).cells) List.mem_cons_self r _ ((putX x r hr o).atX r hr)
    have fy := frozen_of_row _ t22 r _ _ (H.get List.mem_cons_self)
    have cx := H.at (b := t20) (t := 26) (c := x.cells) (List.mem_cons_of_mem _ List.mem_cons_self) r (.int .u64 x.x[r]) (x.atX r hr)
    go_upto_region 18 with ((with_reducible refine wpList_store_int rfl 22 _ _ rfl t22 r .u64 x.x[r] rfl rfl _ cy fy size22 ?_); generalize hw4 : World.setCell _ _ _ = w4; simp only [Act.put])
    have H4 : Has w [(t22, x.cells, 26), (t20, x.cells, 26), (t18, V.cells, 30), (z, (putX c r hr o).cells, 26), (t15, V.cells, 30), (t12, i.cells, 47), (b + 1, k.cells, 40), (b, c.cells, 26)] w4 := by
      have := H.setAt hl2 r (.int .u64 x.x[r])
      rw [put_back x r hr o] at this
      rw [← hw4]
      exact this
    replace H := H4
    clear H4 hw4 cy fy cx hl2
    go_wp2_with (first | ((with_reducible refine wpList_load_ifA rfl 30 _ rfl t15 rfl 30 _ (0, 0) _ (H.get (List.mem_cons_of_mem _ (List.mem_cons_of_mem _ (List.mem_cons_of_mem _ (List.mem_cons_of_mem _ List.mem_cons_self))))) Tryz.underlying30 rfl (Wnt.info _) ?_); simp only [Act.put, List.setIfInBounds_toArray, List.set_cons_succ, List.set_cons_zero]) | ((with_reducible refine wpList_load_ifA rfl 30 _ rfl t18 rfl 30 _ (0, 0) _ (H.get (List.mem_cons_of_mem _ (List.mem_cons_of_mem _ List.mem_cons_self))) Tryz.underlying30 rfl (Wnt.info _) ?_); simp only [Act.put, List.setIfInBounds_toArray, List.set_cons_succ, List.set_cons_zero]) | ((with_reducible refine wpList_eql_w rfl _ _ rfl _ _ rfl rfl true (eqW_refl _) ?_); simp only [Act.put, List.setIfInBounds_toArray, List.set_cons_succ, List.set_cons_zero]) | ((with_reducible refine wpList_load_ifA rfl 26 _ rfl t20 rfl 26 _ (0, 0) _ (H.get (List.mem_cons_of_mem _ List.mem_cons_self)) Tryz.underlying26 rfl (Cor.info _) ?_); simp only [Act.put, List.setIfInBounds_toArray, List.set_cons_succ, List.set_cons_zero]) | ((with_reducible refine wpList_load_ifA rfl 26 _ rfl t22 rfl 26 _ (0, 0) _ (H.get List.mem_cons_self) Tryz.underlying26 rfl (Cor.info _) ?_); simp only [Act.put, List.setIfInBounds_toArray, List.set_cons_succ, List.set_cons_zero]) | ((with_reducible refine wpList_eql_core rfl _ _ rfl _ _ rfl rfl true (eqC_refl _) ?_); simp only [Act.put, List.setIfInBounds_toArray, List.set_cons_succ, List.set_cons_zero]))
    go_ret
    exact ⟨rfl, by first | exact H.below | (rw [← hb]; exact H.below)⟩
end Go.Proofs.YtbjcdpmhmebjnaaGreat.semReads
