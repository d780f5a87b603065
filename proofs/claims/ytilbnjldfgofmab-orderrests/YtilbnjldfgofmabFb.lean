/- OrderRests: the walk. -/
import Derived.Test.YtilbnjldfgofmabXe
import Derived.Test.YtilbnjldfgofmabFa
import Derived.Test.YtilbnjldfgofmabYc
namespace Go.Proofs.Ytilbnjldfgofmab
open Go.RowKit
set_option linter.unusedVariables false
set_option linter.unusedSimpArgs false
set_option maxRecDepth 8000

section
variable {pc words el : Int} {l : List Opr} {v : Value} {w : World}
set_option maxHeartbeats 16000000 in
theorem rests_walk (hpc : 0 ≤ pc) (O : Ops w v l) (himm : ∀ k, 0 ≤ (opAt l k).imm) (hcap : ∀ ao n cap, v = .slice ao n cap → n ≤ cap) : Calls Try.prog 3 #[blV pc words el v] w fun e w' => e = .returned (.bool true) ∧ Below w.heap.size w w' := by
  have hb := below_alloc w (.cells (blA pc words el v) 25)
  have K1 := Bk.new (pc := pc) (words := words) (el := el) O
  go_enter Try.func3, Try.ntmps3
  go_upto_region 1 with fail
  clear O
  generalize w.alloc (.cells (blA pc words el v) 25) = w1 at *
  generalize w.heap.size = b1 at K1 ⊢
  go_upto_region 2 with (first | (go_at_call 4; (with_reducible refine (examples_c _).mono ?_); rintro e w2 ⟨rfl, B⟩; dsimp only))
  replace K1 := K1.grow B
  replace hb := below_then hb (Nat.le_refl _) B
  clear B
  cases hR : rightB pc words el l with
  | false =>
    replace hR := show Hid _ from hR
    have kp := merge_pass (words := words) (el := el) hpc K1.ops himm hcap
    have r1 := K1.r
    go_upto_region 3 with (first | ((with_reducible refine wpList_load_if rfl 25 _ rfl _ rfl 25 _ (0, 0) _ r1 Try.underlying25 rfl (bl_inf _ _ _ _) ?_); simp only [Act.put, List.setIfInBounds_toArray, List.set_cons_succ, List.set_cons_zero]) | (go_at_call 5; (with_reducible refine kp.mono ?_); clear kp; rintro e w3 ⟨B, ⟨hr, rfl⟩ | ⟨hr, _⟩⟩; rotate_left; (exfalso; rw [hR.out] at hr; cases hr); dsimp only; clear hr; have Hn := has_none w3) | ((with_reducible refine wpList_store_new Hn rfl 25 _ _ rfl (blA 0 0 0 (.slice none 0 0)) rfl rfl (bl_inf _ _ _ _) (by kernel_rfl) (blk_one _ _ _ _ rfl) ?_); clear Hn; intro w4 Hn; simp only [Act.put, List.setIfInBounds_toArray, List.set_cons_succ, List.set_cons_zero]))
    replace K1 := (K1.grow B).grow Hn.below
    replace hb := below_then (below_then hb (Nat.le_refl _) B) (Nat.le_refl _) Hn.below
    clear Hn B r1
    have kp := loads_pass (words := words) (el := el) hpc K1.ops himm hcap
    have r1 := K1.r
    go_upto_region 4 with (first | ((with_reducible refine wpList_load_if rfl 25 _ rfl _ rfl 25 _ (0, 0) _ r1 Try.underlying25 rfl (bl_inf _ _ _ _) ?_); simp only [Act.put, List.setIfInBounds_toArray, List.set_cons_succ, List.set_cons_zero]) | (go_at_call 6; (with_reducible refine kp.mono ?_); clear kp; rintro e w5 ⟨B, ⟨hr, rfl⟩ | ⟨hr, _⟩⟩; rotate_left; (exfalso; rw [hR.out] at hr; cases hr); dsimp only; clear hr; have Hn := has_none w5) | ((with_reducible refine wpList_store_new Hn rfl 25 _ _ rfl (blA 0 0 0 (.slice none 0 0)) rfl rfl (bl_inf _ _ _ _) (by kernel_rfl) (blk_one _ _ _ _ rfl) ?_); clear Hn; intro w6 Hn; simp only [Act.put, List.setIfInBounds_toArray, List.set_cons_succ, List.set_cons_zero]))
    replace K1 := (K1.grow B).grow Hn.below
    replace hb := below_then (below_then hb (Nat.le_refl _) B) (Nat.le_refl _) Hn.below
    clear Hn B r1
    have kp := move_pass (words := words) (el := el) hpc K1.ops himm hcap
    have r1 := K1.r
    go_upto_region 5 with (first | ((with_reducible refine wpList_load_if rfl 25 _ rfl _ rfl 25 _ (0, 0) _ r1 Try.underlying25 rfl (bl_inf _ _ _ _) ?_); simp only [Act.put, List.setIfInBounds_toArray, List.set_cons_succ, List.set_cons_zero]) | (go_at_call 7; (with_reducible refine kp.mono ?_); clear kp; rintro e w7 ⟨B, ⟨hr, rfl⟩ | ⟨hr, _⟩⟩; rotate_left; (exfalso; rw [hR.out] at hr; cases hr); dsimp only; clear hr; have Hn := has_none w7) | ((with_reducible refine wpList_store_new Hn rfl 25 _ _ rfl (blA 0 0 0 (.slice none 0 0)) rfl rfl (bl_inf _ _ _ _) (by kernel_rfl) (blk_one _ _ _ _ rfl) ?_); clear Hn; intro w8 Hn; simp only [Act.put, List.setIfInBounds_toArray, List.set_cons_succ, List.set_cons_zero]))
    replace K1 := (K1.grow B).grow Hn.below
    replace hb := below_then (below_then hb (Nat.le_refl _) B) (Nat.le_refl _) Hn.below
    clear Hn B r1
    go_wp2
    go_ret
    exact ⟨rfl, hb⟩
  | true =>
    obtain ⟨q4, i4, s4⟩ := merge_rests hR himm
    obtain ⟨q6, i6, s6⟩ := loads_rests hR himm
    obtain ⟨q8, i8, s8⟩ := move_rests hR himm
    have l4 : (mergeL l).length ≤ maxLen := by have := (right_lens q4).2.1; simp only [maxLen]; omega
    have l6 : (loadsL l).length ≤ maxLen := by have := (right_lens q6).2.1; simp only [maxLen]; omega
    have l8 : (moveL l).length ≤ maxLen := by have := (right_lens q8).2.1; simp only [maxLen]; omega
    replace hR := show Hid _ from hR
    replace q4 := show Hid _ from q4
    replace q6 := show Hid _ from q6
    replace q8 := show Hid _ from q8
    replace s4 := show Hid _ from s4
    replace s6 := show Hid _ from s6
    replace s8 := show Hid _ from s8
    replace l4 := show Hid _ from l4
    replace l6 := show Hid _ from l6
    replace l8 := show Hid _ from l8
    have kp := merge_pass (words := words) (el := el) hpc K1.ops himm hcap
    have r1 := K1.r
    go_upto_region 3 with (first | ((with_reducible refine wpList_load_if rfl 25 _ rfl _ rfl 25 _ (0, 0) _ r1 Try.underlying25 rfl (bl_inf _ _ _ _) ?_); simp only [Act.put, List.setIfInBounds_toArray, List.set_cons_succ, List.set_cons_zero]) | (go_at_call 5; (with_reducible refine kp.mono ?_); clear kp; rintro e w3 ⟨B, ⟨hr, _⟩ | ⟨hr, u4, rfl, hown⟩⟩; (exfalso; rw [hR.out] at hr; cases hr); dsimp only; clear hr; have Hn := has_none w3; have hone := own_one hown) | ((with_reducible refine wpList_store_new Hn rfl 25 _ _ rfl (blA pc words el u4) rfl rfl (bl_inf _ _ _ _) (by kernel_rfl) (blk_one _ _ _ _ hone) ?_); clear Hn; intro w4 Hn; simp only [Act.put, List.setIfInBounds_toArray, List.set_cons_succ, List.set_cons_zero]))
    have C4 := opsC_of hown l4.out
    have K4 : Bk w4 w3.heap.size pc words el u4 (mergeL l) := ⟨Hn.get List.mem_cons_self, C4.ops.grow Hn.below⟩
    have cap4 := C4.cap
    replace K1 := (K1.grow B).grow Hn.below
    replace hb := below_then (below_then hb (Nat.le_refl _) B) (Nat.le_refl _) Hn.below
    generalize w3.heap.size = b4 at *
    clear Hn B r1 hown hone C4
    clear w3
    have kp := loads_pass (words := words) (el := el) hpc K1.ops himm hcap
    have r1 := K1.r
    go_upto_region 4 with (first | ((with_reducible refine wpList_load_if rfl 25 _ rfl _ rfl 25 _ (0, 0) _ r1 Try.underlying25 rfl (bl_inf _ _ _ _) ?_); simp only [Act.put, List.setIfInBounds_toArray, List.set_cons_succ, List.set_cons_zero]) | (go_at_call 6; (with_reducible refine kp.mono ?_); clear kp; rintro e w5 ⟨B, ⟨hr, _⟩ | ⟨hr, u6, rfl, hown⟩⟩; (exfalso; rw [hR.out] at hr; cases hr); dsimp only; clear hr; have Hn := has_none w5; have hone := own_one hown) | ((with_reducible refine wpList_store_new Hn rfl 25 _ _ rfl (blA pc words el u6) rfl rfl (bl_inf _ _ _ _) (by kernel_rfl) (blk_one _ _ _ _ hone) ?_); clear Hn; intro w6 Hn; simp only [Act.put, List.setIfInBounds_toArray, List.set_cons_succ, List.set_cons_zero]))
    have C6 := opsC_of hown l6.out
    have K6 : Bk w6 w5.heap.size pc words el u6 (loadsL l) := ⟨Hn.get List.mem_cons_self, C6.ops.grow Hn.below⟩
    have cap6 := C6.cap
    replace K1 := (K1.grow B).grow Hn.below
    replace K4 := (K4.grow B).grow Hn.below
    replace hb := below_then (below_then hb (Nat.le_refl _) B) (Nat.le_refl _) Hn.below
    generalize w5.heap.size = b6 at *
    clear Hn B r1 hown hone C6
    clear w5
    have kp := move_pass (words := words) (el := el) hpc K1.ops himm hcap
    have r1 := K1.r
    go_upto_region 5 with (first | ((with_reducible refine wpList_load_if rfl 25 _ rfl _ rfl 25 _ (0, 0) _ r1 Try.underlying25 rfl (bl_inf _ _ _ _) ?_); simp only [Act.put, List.setIfInBounds_toArray, List.set_cons_succ, List.set_cons_zero]) | (go_at_call 7; (with_reducible refine kp.mono ?_); clear kp; rintro e w7 ⟨B, ⟨hr, _⟩ | ⟨hr, u8, rfl, hown⟩⟩; (exfalso; rw [hR.out] at hr; cases hr); dsimp only; clear hr; have Hn := has_none w7; have hone := own_one hown) | ((with_reducible refine wpList_store_new Hn rfl 25 _ _ rfl (blA pc words el u8) rfl rfl (bl_inf _ _ _ _) (by kernel_rfl) (blk_one _ _ _ _ hone) ?_); clear Hn; intro w8 Hn; simp only [Act.put, List.setIfInBounds_toArray, List.set_cons_succ, List.set_cons_zero]))
    have C8 := opsC_of hown l8.out
    have K8 : Bk w8 w7.heap.size pc words el u8 (moveL l) := ⟨Hn.get List.mem_cons_self, C8.ops.grow Hn.below⟩
    have cap8 := C8.cap
    replace K1 := (K1.grow B).grow Hn.below
    replace K4 := (K4.grow B).grow Hn.below
    replace K6 := (K6.grow B).grow Hn.below
    replace hb := below_then (below_then hb (Nat.le_refl _) B) (Nat.le_refl _) Hn.below
    generalize w7.heap.size = b8 at *
    clear Hn B r1 hown hone C8
    clear w7
    go_upto_region 7 with fail
    have kp := merge_pass (words := words) (el := el) hpc K4.ops i4 cap4
    have r1 := K4.r
    go_upto_region 8 with (first | ((with_reducible refine wpList_load_if rfl 25 _ rfl _ rfl 25 _ (0, 0) _ r1 Try.underlying25 rfl (bl_inf _ _ _ _) ?_); simp only [Act.put, List.setIfInBounds_toArray, List.set_cons_succ, List.set_cons_zero]) | (go_at_call 5; (with_reducible refine kp.mono ?_); clear kp; rintro e w9 ⟨B, ⟨hr, _⟩ | ⟨hr, u10, rfl, hown⟩⟩; (exfalso; rw [q4.out] at hr; cases hr); dsimp only; clear hr; have Hn := has_none w9; have hone := own_one hown) | ((with_reducible refine wpList_store_new Hn rfl 25 _ _ rfl (blA pc words el u10) rfl rfl (bl_inf _ _ _ _) (by kernel_rfl) (blk_one _ _ _ _ hone) ?_); clear Hn; intro w10 Hn; simp only [Act.put, List.setIfInBounds_toArray, List.set_cons_succ, List.set_cons_zero]))
    have C10 := opsC_of hown (by rw [s4.out]; exact l4.out)
    have K10 : Bk w10 w9.heap.size pc words el u10 (mergeL (mergeL l)) := ⟨Hn.get List.mem_cons_self, C10.ops.grow Hn.below⟩
    have cap10 := C10.cap
    replace K4 := (K4.grow B).grow Hn.below
    replace K6 := (K6.grow B).grow Hn.below
    replace K8 := (K8.grow B).grow Hn.below
    replace hb := below_then (below_then hb (Nat.le_refl _) B) (Nat.le_refl _) Hn.below
    generalize w9.heap.size = b10 at *
    clear Hn B r1 hown hone C10
    clear w9
    have kp := loads_pass (words := words) (el := el) hpc K6.ops i6 cap6
    have r1 := K6.r
    go_upto_region 9 with (first | ((with_reducible refine wpList_load_if rfl 25 _ rfl _ rfl 25 _ (0, 0) _ r1 Try.underlying25 rfl (bl_inf _ _ _ _) ?_); simp only [Act.put, List.setIfInBounds_toArray, List.set_cons_succ, List.set_cons_zero]) | (go_at_call 6; (with_reducible refine kp.mono ?_); clear kp; rintro e w11 ⟨B, ⟨hr, _⟩ | ⟨hr, u12, rfl, hown⟩⟩; (exfalso; rw [q6.out] at hr; cases hr); dsimp only; clear hr; have Hn := has_none w11; have hone := own_one hown) | ((with_reducible refine wpList_store_new Hn rfl 25 _ _ rfl (blA pc words el u12) rfl rfl (bl_inf _ _ _ _) (by kernel_rfl) (blk_one _ _ _ _ hone) ?_); clear Hn; intro w12 Hn; simp only [Act.put, List.setIfInBounds_toArray, List.set_cons_succ, List.set_cons_zero]))
    have C12 := opsC_of hown (by rw [s6.out]; exact l6.out)
    have K12 : Bk w12 w11.heap.size pc words el u12 (loadsL (loadsL l)) := ⟨Hn.get List.mem_cons_self, C12.ops.grow Hn.below⟩
    have cap12 := C12.cap
    replace K4 := (K4.grow B).grow Hn.below
    replace K6 := (K6.grow B).grow Hn.below
    replace K8 := (K8.grow B).grow Hn.below
    replace K10 := (K10.grow B).grow Hn.below
    replace hb := below_then (below_then hb (Nat.le_refl _) B) (Nat.le_refl _) Hn.below
    generalize w11.heap.size = b12 at *
    clear Hn B r1 hown hone C12
    clear w11
    have kp := move_pass (words := words) (el := el) hpc K8.ops i8 cap8
    have r1 := K8.r
    go_upto_region 10 with (first | ((with_reducible refine wpList_load_if rfl 25 _ rfl _ rfl 25 _ (0, 0) _ r1 Try.underlying25 rfl (bl_inf _ _ _ _) ?_); simp only [Act.put, List.setIfInBounds_toArray, List.set_cons_succ, List.set_cons_zero]) | (go_at_call 7; (with_reducible refine kp.mono ?_); clear kp; rintro e w13 ⟨B, ⟨hr, _⟩ | ⟨hr, u14, rfl, hown⟩⟩; (exfalso; rw [q8.out] at hr; cases hr); dsimp only; clear hr; have Hn := has_none w13; have hone := own_one hown) | ((with_reducible refine wpList_store_new Hn rfl 25 _ _ rfl (blA pc words el u14) rfl rfl (bl_inf _ _ _ _) (by kernel_rfl) (blk_one _ _ _ _ hone) ?_); clear Hn; intro w14 Hn; simp only [Act.put, List.setIfInBounds_toArray, List.set_cons_succ, List.set_cons_zero]))
    have C14 := opsC_of hown (by rw [s8.out]; exact l8.out)
    have K14 : Bk w14 w13.heap.size pc words el u14 (moveL (moveL l)) := ⟨Hn.get List.mem_cons_self, C14.ops.grow Hn.below⟩
    have cap14 := C14.cap
    replace K4 := (K4.grow B).grow Hn.below
    replace K6 := (K6.grow B).grow Hn.below
    replace K8 := (K8.grow B).grow Hn.below
    replace K10 := (K10.grow B).grow Hn.below
    replace K12 := (K12.grow B).grow Hn.below
    replace hb := below_then (below_then hb (Nat.le_refl _) B) (Nat.le_refl _) Hn.below
    generalize w13.heap.size = b14 at *
    clear Hn B r1 hown hone C14
    clear w13
    have r1 := K10.r
    have r2 := K4.r
    have kp := same_c (pc := pc) (words := words) (el := el) K10.ops K4.ops
    rw [show decide (_ = _) = true from decide_eq_true s4.out] at kp
    go_upto_region 11 with (first | ((with_reducible refine wpList_load_if rfl 25 _ rfl _ rfl 25 _ (0, 0) _ r1 Try.underlying25 rfl (bl_inf _ _ _ _) ?_); simp only [Act.put, List.setIfInBounds_toArray, List.set_cons_succ, List.set_cons_zero]) | ((with_reducible refine wpList_load_if rfl 25 _ rfl _ rfl 25 _ (0, 0) _ r2 Try.underlying25 rfl (bl_inf _ _ _ _) ?_); simp only [Act.put, List.setIfInBounds_toArray, List.set_cons_succ, List.set_cons_zero]) | (go_at_call 8; (with_reducible refine kp.mono ?_); clear kp; rintro e w15 ⟨rfl, B⟩; dsimp only))
    clear r1 r2
    replace K4 := K4.grow B
    replace K6 := K6.grow B
    replace K8 := K8.grow B
    replace K10 := K10.grow B
    replace K12 := K12.grow B
    replace K14 := K14.grow B
    replace hb := below_then hb (Nat.le_refl _) B
    clear B
    have r1 := K12.r
    have r2 := K6.r
    have kp := same_c (pc := pc) (words := words) (el := el) K12.ops K6.ops
    rw [show decide (_ = _) = true from decide_eq_true s6.out] at kp
    go_upto_region 12 with (first | ((with_reducible refine wpList_load_if rfl 25 _ rfl _ rfl 25 _ (0, 0) _ r1 Try.underlying25 rfl (bl_inf _ _ _ _) ?_); simp only [Act.put, List.setIfInBounds_toArray, List.set_cons_succ, List.set_cons_zero]) | ((with_reducible refine wpList_load_if rfl 25 _ rfl _ rfl 25 _ (0, 0) _ r2 Try.underlying25 rfl (bl_inf _ _ _ _) ?_); simp only [Act.put, List.setIfInBounds_toArray, List.set_cons_succ, List.set_cons_zero]) | (go_at_call 8; (with_reducible refine kp.mono ?_); clear kp; rintro e w16 ⟨rfl, B⟩; dsimp only))
    clear r1 r2
    replace K4 := K4.grow B
    replace K6 := K6.grow B
    replace K8 := K8.grow B
    replace K10 := K10.grow B
    replace K12 := K12.grow B
    replace K14 := K14.grow B
    replace hb := below_then hb (Nat.le_refl _) B
    clear B
    have r1 := K14.r
    have r2 := K8.r
    have kp := same_c (pc := pc) (words := words) (el := el) K14.ops K8.ops
    rw [show decide (_ = _) = true from decide_eq_true s8.out] at kp
    go_upto_region 13 with (first | ((with_reducible refine wpList_load_if rfl 25 _ rfl _ rfl 25 _ (0, 0) _ r1 Try.underlying25 rfl (bl_inf _ _ _ _) ?_); simp only [Act.put, List.setIfInBounds_toArray, List.set_cons_succ, List.set_cons_zero]) | ((with_reducible refine wpList_load_if rfl 25 _ rfl _ rfl 25 _ (0, 0) _ r2 Try.underlying25 rfl (bl_inf _ _ _ _) ?_); simp only [Act.put, List.setIfInBounds_toArray, List.set_cons_succ, List.set_cons_zero]) | (go_at_call 8; (with_reducible refine kp.mono ?_); clear kp; rintro e w17 ⟨rfl, B⟩; dsimp only))
    clear r1 r2
    replace K4 := K4.grow B
    replace K6 := K6.grow B
    replace K8 := K8.grow B
    replace K10 := K10.grow B
    replace K12 := K12.grow B
    replace K14 := K14.grow B
    replace hb := below_then hb (Nat.le_refl _) B
    clear B
    go_wp2
    go_ret
    exact ⟨rfl, hb⟩
end
end Go.Proofs.Ytilbnjldfgofmab
