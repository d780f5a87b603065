/- The word of an instruction of the first sixteen Ops: contracts. -/
import Derived.Test.YtmbefmmnkfoneaaDoorLeafs
namespace Go.Proofs.YtmbefmmnkfoneaaDoor
open Go.RowKit Go.Rel

set_option maxRecDepth 4000 in
set_option maxHeartbeats 4000000 in
theorem word1 (sub rd rn rm ra imm imm2 amount shift cond sys : Int) (flags minus not link : Bool) (w : World) : Calls Tryd.prog 24 #[(⟨1, sub, rd, rn, rm, ra, imm, imm2, amount, shift, cond, sys, flags, minus, not, link⟩ : Ins).val] w fun e w' => e = .returned (strV (wordV ⟨1, sub, rd, rn, rm, ra, imm, imm2, amount, shift, cond, sys, flags, minus, not, link⟩)) ∧ Below w.heap.size w w' := by
  have H1 := one_start ⟨1, sub, rd, rn, rm, ra, imm, imm2, amount, shift, cond, sys, flags, minus, not, link⟩ w
  go_enter Tryd.func24, Tryd.ntmps24
  repeat' (first | with_reducible refine then_exit ?_ | with_reducible refine then_normal ?_ | with_reducible refine inBlock_eq ?_ | with_reducible refine inBlock_ne rfl ?_ | with_reducible refine inBlock_normal ?_ | go_step)
  refine wp_region_rel Grows (fun x => One ⟨1, sub, rd, rn, rm, ra, imm, imm2, amount, shift, cond, sys, flags, minus, not, link⟩ w x) [.inl (.pointer (some ⟨w.heap.size, 13, none⟩)), .inl (.bool minus), .inl (strV (bif minus then [115, 117, 98] else [97, 100, 100])), .inl (.pointer (some ⟨w.heap.size, 12, none⟩)), .inl (.bool flags), .inl (strV (bif flags then ([115] : Tx) else [])), .inl (strV ((bif minus then [115, 117, 98] else [97, 100, 100]) ++ (bif flags then ([115] : Tx) else []))), .inl (strV ((bif minus then [115, 117, 98] else [97, 100, 100]) ++ (bif flags then ([115] : Tx) else [])))] (by kernel_rfl) (by kernel_rfl) (One.up _ _) H1.drew (by simp [upK]) ?_
  refine ⟨fun w1 hC _ => by go_simp; exact Below.refl _ _, ?_⟩
  refine ⟨fun w1 hC _ => by have hq := hC.at 13 _ rfl; go_simp; exact Below.refl _ _, ?_⟩
  refine ⟨fun w1 hC _ => ?_, ?_⟩
  · go_simp
    refine (either_t _ _ _ w1).mono ?_
    rintro e w2 ⟨rfl, rfl⟩
    exact ⟨rfl, Below.refl _ _⟩
  refine ⟨fun w1 hC _ => by go_simp; exact Below.refl _ _, ?_⟩
  refine ⟨fun w1 hC _ => by have hq := hC.at 12 _ rfl; go_simp; exact Below.refl _ _, ?_⟩
  refine ⟨fun w1 hC _ => ?_, ?_⟩
  · go_simp
    refine (either_t _ _ _ w1).mono ?_
    rintro e w2 ⟨rfl, rfl⟩
    exact ⟨rfl, Below.refl _ _⟩
  refine ⟨fun w1 hC _ => ?_, ?_⟩
  · go_simp
    rw [if_neg (by cases minus <;> cases flags <;> decide)]
    exact ⟨Below.refl _ _, congrArg Value.string (str_app _ _)⟩
  refine ⟨fun w1 hC _ => by go_simp; exact Below.refl _ _, ?_⟩
  intro w1 hC _
  replace hC := hC.below
  simp only [Act.put, List.setIfInBounds_toArray, List.set_cons_succ, List.set_cons_zero]
  repeat' (first | with_reducible refine then_exit ?_ | with_reducible refine then_normal ?_ | with_reducible refine inBlock_eq ?_ | with_reducible refine inBlock_ne rfl ?_ | with_reducible refine inBlock_normal ?_ | go_step)
  go_ret
  exact ⟨rfl, hC⟩

set_option maxRecDepth 4000 in
set_option maxHeartbeats 4000000 in
theorem word2 (sub rd rn rm ra imm imm2 amount shift cond sys : Int) (flags minus not link : Bool) (w : World) : Calls Tryd.prog 24 #[(⟨2, sub, rd, rn, rm, ra, imm, imm2, amount, shift, cond, sys, flags, minus, not, link⟩ : Ins).val] w fun e w' => e = .returned (strV (wordV ⟨2, sub, rd, rn, rm, ra, imm, imm2, amount, shift, cond, sys, flags, minus, not, link⟩)) ∧ Below w.heap.size w w' := by
  have H1 := one_start ⟨2, sub, rd, rn, rm, ra, imm, imm2, amount, shift, cond, sys, flags, minus, not, link⟩ w
  go_enter Tryd.func24, Tryd.ntmps24
  repeat' (first | with_reducible refine then_exit ?_ | with_reducible refine then_normal ?_ | with_reducible refine inBlock_eq ?_ | with_reducible refine inBlock_ne rfl ?_ | with_reducible refine inBlock_normal ?_ | go_step)
  refine wp_region_rel Grows (fun x => One ⟨2, sub, rd, rn, rm, ra, imm, imm2, amount, shift, cond, sys, flags, minus, not, link⟩ w x) [.inl (.pointer (some ⟨w.heap.size, 13, none⟩)), .inl (.bool minus), .inl (strV (bif minus then [115, 117, 98] else [97, 100, 100])), .inl (.pointer (some ⟨w.heap.size, 12, none⟩)), .inl (.bool flags), .inl (strV (bif flags then ([115] : Tx) else [])), .inl (strV ((bif minus then [115, 117, 98] else [97, 100, 100]) ++ (bif flags then ([115] : Tx) else []))), .inl (strV ((bif minus then [115, 117, 98] else [97, 100, 100]) ++ (bif flags then ([115] : Tx) else [])))] (by kernel_rfl) (by kernel_rfl) (One.up _ _) H1.drew (by simp [upK]) ?_
  refine ⟨fun w1 hC _ => by go_simp; exact Below.refl _ _, ?_⟩
  refine ⟨fun w1 hC _ => by have hq := hC.at 13 _ rfl; go_simp; exact Below.refl _ _, ?_⟩
  refine ⟨fun w1 hC _ => ?_, ?_⟩
  · go_simp
    refine (either_t _ _ _ w1).mono ?_
    rintro e w2 ⟨rfl, rfl⟩
    exact ⟨rfl, Below.refl _ _⟩
  refine ⟨fun w1 hC _ => by go_simp; exact Below.refl _ _, ?_⟩
  refine ⟨fun w1 hC _ => by have hq := hC.at 12 _ rfl; go_simp; exact Below.refl _ _, ?_⟩
  refine ⟨fun w1 hC _ => ?_, ?_⟩
  · go_simp
    refine (either_t _ _ _ w1).mono ?_
    rintro e w2 ⟨rfl, rfl⟩
    exact ⟨rfl, Below.refl _ _⟩
  refine ⟨fun w1 hC _ => ?_, ?_⟩
  · go_simp
    rw [if_neg (by cases minus <;> cases flags <;> decide)]
    exact ⟨Below.refl _ _, congrArg Value.string (str_app _ _)⟩
  refine ⟨fun w1 hC _ => by go_simp; exact Below.refl _ _, ?_⟩
  intro w1 hC _
  replace hC := hC.below
  simp only [Act.put, List.setIfInBounds_toArray, List.set_cons_succ, List.set_cons_zero]
  repeat' (first | with_reducible refine then_exit ?_ | with_reducible refine then_normal ?_ | with_reducible refine inBlock_eq ?_ | with_reducible refine inBlock_ne rfl ?_ | with_reducible refine inBlock_normal ?_ | go_step)
  go_ret
  exact ⟨rfl, hC⟩

set_option maxRecDepth 4000 in
set_option maxHeartbeats 4000000 in
theorem word3 (sub rd rn rm ra imm imm2 amount shift cond sys : Int) (flags minus not link : Bool) (h0 : 0 ≤ sub) (h1 : sub ≤ 2) (w : World) : Calls Tryd.prog 24 #[(⟨3, sub, rd, rn, rm, ra, imm, imm2, amount, shift, cond, sys, flags, minus, not, link⟩ : Ins).val] w fun e w' => e = .returned (strV (wordV ⟨3, sub, rd, rn, rm, ra, imm, imm2, amount, shift, cond, sys, flags, minus, not, link⟩)) ∧ Below w.heap.size w w' := by
  have H1 := one_start ⟨3, sub, rd, rn, rm, ra, imm, imm2, amount, shift, cond, sys, flags, minus, not, link⟩ w
  have hL : (bif not then bicT sub else andT sub).length ≤ 3 := by
    have : sub = 0 ∨ sub = 1 ∨ sub = 2 := by omega
    rcases this with rfl | rfl | rfl <;> cases not <;> decide
  have hN : Hid (¬ 9223372036854775807 < (bif not then bicT sub else andT sub).length + (bif flags then ([115] : Tx) else []).length) := by
    show ¬ _
    have : (bif flags then ([115] : Tx) else []).length ≤ 1 := by cases flags <;> decide
    omega
  clear hL
  have h0 : Hid (0 ≤ sub) := h0
  have h1 : Hid (sub ≤ 2) := h1
  go_enter Tryd.func24, Tryd.ntmps24
  repeat' (first | with_reducible refine then_exit ?_ | with_reducible refine then_normal ?_ | with_reducible refine inBlock_eq ?_ | with_reducible refine inBlock_ne rfl ?_ | with_reducible refine inBlock_normal ?_ | go_step)
  refine wp_region_rel Grows (fun x => One ⟨3, sub, rd, rn, rm, ra, imm, imm2, amount, shift, cond, sys, flags, minus, not, link⟩ w x) [.inl (⟨3, sub, rd, rn, rm, ra, imm, imm2, amount, shift, cond, sys, flags, minus, not, link⟩ : Ins).val, .inl (strV (bif not then bicT sub else andT sub)), .inl (.pointer (some ⟨w.heap.size, 12, none⟩)), .inl (.bool flags), .inl (strV (bif flags then ([115] : Tx) else [])), .inl (strV ((bif not then bicT sub else andT sub) ++ (bif flags then ([115] : Tx) else []))), .inl (strV ((bif not then bicT sub else andT sub) ++ (bif flags then ([115] : Tx) else [])))] (by kernel_rfl) (by kernel_rfl) (One.up _ _) H1.drew (by simp [upK]) ?_
  refine ⟨fun w1 hC _ => rel_load_row 23 _ rfl w.heap.size rfl 23 (⟨3, sub, rd, rn, rm, ra, imm, imm2, amount, shift, cond, sys, flags, minus, not, link⟩ : Ins).cells (0, 0) _ hC.box Tryd.underlying23 rfl (by kernel_rfl), ?_⟩
  refine ⟨fun w1 hC _ => ?_, ?_⟩
  · go_simp
    refine (logic_c _ _ _ _ _ _ _ _ _ _ _ _ h0.out h1.out _ _ _ _ w1).mono ?_
    rintro e w2 ⟨rfl, hb⟩
    exact ⟨rfl, hb⟩
  refine ⟨fun w1 hC _ => by go_simp; exact Below.refl _ _, ?_⟩
  refine ⟨fun w1 hC _ => by have hq := hC.at 12 _ rfl; go_simp; exact Below.refl _ _, ?_⟩
  refine ⟨fun w1 hC _ => ?_, ?_⟩
  · go_simp
    refine (either_t _ _ _ w1).mono ?_
    rintro e w2 ⟨rfl, rfl⟩
    exact ⟨rfl, Below.refl _ _⟩
  refine ⟨fun w1 hC _ => ?_, ?_⟩
  · go_simp
    rw [if_neg hN.out]
    exact ⟨Below.refl _ _, congrArg Value.string (str_app _ _)⟩
  refine ⟨fun w1 hC _ => by go_simp; exact Below.refl _ _, ?_⟩
  intro w1 hC _
  replace hC := hC.below
  simp only [Act.put, List.setIfInBounds_toArray, List.set_cons_succ, List.set_cons_zero]
  repeat' (first | with_reducible refine then_exit ?_ | with_reducible refine then_normal ?_ | with_reducible refine inBlock_eq ?_ | with_reducible refine inBlock_ne rfl ?_ | with_reducible refine inBlock_normal ?_ | go_step)
  go_ret
  exact ⟨rfl, hC⟩

set_option maxRecDepth 4000 in
set_option maxHeartbeats 4000000 in
theorem word4 (sub rd rn rm ra imm imm2 amount shift cond sys : Int) (flags minus not link : Bool) (h0 : 0 ≤ sub) (h1 : sub ≤ 2) (w : World) : Calls Tryd.prog 24 #[(⟨4, sub, rd, rn, rm, ra, imm, imm2, amount, shift, cond, sys, flags, minus, not, link⟩ : Ins).val] w fun e w' => e = .returned (strV (wordV ⟨4, sub, rd, rn, rm, ra, imm, imm2, amount, shift, cond, sys, flags, minus, not, link⟩)) ∧ Below w.heap.size w w' := by
  have H1 := one_start ⟨4, sub, rd, rn, rm, ra, imm, imm2, amount, shift, cond, sys, flags, minus, not, link⟩ w
  have hL : (bif not then bicT sub else andT sub).length ≤ 3 := by
    have : sub = 0 ∨ sub = 1 ∨ sub = 2 := by omega
    rcases this with rfl | rfl | rfl <;> cases not <;> decide
  have hN : Hid (¬ 9223372036854775807 < (bif not then bicT sub else andT sub).length + (bif flags then ([115] : Tx) else []).length) := by
    show ¬ _
    have : (bif flags then ([115] : Tx) else []).length ≤ 1 := by cases flags <;> decide
    omega
  clear hL
  have h0 : Hid (0 ≤ sub) := h0
  have h1 : Hid (sub ≤ 2) := h1
  go_enter Tryd.func24, Tryd.ntmps24
  repeat' (first | with_reducible refine then_exit ?_ | with_reducible refine then_normal ?_ | with_reducible refine inBlock_eq ?_ | with_reducible refine inBlock_ne rfl ?_ | with_reducible refine inBlock_normal ?_ | go_step)
  refine wp_region_rel Grows (fun x => One ⟨4, sub, rd, rn, rm, ra, imm, imm2, amount, shift, cond, sys, flags, minus, not, link⟩ w x) [.inl (⟨4, sub, rd, rn, rm, ra, imm, imm2, amount, shift, cond, sys, flags, minus, not, link⟩ : Ins).val, .inl (strV (bif not then bicT sub else andT sub)), .inl (.pointer (some ⟨w.heap.size, 12, none⟩)), .inl (.bool flags), .inl (strV (bif flags then ([115] : Tx) else [])), .inl (strV ((bif not then bicT sub else andT sub) ++ (bif flags then ([115] : Tx) else []))), .inl (strV ((bif not then bicT sub else andT sub) ++ (bif flags then ([115] : Tx) else [])))] (by kernel_rfl) (by kernel_rfl) (One.up _ _) H1.drew (by simp [upK]) ?_
  refine ⟨fun w1 hC _ => rel_load_row 23 _ rfl w.heap.size rfl 23 (⟨4, sub, rd, rn, rm, ra, imm, imm2, amount, shift, cond, sys, flags, minus, not, link⟩ : Ins).cells (0, 0) _ hC.box Tryd.underlying23 rfl (by kernel_rfl), ?_⟩
  refine ⟨fun w1 hC _ => ?_, ?_⟩
  · go_simp
    refine (logic_c _ _ _ _ _ _ _ _ _ _ _ _ h0.out h1.out _ _ _ _ w1).mono ?_
    rintro e w2 ⟨rfl, hb⟩
    exact ⟨rfl, hb⟩
  refine ⟨fun w1 hC _ => by go_simp; exact Below.refl _ _, ?_⟩
  refine ⟨fun w1 hC _ => by have hq := hC.at 12 _ rfl; go_simp; exact Below.refl _ _, ?_⟩
  refine ⟨fun w1 hC _ => ?_, ?_⟩
  · go_simp
    refine (either_t _ _ _ w1).mono ?_
    rintro e w2 ⟨rfl, rfl⟩
    exact ⟨rfl, Below.refl _ _⟩
  refine ⟨fun w1 hC _ => ?_, ?_⟩
  · go_simp
    rw [if_neg hN.out]
    exact ⟨Below.refl _ _, congrArg Value.string (str_app _ _)⟩
  refine ⟨fun w1 hC _ => by go_simp; exact Below.refl _ _, ?_⟩
  intro w1 hC _
  replace hC := hC.below
  simp only [Act.put, List.setIfInBounds_toArray, List.set_cons_succ, List.set_cons_zero]
  repeat' (first | with_reducible refine then_exit ?_ | with_reducible refine then_normal ?_ | with_reducible refine inBlock_eq ?_ | with_reducible refine inBlock_ne rfl ?_ | with_reducible refine inBlock_normal ?_ | go_step)
  go_ret
  exact ⟨rfl, hC⟩

set_option maxRecDepth 4000 in
set_option maxHeartbeats 4000000 in
theorem word5 (sub rd rn rm ra imm imm2 amount shift cond sys : Int) (flags minus not link : Bool) (h0 : 0 ≤ sub) (h1 : sub ≤ 3) (w : World) : Calls Tryd.prog 24 #[(⟨5, sub, rd, rn, rm, ra, imm, imm2, amount, shift, cond, sys, flags, minus, not, link⟩ : Ins).val] w fun e w' => e = .returned (strV (wordV ⟨5, sub, rd, rn, rm, ra, imm, imm2, amount, shift, cond, sys, flags, minus, not, link⟩)) ∧ Below w.heap.size w w' := by
  have : sub = 0 ∨ sub = 1 ∨ sub = 2 ∨ sub = 3 := by omega
  rcases this with rfl | rfl | rfl | rfl
  all_goals
    go_enter Tryd.func24, Tryd.ntmps24
    repeat' (first | with_reducible refine then_exit ?_ | with_reducible refine then_normal ?_ | with_reducible refine inBlock_eq ?_ | with_reducible refine inBlock_ne rfl ?_ | with_reducible refine inBlock_normal ?_ | (go_at_call 46; refine (one_a _ _ _ _ _ _ (by decide) (by decide) (by simp) rfl).mono ?_; rintro e w' ⟨rfl, rfl⟩; dsimp only) | go_step)
    go_ret
    exact ⟨rfl, by repeat (first | exact Below.refl _ _ | apply below_more)⟩
set_option maxRecDepth 4000 in
set_option maxHeartbeats 4000000 in
theorem word6 (sub rd rn rm ra imm imm2 amount shift cond sys : Int) (flags minus not link : Bool) (h0 : 0 ≤ sub) (h1 : sub ≤ 2) (w : World) : Calls Tryd.prog 24 #[(⟨6, sub, rd, rn, rm, ra, imm, imm2, amount, shift, cond, sys, flags, minus, not, link⟩ : Ins).val] w fun e w' => e = .returned (strV (wordV ⟨6, sub, rd, rn, rm, ra, imm, imm2, amount, shift, cond, sys, flags, minus, not, link⟩)) ∧ Below w.heap.size w w' := by
  have : sub = 0 ∨ sub = 1 ∨ sub = 2 := by omega
  rcases this with rfl | rfl | rfl
  all_goals
    go_enter Tryd.func24, Tryd.ntmps24
    repeat' (first | with_reducible refine then_exit ?_ | with_reducible refine then_normal ?_ | with_reducible refine inBlock_eq ?_ | with_reducible refine inBlock_ne rfl ?_ | with_reducible refine inBlock_normal ?_ | (go_at_call 46; refine (one_a _ _ _ _ _ _ (by decide) (by decide) (by simp) rfl).mono ?_; rintro e w' ⟨rfl, rfl⟩; dsimp only) | go_step)
    go_ret
    exact ⟨rfl, by repeat (first | exact Below.refl _ _ | apply below_more)⟩
set_option maxRecDepth 4000 in
set_option maxHeartbeats 4000000 in
theorem word9 (sub rd rn rm ra imm imm2 amount shift cond sys : Int) (flags minus not link : Bool) (h0 : 0 ≤ sub) (h1 : sub ≤ 1) (w : World) : Calls Tryd.prog 24 #[(⟨9, sub, rd, rn, rm, ra, imm, imm2, amount, shift, cond, sys, flags, minus, not, link⟩ : Ins).val] w fun e w' => e = .returned (strV (wordV ⟨9, sub, rd, rn, rm, ra, imm, imm2, amount, shift, cond, sys, flags, minus, not, link⟩)) ∧ Below w.heap.size w w' := by
  have : sub = 0 ∨ sub = 1 := by omega
  rcases this with rfl | rfl
  all_goals
    go_enter Tryd.func24, Tryd.ntmps24
    repeat' (first | with_reducible refine then_exit ?_ | with_reducible refine then_normal ?_ | with_reducible refine inBlock_eq ?_ | with_reducible refine inBlock_ne rfl ?_ | with_reducible refine inBlock_normal ?_ | (go_at_call 46; refine (one_a _ _ _ _ _ _ (by decide) (by decide) (by simp) rfl).mono ?_; rintro e w' ⟨rfl, rfl⟩; dsimp only) | go_step)
    go_ret
    exact ⟨rfl, by repeat (first | exact Below.refl _ _ | apply below_more)⟩
set_option maxRecDepth 4000 in
set_option maxHeartbeats 4000000 in
theorem word10 (sub rd rn rm ra imm imm2 amount shift cond sys : Int) (flags minus not link : Bool) (h0 : 0 ≤ sub) (h1 : sub ≤ 3) (w : World) : Calls Tryd.prog 24 #[(⟨10, sub, rd, rn, rm, ra, imm, imm2, amount, shift, cond, sys, flags, minus, not, link⟩ : Ins).val] w fun e w' => e = .returned (strV (wordV ⟨10, sub, rd, rn, rm, ra, imm, imm2, amount, shift, cond, sys, flags, minus, not, link⟩)) ∧ Below w.heap.size w w' := by
  have : sub = 0 ∨ sub = 1 ∨ sub = 2 ∨ sub = 3 := by omega
  rcases this with rfl | rfl | rfl | rfl
  all_goals
    go_enter Tryd.func24, Tryd.ntmps24
    repeat' (first | with_reducible refine then_exit ?_ | with_reducible refine then_normal ?_ | with_reducible refine inBlock_eq ?_ | with_reducible refine inBlock_ne rfl ?_ | with_reducible refine inBlock_normal ?_ | (go_at_call 46; refine (one_a _ _ _ _ _ _ (by decide) (by decide) (by simp) rfl).mono ?_; rintro e w' ⟨rfl, rfl⟩; dsimp only) | go_step)
    go_ret
    exact ⟨rfl, by repeat (first | exact Below.refl _ _ | apply below_more)⟩
set_option maxRecDepth 4000 in
set_option maxHeartbeats 4000000 in
theorem word11 (sub rd rn rm ra imm imm2 amount shift cond sys : Int) (flags minus not link : Bool) (h0 : 0 ≤ sub) (h1 : sub ≤ 1) (w : World) : Calls Tryd.prog 24 #[(⟨11, sub, rd, rn, rm, ra, imm, imm2, amount, shift, cond, sys, flags, minus, not, link⟩ : Ins).val] w fun e w' => e = .returned (strV (wordV ⟨11, sub, rd, rn, rm, ra, imm, imm2, amount, shift, cond, sys, flags, minus, not, link⟩)) ∧ Below w.heap.size w w' := by
  have : sub = 0 ∨ sub = 1 := by omega
  rcases this with rfl | rfl
  all_goals
    go_enter Tryd.func24, Tryd.ntmps24
    repeat' (first | with_reducible refine then_exit ?_ | with_reducible refine then_normal ?_ | with_reducible refine inBlock_eq ?_ | with_reducible refine inBlock_ne rfl ?_ | with_reducible refine inBlock_normal ?_ | (go_at_call 46; refine (one_a _ _ _ _ _ _ (by decide) (by decide) (by simp) rfl).mono ?_; rintro e w' ⟨rfl, rfl⟩; dsimp only) | go_step)
    go_ret
    exact ⟨rfl, by repeat (first | exact Below.refl _ _ | apply below_more)⟩
set_option maxRecDepth 4000 in
set_option maxHeartbeats 4000000 in
theorem word16 (sub rd rn rm ra imm imm2 amount shift cond sys : Int) (flags minus not link : Bool) (h0 : 0 ≤ sub) (h1 : sub ≤ 2) (w : World) : Calls Tryd.prog 24 #[(⟨16, sub, rd, rn, rm, ra, imm, imm2, amount, shift, cond, sys, flags, minus, not, link⟩ : Ins).val] w fun e w' => e = .returned (strV (wordV ⟨16, sub, rd, rn, rm, ra, imm, imm2, amount, shift, cond, sys, flags, minus, not, link⟩)) ∧ Below w.heap.size w w' := by
  have : sub = 0 ∨ sub = 1 ∨ sub = 2 := by omega
  rcases this with rfl | rfl | rfl
  all_goals
    go_enter Tryd.func24, Tryd.ntmps24
    repeat' (first | with_reducible refine then_exit ?_ | with_reducible refine then_normal ?_ | with_reducible refine inBlock_eq ?_ | with_reducible refine inBlock_ne rfl ?_ | with_reducible refine inBlock_normal ?_ | (go_at_call 46; refine (one_a _ _ _ _ _ _ (by decide) (by decide) (by simp) rfl).mono ?_; rintro e w' ⟨rfl, rfl⟩; dsimp only) | go_step)
    go_ret
    exact ⟨rfl, by repeat (first | exact Below.refl _ _ | apply below_more)⟩
set_option maxRecDepth 4000 in
set_option maxHeartbeats 4000000 in
theorem word8 (sub rd rn rm ra imm imm2 amount shift cond sys : Int) (flags minus not link : Bool) (w : World) : Calls Tryd.prog 24 #[(⟨8, sub, rd, rn, rm, ra, imm, imm2, amount, shift, cond, sys, flags, minus, not, link⟩ : Ins).val] w fun e w' => e = .returned (strV (wordV ⟨8, sub, rd, rn, rm, ra, imm, imm2, amount, shift, cond, sys, flags, minus, not, link⟩)) ∧ Below w.heap.size w w' := by
  go_enter Tryd.func24, Tryd.ntmps24
  repeat' (first | with_reducible refine then_exit ?_ | with_reducible refine then_normal ?_ | with_reducible refine inBlock_eq ?_ | with_reducible refine inBlock_ne rfl ?_ | with_reducible refine inBlock_normal ?_ | (go_at_call 48; refine (either_t _ _ _ _).mono ?_; rintro e w' ⟨rfl, rfl⟩; dsimp only) | go_step)
  go_ret
  exact ⟨rfl, by repeat (first | exact Below.refl _ _ | apply below_more)⟩
set_option maxRecDepth 4000 in
set_option maxHeartbeats 4000000 in
theorem word12 (sub rd rn rm ra imm imm2 amount shift cond sys : Int) (flags minus not link : Bool) (w : World) : Calls Tryd.prog 24 #[(⟨12, sub, rd, rn, rm, ra, imm, imm2, amount, shift, cond, sys, flags, minus, not, link⟩ : Ins).val] w fun e w' => e = .returned (strV (wordV ⟨12, sub, rd, rn, rm, ra, imm, imm2, amount, shift, cond, sys, flags, minus, not, link⟩)) ∧ Below w.heap.size w w' := by
  go_enter Tryd.func24, Tryd.ntmps24
  repeat' (first | with_reducible refine then_exit ?_ | with_reducible refine then_normal ?_ | with_reducible refine inBlock_eq ?_ | with_reducible refine inBlock_ne rfl ?_ | with_reducible refine inBlock_normal ?_ | (go_at_call 48; refine (either_t _ _ _ _).mono ?_; rintro e w' ⟨rfl, rfl⟩; dsimp only) | go_step)
  go_ret
  exact ⟨rfl, by repeat (first | exact Below.refl _ _ | apply below_more)⟩
set_option maxRecDepth 4000 in
set_option maxHeartbeats 4000000 in
theorem word14 (sub rd rn rm ra imm imm2 amount shift cond sys : Int) (flags minus not link : Bool) (w : World) : Calls Tryd.prog 24 #[(⟨14, sub, rd, rn, rm, ra, imm, imm2, amount, shift, cond, sys, flags, minus, not, link⟩ : Ins).val] w fun e w' => e = .returned (strV (wordV ⟨14, sub, rd, rn, rm, ra, imm, imm2, amount, shift, cond, sys, flags, minus, not, link⟩)) ∧ Below w.heap.size w w' := by
  go_enter Tryd.func24, Tryd.ntmps24
  repeat' (first | with_reducible refine then_exit ?_ | with_reducible refine then_normal ?_ | with_reducible refine inBlock_eq ?_ | with_reducible refine inBlock_ne rfl ?_ | with_reducible refine inBlock_normal ?_ | (go_at_call 48; refine (either_t _ _ _ _).mono ?_; rintro e w' ⟨rfl, rfl⟩; dsimp only) | go_step)
  go_ret
  exact ⟨rfl, by repeat (first | exact Below.refl _ _ | apply below_more)⟩
set_option maxRecDepth 4000 in
set_option maxHeartbeats 4000000 in
theorem word15 (sub rd rn rm ra imm imm2 amount shift cond sys : Int) (flags minus not link : Bool) (w : World) : Calls Tryd.prog 24 #[(⟨15, sub, rd, rn, rm, ra, imm, imm2, amount, shift, cond, sys, flags, minus, not, link⟩ : Ins).val] w fun e w' => e = .returned (strV (wordV ⟨15, sub, rd, rn, rm, ra, imm, imm2, amount, shift, cond, sys, flags, minus, not, link⟩)) ∧ Below w.heap.size w w' := by
  go_enter Tryd.func24, Tryd.ntmps24
  repeat' (first | with_reducible refine then_exit ?_ | with_reducible refine then_normal ?_ | with_reducible refine inBlock_eq ?_ | with_reducible refine inBlock_ne rfl ?_ | with_reducible refine inBlock_normal ?_ | (go_at_call 48; refine (either_t _ _ _ _).mono ?_; rintro e w' ⟨rfl, rfl⟩; dsimp only) | go_step)
  go_ret
  exact ⟨rfl, by repeat (first | exact Below.refl _ _ | apply below_more)⟩
set_option maxRecDepth 4000 in
set_option maxHeartbeats 4000000 in
theorem word7 (sub rd rn rm ra imm imm2 amount shift cond sys : Int) (flags minus not link : Bool) (h0 : 0 ≤ sub) (h1 : sub ≤ 3) (w : World) : Calls Tryd.prog 24 #[(⟨7, sub, rd, rn, rm, ra, imm, imm2, amount, shift, cond, sys, flags, minus, not, link⟩ : Ins).val] w fun e w' => e = .returned (strV (wordV ⟨7, sub, rd, rn, rm, ra, imm, imm2, amount, shift, cond, sys, flags, minus, not, link⟩)) ∧ Below w.heap.size w w' := by
  have h0 : Hid (0 ≤ sub) := h0
  have h1 : Hid (sub ≤ 3) := h1
  go_enter Tryd.func24, Tryd.ntmps24
  repeat' (first | with_reducible refine then_exit ?_ | with_reducible refine then_normal ?_ | with_reducible refine inBlock_eq ?_ | with_reducible refine inBlock_ne rfl ?_ | with_reducible refine inBlock_normal ?_ | (go_at_call 45; refine (shift_c _ h0.out h1.out _).mono ?_; rintro e w' ⟨rfl, hb⟩; dsimp only) | go_step)
  go_ret
  exact ⟨rfl, below_then (below_alloc _ _) hb⟩

theorem cond_two : ∀ k : Fin 16, (condT (k.val : Int)).length = 2 := by decide

set_option maxRecDepth 4000 in
set_option maxHeartbeats 4000000 in
theorem word13 (sub rd rn rm ra imm imm2 amount shift cond sys : Int) (flags minus not link : Bool) (c0 : 0 ≤ cond) (c1 : cond ≤ 15) (w : World) : Calls Tryd.prog 24 #[(⟨13, sub, rd, rn, rm, ra, imm, imm2, amount, shift, cond, sys, flags, minus, not, link⟩ : Ins).val] w fun e w' => e = .returned (strV (wordV ⟨13, sub, rd, rn, rm, ra, imm, imm2, amount, shift, cond, sys, flags, minus, not, link⟩)) ∧ Below w.heap.size w w' := by
  have hL : Hid ((condT cond).length = 2) := by
    show _ = _
    have := cond_two ⟨cond.toNat, by omega⟩
    rwa [show ((⟨cond.toNat, by omega⟩ : Fin 16).val : Int) = cond by simp; omega] at this
  have h0 : Hid (0 ≤ cond) := c0
  have h1 : Hid (cond ≤ 15) := c1
  clear c0 c1
  go_enter Tryd.func24, Tryd.ntmps24
  repeat' (first | with_reducible refine then_exit ?_ | with_reducible refine then_normal ?_ | with_reducible refine inBlock_eq ?_ | with_reducible refine inBlock_ne rfl ?_ | with_reducible refine inBlock_normal ?_ | (go_at_call 43; refine (condition_c _ h0.out h1.out _).mono ?_; rintro e w' ⟨rfl, hb⟩; dsimp only; replace hb := below_then (below_alloc _ _) hb; have hl2 := hL.out) | go_step)
  go_ret
  exact ⟨congrArg Ending.returned (congrArg Value.string (str_app _ _)), hb⟩

end Go.Proofs.YtmbefmmnkfoneaaDoor
