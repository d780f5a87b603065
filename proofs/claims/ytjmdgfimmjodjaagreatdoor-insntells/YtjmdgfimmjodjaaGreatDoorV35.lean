/- The parts of every instruction: a contract. -/
import Derived.Test.YtjmdgfimmjodjaaGreatDoorV28
import Derived.Test.YtjmdgfimmjodjaaGreatDoorV29
import Derived.Test.YtjmdgfimmjodjaaGreatDoorV30
import Derived.Test.YtjmdgfimmjodjaaGreatDoorV31
import Derived.Test.YtjmdgfimmjodjaaGreatDoorV33
import Derived.Test.YtjmdgfimmjodjaaGreatDoorV34
import Derived.Test.YtjmdgfimmjodjaaGreatDoorV17
namespace Go.Proofs.YtjmdgfimmjodjaaGreatDoor
open Go.RowKit Go.Rel

theorem partsOf_c (i : Ins) (R : rightB i = true) (w : World) (T : Tab w) : Calls Tryz.prog 26 #[i.val] w fun e w' => ∃ v, e = .returned v ∧ RowT w.heap.size (partsV i) v w' ∧ Below w.heap.size w w' := by
  have G := fits R
  have hr := inR_of R
  have HN := num_of R
  have hm := ops_mem G.o0 G.o1
  obtain ⟨op, sub, rd, rn, rm, ra, imm, imm2, amount, shift, cond, sys, flags, minus, not, link⟩ := i
  simp only [opsL, List.mem_cons, List.not_mem_nil, or_false] at hm
  rcases hm with rfl | rfl | rfl | rfl | rfl | rfl | rfl | rfl | rfl | rfl | rfl | rfl | rfl | rfl | rfl | rfl | rfl | rfl | rfl | rfl | rfl | rfl | rfl | rfl | rfl | rfl | rfl | rfl | rfl | rfl | rfl | rfl | rfl | rfl | rfl | rfl | rfl
  · exact parts1 _ _ _ _ _ _ _ _ _ _ _ _ _ _ _ hr HN w T
  · exact parts2 _ _ _ _ _ _ _ _ _ _ _ _ _ _ _ hr HN ⟨G.t0, Int.le_trans G.t1 (show (shiftS 2).hi ≤ 3 by decide)⟩ w T
  · exact parts3 _ _ _ _ _ _ _ _ _ _ _ _ _ _ _ hr HN ⟨G.t0, G.t1⟩ w T
  · exact parts4 _ _ _ _ _ _ _ _ _ _ _ _ _ _ _ hr w T
  · exact parts5 _ _ _ _ _ _ _ _ _ _ _ _ _ _ _ hr HN w T
  · exact parts6 _ _ _ _ _ _ _ _ _ _ _ _ _ _ _ hr HN w T
  · exact parts7 _ _ _ _ _ _ _ _ _ _ _ _ _ _ _ hr w T
  · exact parts8 _ _ _ _ _ _ _ _ _ _ _ _ _ _ _ hr w T
  · exact parts9 _ _ _ _ _ _ _ _ _ _ _ _ _ _ _ hr w T
  · exact parts10 _ _ _ _ _ _ _ _ _ _ _ _ _ _ _ hr ⟨G.c0, G.c1⟩ w T
  · exact parts11 _ _ _ _ _ _ _ _ _ _ _ _ _ _ _ hr HN w T
  · exact parts12 _ _ _ _ _ _ _ _ _ _ _ _ _ _ _ hr HN w T
  · exact parts13 _ _ _ _ _ _ _ _ _ _ _ _ _ _ _ hr HN w T
  · exact parts14 _ _ _ _ _ _ _ _ _ _ _ _ _ _ _ hr HN w T
  · exact parts15 _ _ _ _ _ _ _ _ _ _ _ _ _ _ _ hr HN w T
  · exact parts16 _ _ _ _ _ _ _ _ _ _ _ _ _ _ _ hr w T
  · exact parts17 _ _ _ _ _ _ _ _ _ _ _ _ _ _ _ hr HN w T
  · exact parts18 _ _ _ _ _ _ _ _ _ _ _ _ _ _ _ hr HN w T
  · exact parts19 _ _ _ _ _ _ _ _ _ _ _ _ _ _ _ hr HN w T
  · exact parts20 _ _ _ _ _ _ _ _ _ _ _ _ _ _ _ hr HN w T
  · exact parts21 _ _ _ _ _ _ _ _ _ _ _ _ _ _ _ hr w T
  · exact parts22 _ _ _ _ _ _ _ _ _ _ _ _ _ _ _ hr w T
  · exact parts23 _ _ _ _ _ _ _ _ _ _ _ _ _ _ _ hr w T
  · exact parts24 _ _ _ _ _ _ _ _ _ _ _ _ _ _ _ hr w T
  · exact parts25 _ _ _ _ _ _ _ _ _ _ _ _ _ _ _ hr w T
  · exact parts26 _ _ _ _ _ _ _ _ _ _ _ _ _ _ _ hr ⟨G.i0, G.i1⟩ w T
  · exact parts27 _ _ _ _ _ _ _ _ _ _ _ _ _ _ _ hr w T
  · exact parts28 _ _ _ _ _ _ _ _ _ _ _ _ _ _ _ hr w T
  · exact parts29 _ _ _ _ _ _ _ _ _ _ _ _ _ _ _ hr w T
  · exact parts30 _ _ _ _ _ _ _ _ _ _ _ _ _ _ _ hr w T
  · exact parts31 _ _ _ _ _ _ _ _ _ _ _ _ _ _ _ hr HN w T
  · exact parts32 _ _ _ _ _ _ _ _ _ _ _ _ _ _ _ hr HN w T
  · exact parts33 _ _ _ _ _ _ _ _ _ _ _ _ _ _ _ hr HN G.s0 G.s1 w T
  · exact parts34 _ _ _ _ _ _ _ _ _ _ _ _ _ _ _ hr HN w T
  · exact parts35 _ _ _ _ _ _ _ _ _ _ _ _ _ _ _ hr HN w T
  · exact parts36 _ _ _ _ _ _ _ _ _ _ _ _ _ _ _ hr w T
  · exact parts37 _ _ _ _ _ _ _ _ _ _ _ _ _ _ _ hr HN w T
end Go.Proofs.YtjmdgfimmjodjaaGreatDoor
/- The word of an instruction of the first sixteen Ops: contracts. -/
namespace Go.Proofs.YtjmdgfimmjodjaaGreatDoor
open Go.RowKit Go.Rel

set_option maxRecDepth 4000 in
set_option maxHeartbeats 4000000 in
theorem word1 (S D N M A I J U F C Y : Int) (G X O L : Bool) (w : World) : Calls Tryz.prog 27 #[(⟨1, S, D, N, M, A, I, J, U, F, C, Y, G, X, O, L⟩ : Ins).val] w fun e w' => e = .returned (strV (wordV ⟨1, S, D, N, M, A, I, J, U, F, C, Y, G, X, O, L⟩)) ∧ Below w.heap.size w w' := by
  have H1 := one_start ⟨1, S, D, N, M, A, I, J, U, F, C, Y, G, X, O, L⟩ w
  go_enter Tryz.func27, Tryz.ntmps27
  repeat' (first | with_reducible refine then_exit ?_ | with_reducible refine then_normal ?_ | with_reducible refine inBlock_eq ?_ | with_reducible refine inBlock_ne rfl ?_ | with_reducible refine inBlock_normal ?_ | go_step)
  refine wp_region_rel Grows (fun x => One ⟨1, S, D, N, M, A, I, J, U, F, C, Y, G, X, O, L⟩ w x) [.inl (.pointer (some ⟨w.heap.size, 13, none⟩)), .inl (.bool X), .inl (strV (bif X then [115, 117, 98] else [97, 100, 100])), .inl (.pointer (some ⟨w.heap.size, 12, none⟩)), .inl (.bool G), .inl (strV (bif G then ([115] : Tx) else [])), .inl (strV ((bif X then [115, 117, 98] else [97, 100, 100]) ++ (bif G then ([115] : Tx) else []))), .inl (strV ((bif X then [115, 117, 98] else [97, 100, 100]) ++ (bif G then ([115] : Tx) else [])))] (by kernel_rfl) (by kernel_rfl) (One.up _ _) H1.drew (by simp [upK]) ?_
  refine ⟨fun w1 hC _ => by go_simp; exact Below.refl _ _, ?_⟩
  refine ⟨fun w1 hC _ => by have hq := hC.at 13 _ rfl; go_simp; exact Below.refl _ _, ?_⟩
  refine ⟨fun w1 hC _ => ?_, ?_⟩
  · go_simp
    refine (either_t _ _ _ w1).mono ?_
    rintro e w2 ⟨rfl, rfl⟩
    exact ⟨rfl, Below.refl _ _⟩
  refine ⟨fun w1 hC _ => by go_simp; exact Below.refl _ _, ?_⟩
  refine ⟨fun w1 hC _ => by have hq := hC.at 12 _ rfl; go_simp; exact Below.refl _ _, ?_⟩
  refine ⟨fun w1 hC _ => ?_, ?_⟩
  · go_simp
    refine (either_t _ _ _ w1).mono ?_
    rintro e w2 ⟨rfl, rfl⟩
    exact ⟨rfl, Below.refl _ _⟩
  refine ⟨fun w1 hC _ => ?_, ?_⟩
  · go_simp
    rw [if_neg (by cases X <;> cases G <;> decide)]
    exact ⟨Below.refl _ _, congrArg Value.string (str_app _ _)⟩
  refine ⟨fun w1 hC _ => by go_simp; exact Below.refl _ _, ?_⟩
  intro w1 hC _
  replace hC := hC.below
  simp only [Act.put, List.setIfInBounds_toArray, List.set_cons_succ, List.set_cons_zero]
  repeat' (first | with_reducible refine then_exit ?_ | with_reducible refine then_normal ?_ | with_reducible refine inBlock_eq ?_ | with_reducible refine inBlock_ne rfl ?_ | with_reducible refine inBlock_normal ?_ | go_step)
  go_ret
  exact ⟨rfl, hC⟩

set_option maxRecDepth 4000 in
set_option maxHeartbeats 4000000 in
theorem word2 (S D N M A I J U F C Y : Int) (G X O L : Bool) (w : World) : Calls Tryz.prog 27 #[(⟨2, S, D, N, M, A, I, J, U, F, C, Y, G, X, O, L⟩ : Ins).val] w fun e w' => e = .returned (strV (wordV ⟨2, S, D, N, M, A, I, J, U, F, C, Y, G, X, O, L⟩)) ∧ Below w.heap.size w w' := by
  have H1 := one_start ⟨2, S, D, N, M, A, I, J, U, F, C, Y, G, X, O, L⟩ w
  go_enter Tryz.func27, Tryz.ntmps27
  repeat' (first | with_reducible refine then_exit ?_ | with_reducible refine then_normal ?_ | with_reducible refine inBlock_eq ?_ | with_reducible refine inBlock_ne rfl ?_ | with_reducible refine inBlock_normal ?_ | go_step)
  refine wp_region_rel Grows (fun x => One ⟨2, S, D, N, M, A, I, J, U, F, C, Y, G, X, O, L⟩ w x) [.inl (.pointer (some ⟨w.heap.size, 13, none⟩)), .inl (.bool X), .inl (strV (bif X then [115, 117, 98] else [97, 100, 100])), .inl (.pointer (some ⟨w.heap.size, 12, none⟩)), .inl (.bool G), .inl (strV (bif G then ([115] : Tx) else [])), .inl (strV ((bif X then [115, 117, 98] else [97, 100, 100]) ++ (bif G then ([115] : Tx) else []))), .inl (strV ((bif X then [115, 117, 98] else [97, 100, 100]) ++ (bif G then ([115] : Tx) else [])))] (by kernel_rfl) (by kernel_rfl) (One.up _ _) H1.drew (by simp [upK]) ?_
  refine ⟨fun w1 hC _ => by go_simp; exact Below.refl _ _, ?_⟩
  refine ⟨fun w1 hC _ => by have hq := hC.at 13 _ rfl; go_simp; exact Below.refl _ _, ?_⟩
  refine ⟨fun w1 hC _ => ?_, ?_⟩
  · go_simp
    refine (either_t _ _ _ w1).mono ?_
    rintro e w2 ⟨rfl, rfl⟩
    exact ⟨rfl, Below.refl _ _⟩
  refine ⟨fun w1 hC _ => by go_simp; exact Below.refl _ _, ?_⟩
  refine ⟨fun w1 hC _ => by have hq := hC.at 12 _ rfl; go_simp; exact Below.refl _ _, ?_⟩
  refine ⟨fun w1 hC _ => ?_, ?_⟩
  · go_simp
    refine (either_t _ _ _ w1).mono ?_
    rintro e w2 ⟨rfl, rfl⟩
    exact ⟨rfl, Below.refl _ _⟩
  refine ⟨fun w1 hC _ => ?_, ?_⟩
  · go_simp
    rw [if_neg (by cases X <;> cases G <;> decide)]
    exact ⟨Below.refl _ _, congrArg Value.string (str_app _ _)⟩
  refine ⟨fun w1 hC _ => by go_simp; exact Below.refl _ _, ?_⟩
  intro w1 hC _
  replace hC := hC.below
  simp only [Act.put, List.setIfInBounds_toArray, List.set_cons_succ, List.set_cons_zero]
  repeat' (first | with_reducible refine then_exit ?_ | with_reducible refine then_normal ?_ | with_reducible refine inBlock_eq ?_ | with_reducible refine inBlock_ne rfl ?_ | with_reducible refine inBlock_normal ?_ | go_step)
  go_ret
  exact ⟨rfl, hC⟩

set_option maxRecDepth 4000 in
set_option maxHeartbeats 4000000 in
theorem word3 (S D N M A I J U F C Y : Int) (G X O L : Bool) (h0 : 0 ≤ S) (h1 : S ≤ 2) (w : World) : Calls Tryz.prog 27 #[(⟨3, S, D, N, M, A, I, J, U, F, C, Y, G, X, O, L⟩ : Ins).val] w fun e w' => e = .returned (strV (wordV ⟨3, S, D, N, M, A, I, J, U, F, C, Y, G, X, O, L⟩)) ∧ Below w.heap.size w w' := by
  have H1 := one_start ⟨3, S, D, N, M, A, I, J, U, F, C, Y, G, X, O, L⟩ w
  have hL : (bif O then bicT S else andT S).length ≤ 3 := by
    have : S = 0 ∨ S = 1 ∨ S = 2 := by omega
    rcases this with rfl | rfl | rfl <;> cases O <;> decide
  have hN : Hid (¬ 9223372036854775807 < (bif O then bicT S else andT S).length + (bif G then ([115] : Tx) else []).length) := by
    show ¬ _
    have : (bif G then ([115] : Tx) else []).length ≤ 1 := by cases G <;> decide
    omega
  clear hL
  have h0 : Hid (0 ≤ S) := h0
  have h1 : Hid (S ≤ 2) := h1
  go_enter Tryz.func27, Tryz.ntmps27
  repeat' (first | with_reducible refine then_exit ?_ | with_reducible refine then_normal ?_ | with_reducible refine inBlock_eq ?_ | with_reducible refine inBlock_ne rfl ?_ | with_reducible refine inBlock_normal ?_ | go_step)
  refine wp_region_rel Grows (fun x => One ⟨3, S, D, N, M, A, I, J, U, F, C, Y, G, X, O, L⟩ w x) [.inl (⟨3, S, D, N, M, A, I, J, U, F, C, Y, G, X, O, L⟩ : Ins).val, .inl (strV (bif O then bicT S else andT S)), .inl (.pointer (some ⟨w.heap.size, 12, none⟩)), .inl (.bool G), .inl (strV (bif G then ([115] : Tx) else [])), .inl (strV ((bif O then bicT S else andT S) ++ (bif G then ([115] : Tx) else []))), .inl (strV ((bif O then bicT S else andT S) ++ (bif G then ([115] : Tx) else [])))] (by kernel_rfl) (by kernel_rfl) (One.up _ _) H1.drew (by simp [upK]) ?_
  refine ⟨fun w1 hC _ => rel_load_row 23 _ rfl w.heap.size rfl 23 (⟨3, S, D, N, M, A, I, J, U, F, C, Y, G, X, O, L⟩ : Ins).cells (0, 0) _ hC.box Tryz.underlying23 rfl (by kernel_rfl), ?_⟩
  refine ⟨fun w1 hC _ => ?_, ?_⟩
  · go_simp
    refine (logic_c _ _ _ _ _ _ _ _ _ _ _ _ h0.out h1.out _ _ _ _ w1).mono ?_
    rintro e w2 ⟨rfl, hb⟩
    exact ⟨rfl, hb⟩
  refine ⟨fun w1 hC _ => by go_simp; exact Below.refl _ _, ?_⟩
  refine ⟨fun w1 hC _ => by have hq := hC.at 12 _ rfl; go_simp; exact Below.refl _ _, ?_⟩
  refine ⟨fun w1 hC _ => ?_, ?_⟩
  · go_simp
    refine (either_t _ _ _ w1).mono ?_
    rintro e w2 ⟨rfl, rfl⟩
    exact ⟨rfl, Below.refl _ _⟩
  refine ⟨fun w1 hC _ => ?_, ?_⟩
  · go_simp
    rw [if_neg hN.out]
    exact ⟨Below.refl _ _, congrArg Value.string (str_app _ _)⟩
  refine ⟨fun w1 hC _ => by go_simp; exact Below.refl _ _, ?_⟩
  intro w1 hC _
  replace hC := hC.below
  simp only [Act.put, List.setIfInBounds_toArray, List.set_cons_succ, List.set_cons_zero]
  repeat' (first | with_reducible refine then_exit ?_ | with_reducible refine then_normal ?_ | with_reducible refine inBlock_eq ?_ | with_reducible refine inBlock_ne rfl ?_ | with_reducible refine inBlock_normal ?_ | go_step)
  go_ret
  exact ⟨rfl, hC⟩

set_option maxRecDepth 4000 in
set_option maxHeartbeats 4000000 in
theorem word4 (S D N M A I J U F C Y : Int) (G X O L : Bool) (h0 : 0 ≤ S) (h1 : S ≤ 2) (w : World) : Calls Tryz.prog 27 #[(⟨4, S, D, N, M, A, I, J, U, F, C, Y, G, X, O, L⟩ : Ins).val] w fun e w' => e = .returned (strV (wordV ⟨4, S, D, N, M, A, I, J, U, F, C, Y, G, X, O, L⟩)) ∧ Below w.heap.size w w' := by
  have H1 := one_start ⟨4, S, D, N, M, A, I, J, U, F, C, Y, G, X, O, L⟩ w
  have hL : (bif O then bicT S else andT S).length ≤ 3 := by
    have : S = 0 ∨ S = 1 ∨ S = 2 := by omega
    rcases this with rfl | rfl | rfl <;> cases O <;> decide
  have hN : Hid (¬ 9223372036854775807 < (bif O then bicT S else andT S).length + (bif G then ([115] : Tx) else []).length) := by
    show ¬ _
    have : (bif G then ([115] : Tx) else []).length ≤ 1 := by cases G <;> decide
    omega
  clear hL
  have h0 : Hid (0 ≤ S) := h0
  have h1 : Hid (S ≤ 2) := h1
  go_enter Tryz.func27, Tryz.ntmps27
  repeat' (first | with_reducible refine then_exit ?_ | with_reducible refine then_normal ?_ | with_reducible refine inBlock_eq ?_ | with_reducible refine inBlock_ne rfl ?_ | with_reducible refine inBlock_normal ?_ | go_step)
  refine wp_region_rel Grows (fun x => One ⟨4, S, D, N, M, A, I, J, U, F, C, Y, G, X, O, L⟩ w x) [.inl (⟨4, S, D, N, M, A, I, J, U, F, C, Y, G, X, O, L⟩ : Ins).val, .inl (strV (bif O then bicT S else andT S)), .inl (.pointer (some ⟨w.heap.size, 12, none⟩)), .inl (.bool G), .inl (strV (bif G then ([115] : Tx) else [])), .inl (strV ((bif O then bicT S else andT S) ++ (bif G then ([115] : Tx) else []))), .inl (strV ((bif O then bicT S else andT S) ++ (bif G then ([115] : Tx) else [])))] (by kernel_rfl) (by kernel_rfl) (One.up _ _) H1.drew (by simp [upK]) ?_
  refine ⟨fun w1 hC _ => rel_load_row 23 _ rfl w.heap.size rfl 23 (⟨4, S, D, N, M, A, I, J, U, F, C, Y, G, X, O, L⟩ : Ins).cells (0, 0) _ hC.box Tryz.underlying23 rfl (by kernel_rfl), ?_⟩
  refine ⟨fun w1 hC _ => ?_, ?_⟩
  · go_simp
    refine (logic_c _ _ _ _ _ _ _ _ _ _ _ _ h0.out h1.out _ _ _ _ w1).mono ?_
    rintro e w2 ⟨rfl, hb⟩
    exact ⟨rfl, hb⟩
  refine ⟨fun w1 hC _ => by go_simp; exact Below.refl _ _, ?_⟩
  refine ⟨fun w1 hC _ => by have hq := hC.at 12 _ rfl; go_simp; exact Below.refl _ _, ?_⟩
  refine ⟨fun w1 hC _ => ?_, ?_⟩
  · go_simp
    refine (either_t _ _ _ w1).mono ?_
    rintro e w2 ⟨rfl, rfl⟩
    exact ⟨rfl, Below.refl _ _⟩
  refine ⟨fun w1 hC _ => ?_, ?_⟩
  · go_simp
    rw [if_neg hN.out]
    exact ⟨Below.refl _ _, congrArg Value.string (str_app _ _)⟩
  refine ⟨fun w1 hC _ => by go_simp; exact Below.refl _ _, ?_⟩
  intro w1 hC _
  replace hC := hC.below
  simp only [Act.put, List.setIfInBounds_toArray, List.set_cons_succ, List.set_cons_zero]
  repeat' (first | with_reducible refine then_exit ?_ | with_reducible refine then_normal ?_ | with_reducible refine inBlock_eq ?_ | with_reducible refine inBlock_ne rfl ?_ | with_reducible refine inBlock_normal ?_ | go_step)
  go_ret
  exact ⟨rfl, hC⟩

set_option maxRecDepth 4000 in
set_option maxHeartbeats 4000000 in
theorem word5 (S D N M A I J U F C Y : Int) (G X O L : Bool) (h0 : 0 ≤ S) (h1 : S ≤ 3) (w : World) : Calls Tryz.prog 27 #[(⟨5, S, D, N, M, A, I, J, U, F, C, Y, G, X, O, L⟩ : Ins).val] w fun e w' => e = .returned (strV (wordV ⟨5, S, D, N, M, A, I, J, U, F, C, Y, G, X, O, L⟩)) ∧ Below w.heap.size w w' := by
  have : S = 0 ∨ S = 1 ∨ S = 2 ∨ S = 3 := by omega
  rcases this with rfl | rfl | rfl | rfl
  all_goals
    go_enter Tryz.func27, Tryz.ntmps27
    repeat' (first | with_reducible refine then_exit ?_ | with_reducible refine then_normal ?_ | with_reducible refine inBlock_eq ?_ | with_reducible refine inBlock_ne rfl ?_ | with_reducible refine inBlock_normal ?_ | (go_at_call 60; refine (one_a _ _ _ _ _ _ (by decide) (by decide) (by simp) rfl).mono ?_; rintro e w' ⟨rfl, rfl⟩; dsimp only) | go_step)
    go_ret
    exact ⟨rfl, by repeat (first | exact Below.refl _ _ | apply below_more)⟩
set_option maxRecDepth 4000 in
set_option maxHeartbeats 4000000 in
theorem word6 (S D N M A I J U F C Y : Int) (G X O L : Bool) (h0 : 0 ≤ S) (h1 : S ≤ 2) (w : World) : Calls Tryz.prog 27 #[(⟨6, S, D, N, M, A, I, J, U, F, C, Y, G, X, O, L⟩ : Ins).val] w fun e w' => e = .returned (strV (wordV ⟨6, S, D, N, M, A, I, J, U, F, C, Y, G, X, O, L⟩)) ∧ Below w.heap.size w w' := by
  have : S = 0 ∨ S = 1 ∨ S = 2 := by omega
  rcases this with rfl | rfl | rfl
  all_goals
    go_enter Tryz.func27, Tryz.ntmps27
    repeat' (first | with_reducible refine then_exit ?_ | with_reducible refine then_normal ?_ | with_reducible refine inBlock_eq ?_ | with_reducible refine inBlock_ne rfl ?_ | with_reducible refine inBlock_normal ?_ | (go_at_call 60; refine (one_a _ _ _ _ _ _ (by decide) (by decide) (by simp) rfl).mono ?_; rintro e w' ⟨rfl, rfl⟩; dsimp only) | go_step)
    go_ret
    exact ⟨rfl, by repeat (first | exact Below.refl _ _ | apply below_more)⟩
set_option maxRecDepth 4000 in
set_option maxHeartbeats 4000000 in
theorem word9 (S D N M A I J U F C Y : Int) (G X O L : Bool) (h0 : 0 ≤ S) (h1 : S ≤ 1) (w : World) : Calls Tryz.prog 27 #[(⟨9, S, D, N, M, A, I, J, U, F, C, Y, G, X, O, L⟩ : Ins).val] w fun e w' => e = .returned (strV (wordV ⟨9, S, D, N, M, A, I, J, U, F, C, Y, G, X, O, L⟩)) ∧ Below w.heap.size w w' := by
  have : S = 0 ∨ S = 1 := by omega
  rcases this with rfl | rfl
  all_goals
    go_enter Tryz.func27, Tryz.ntmps27
    repeat' (first | with_reducible refine then_exit ?_ | with_reducible refine then_normal ?_ | with_reducible refine inBlock_eq ?_ | with_reducible refine inBlock_ne rfl ?_ | with_reducible refine inBlock_normal ?_ | (go_at_call 60; refine (one_a _ _ _ _ _ _ (by decide) (by decide) (by simp) rfl).mono ?_; rintro e w' ⟨rfl, rfl⟩; dsimp only) | go_step)
    go_ret
    exact ⟨rfl, by repeat (first | exact Below.refl _ _ | apply below_more)⟩
set_option maxRecDepth 4000 in
set_option maxHeartbeats 4000000 in
theorem word10 (S D N M A I J U F C Y : Int) (G X O L : Bool) (h0 : 0 ≤ S) (h1 : S ≤ 3) (w : World) : Calls Tryz.prog 27 #[(⟨10, S, D, N, M, A, I, J, U, F, C, Y, G, X, O, L⟩ : Ins).val] w fun e w' => e = .returned (strV (wordV ⟨10, S, D, N, M, A, I, J, U, F, C, Y, G, X, O, L⟩)) ∧ Below w.heap.size w w' := by
  have : S = 0 ∨ S = 1 ∨ S = 2 ∨ S = 3 := by omega
  rcases this with rfl | rfl | rfl | rfl
  all_goals
    go_enter Tryz.func27, Tryz.ntmps27
    repeat' (first | with_reducible refine then_exit ?_ | with_reducible refine then_normal ?_ | with_reducible refine inBlock_eq ?_ | with_reducible refine inBlock_ne rfl ?_ | with_reducible refine inBlock_normal ?_ | (go_at_call 60; refine (one_a _ _ _ _ _ _ (by decide) (by decide) (by simp) rfl).mono ?_; rintro e w' ⟨rfl, rfl⟩; dsimp only) | go_step)
    go_ret
    exact ⟨rfl, by repeat (first | exact Below.refl _ _ | apply below_more)⟩
set_option maxRecDepth 4000 in
set_option maxHeartbeats 4000000 in
theorem word11 (S D N M A I J U F C Y : Int) (G X O L : Bool) (h0 : 0 ≤ S) (h1 : S ≤ 1) (w : World) : Calls Tryz.prog 27 #[(⟨11, S, D, N, M, A, I, J, U, F, C, Y, G, X, O, L⟩ : Ins).val] w fun e w' => e = .returned (strV (wordV ⟨11, S, D, N, M, A, I, J, U, F, C, Y, G, X, O, L⟩)) ∧ Below w.heap.size w w' := by
  have : S = 0 ∨ S = 1 := by omega
  rcases this with rfl | rfl
  all_goals
    go_enter Tryz.func27, Tryz.ntmps27
    repeat' (first | with_reducible refine then_exit ?_ | with_reducible refine then_normal ?_ | with_reducible refine inBlock_eq ?_ | with_reducible refine inBlock_ne rfl ?_ | with_reducible refine inBlock_normal ?_ | (go_at_call 60; refine (one_a _ _ _ _ _ _ (by decide) (by decide) (by simp) rfl).mono ?_; rintro e w' ⟨rfl, rfl⟩; dsimp only) | go_step)
    go_ret
    exact ⟨rfl, by repeat (first | exact Below.refl _ _ | apply below_more)⟩
set_option maxRecDepth 4000 in
set_option maxHeartbeats 4000000 in
theorem word16 (S D N M A I J U F C Y : Int) (G X O L : Bool) (h0 : 0 ≤ S) (h1 : S ≤ 2) (w : World) : Calls Tryz.prog 27 #[(⟨16, S, D, N, M, A, I, J, U, F, C, Y, G, X, O, L⟩ : Ins).val] w fun e w' => e = .returned (strV (wordV ⟨16, S, D, N, M, A, I, J, U, F, C, Y, G, X, O, L⟩)) ∧ Below w.heap.size w w' := by
  have : S = 0 ∨ S = 1 ∨ S = 2 := by omega
  rcases this with rfl | rfl | rfl
  all_goals
    go_enter Tryz.func27, Tryz.ntmps27
    repeat' (first | with_reducible refine then_exit ?_ | with_reducible refine then_normal ?_ | with_reducible refine inBlock_eq ?_ | with_reducible refine inBlock_ne rfl ?_ | with_reducible refine inBlock_normal ?_ | (go_at_call 60; refine (one_a _ _ _ _ _ _ (by decide) (by decide) (by simp) rfl).mono ?_; rintro e w' ⟨rfl, rfl⟩; dsimp only) | go_step)
    go_ret
    exact ⟨rfl, by repeat (first | exact Below.refl _ _ | apply below_more)⟩
set_option maxRecDepth 4000 in
set_option maxHeartbeats 4000000 in
theorem word8 (S D N M A I J U F C Y : Int) (G X O L : Bool) (w : World) : Calls Tryz.prog 27 #[(⟨8, S, D, N, M, A, I, J, U, F, C, Y, G, X, O, L⟩ : Ins).val] w fun e w' => e = .returned (strV (wordV ⟨8, S, D, N, M, A, I, J, U, F, C, Y, G, X, O, L⟩)) ∧ Below w.heap.size w w' := by
  go_enter Tryz.func27, Tryz.ntmps27
  repeat' (first | with_reducible refine then_exit ?_ | with_reducible refine then_normal ?_ | with_reducible refine inBlock_eq ?_ | with_reducible refine inBlock_ne rfl ?_ | with_reducible refine inBlock_normal ?_ | (go_at_call 62; refine (either_t _ _ _ _).mono ?_; rintro e w' ⟨rfl, rfl⟩; dsimp only) | go_step)
  go_ret
  exact ⟨rfl, by repeat (first | exact Below.refl _ _ | apply below_more)⟩
set_option maxRecDepth 4000 in
set_option maxHeartbeats 4000000 in
theorem word12 (S D N M A I J U F C Y : Int) (G X O L : Bool) (w : World) : Calls Tryz.prog 27 #[(⟨12, S, D, N, M, A, I, J, U, F, C, Y, G, X, O, L⟩ : Ins).val] w fun e w' => e = .returned (strV (wordV ⟨12, S, D, N, M, A, I, J, U, F, C, Y, G, X, O, L⟩)) ∧ Below w.heap.size w w' := by
  go_enter Tryz.func27, Tryz.ntmps27
  repeat' (first | with_reducible refine then_exit ?_ | with_reducible refine then_normal ?_ | with_reducible refine inBlock_eq ?_ | with_reducible refine inBlock_ne rfl ?_ | with_reducible refine inBlock_normal ?_ | (go_at_call 62; refine (either_t _ _ _ _).mono ?_; rintro e w' ⟨rfl, rfl⟩; dsimp only) | go_step)
  go_ret
  exact ⟨rfl, by repeat (first | exact Below.refl _ _ | apply below_more)⟩
set_option maxRecDepth 4000 in
set_option maxHeartbeats 4000000 in
theorem word14 (S D N M A I J U F C Y : Int) (G X O L : Bool) (w : World) : Calls Tryz.prog 27 #[(⟨14, S, D, N, M, A, I, J, U, F, C, Y, G, X, O, L⟩ : Ins).val] w fun e w' => e = .returned (strV (wordV ⟨14, S, D, N, M, A, I, J, U, F, C, Y, G, X, O, L⟩)) ∧ Below w.heap.size w w' := by
  go_enter Tryz.func27, Tryz.ntmps27
  repeat' (first | with_reducible refine then_exit ?_ | with_reducible refine then_normal ?_ | with_reducible refine inBlock_eq ?_ | with_reducible refine inBlock_ne rfl ?_ | with_reducible refine inBlock_normal ?_ | (go_at_call 62; refine (either_t _ _ _ _).mono ?_; rintro e w' ⟨rfl, rfl⟩; dsimp only) | go_step)
  go_ret
  exact ⟨rfl, by repeat (first | exact Below.refl _ _ | apply below_more)⟩
set_option maxRecDepth 4000 in
set_option maxHeartbeats 4000000 in
theorem word15 (S D N M A I J U F C Y : Int) (G X O L : Bool) (w : World) : Calls Tryz.prog 27 #[(⟨15, S, D, N, M, A, I, J, U, F, C, Y, G, X, O, L⟩ : Ins).val] w fun e w' => e = .returned (strV (wordV ⟨15, S, D, N, M, A, I, J, U, F, C, Y, G, X, O, L⟩)) ∧ Below w.heap.size w w' := by
  go_enter Tryz.func27, Tryz.ntmps27
  repeat' (first | with_reducible refine then_exit ?_ | with_reducible refine then_normal ?_ | with_reducible refine inBlock_eq ?_ | with_reducible refine inBlock_ne rfl ?_ | with_reducible refine inBlock_normal ?_ | (go_at_call 62; refine (either_t _ _ _ _).mono ?_; rintro e w' ⟨rfl, rfl⟩; dsimp only) | go_step)
  go_ret
  exact ⟨rfl, by repeat (first | exact Below.refl _ _ | apply below_more)⟩
set_option maxRecDepth 4000 in
set_option maxHeartbeats 4000000 in
theorem word7 (S D N M A I J U F C Y : Int) (G X O L : Bool) (h0 : 0 ≤ S) (h1 : S ≤ 3) (w : World) : Calls Tryz.prog 27 #[(⟨7, S, D, N, M, A, I, J, U, F, C, Y, G, X, O, L⟩ : Ins).val] w fun e w' => e = .returned (strV (wordV ⟨7, S, D, N, M, A, I, J, U, F, C, Y, G, X, O, L⟩)) ∧ Below w.heap.size w w' := by
  have h0 : Hid (0 ≤ S) := h0
  have h1 : Hid (S ≤ 3) := h1
  go_enter Tryz.func27, Tryz.ntmps27
  repeat' (first | with_reducible refine then_exit ?_ | with_reducible refine then_normal ?_ | with_reducible refine inBlock_eq ?_ | with_reducible refine inBlock_ne rfl ?_ | with_reducible refine inBlock_normal ?_ | (go_at_call 59; refine (shift_c _ h0.out h1.out _).mono ?_; rintro e w' ⟨rfl, hb⟩; dsimp only) | go_step)
  go_ret
  exact ⟨rfl, below_then (below_alloc _ _) hb⟩

theorem cond_two : ∀ k : Fin 16, (condT (k.val : Int)).length = 2 := by decide

set_option maxRecDepth 4000 in
set_option maxHeartbeats 4000000 in
theorem word13 (S D N M A I J U F C Y : Int) (G X O L : Bool) (c0 : 0 ≤ C) (c1 : C ≤ 15) (w : World) : Calls Tryz.prog 27 #[(⟨13, S, D, N, M, A, I, J, U, F, C, Y, G, X, O, L⟩ : Ins).val] w fun e w' => e = .returned (strV (wordV ⟨13, S, D, N, M, A, I, J, U, F, C, Y, G, X, O, L⟩)) ∧ Below w.heap.size w w' := by
  have hL : Hid ((condT C).length = 2) := by
    show _ = _
    have := cond_two ⟨C.toNat, by omega⟩
    rwa [show ((⟨C.toNat, by omega⟩ : Fin 16).val : Int) = C by simp; omega] at this
  have h0 : Hid (0 ≤ C) := c0
  have h1 : Hid (C ≤ 15) := c1
  clear c0 c1
  go_enter Tryz.func27, Tryz.ntmps27
  repeat' (first | with_reducible refine then_exit ?_ | with_reducible refine then_normal ?_ | with_reducible refine inBlock_eq ?_ | with_reducible refine inBlock_ne rfl ?_ | with_reducible refine inBlock_normal ?_ | (go_at_call 57; refine (condition_c _ h0.out h1.out _).mono ?_; rintro e w' ⟨rfl, hb⟩; dsimp only; replace hb := below_then (below_alloc _ _) hb; have hl2 := hL.out) | go_step)
  go_ret
  exact ⟨congrArg Ending.returned (congrArg Value.string (str_app _ _)), hb⟩

end Go.Proofs.YtjmdgfimmjodjaaGreatDoor
