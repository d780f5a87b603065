/- The same for the other Ops: contracts. -/
import Derived.Test.YtjmdgfimmjodjaaGreatDoorV32
namespace Go.Proofs.YtjmdgfimmjodjaaGreatDoor
open Go.RowKit Go.Rel

set_option maxRecDepth 8000 in
set_option maxHeartbeats 8000000 in
theorem parts29 (S D N M A I J U F C Y : Int) (G X O L : Bool) (hr : InR ⟨29, S, D, N, M, A, I, J, U, F, C, Y, G, X, O, L⟩) (w : World) (T : Tab w) : Calls Tryz.prog 26 #[(⟨29, S, D, N, M, A, I, J, U, F, C, Y, G, X, O, L⟩ : Ins).val] w fun e w' => ∃ v, e = .returned v ∧ RowT w.heap.size (([] : List Tx)) v w' ∧ Below w.heap.size w w' := by
  have HB := oneT_start ⟨29, S, D, N, M, A, I, J, U, F, C, Y, G, X, O, L⟩ w T
  go_enter Tryz.func26, Tryz.ntmps26
  repeat' (first | with_reducible refine then_exit ?_ | with_reducible refine then_normal ?_ | with_reducible refine inBlock_eq ?_ | with_reducible refine inBlock_ne rfl ?_ | with_reducible refine inBlock_normal ?_ | go_step)
  refine wp_region_rel Grows (fun x => OneT ⟨29, S, D, N, M, A, I, J, U, F, C, Y, G, X, O, L⟩ w x) [.inl (.pointer (some ⟨w.heap.size, 2, none⟩)), .inl (vI D), .inl (⟨29, S, D, N, M, A, I, J, U, F, C, Y, G, X, O, L⟩ : Ins).val, .inl (.bool (spD ⟨29, S, D, N, M, A, I, J, U, F, C, Y, G, X, O, L⟩)), .inl (strV (rdT ⟨29, S, D, N, M, A, I, J, U, F, C, Y, G, X, O, L⟩)), .inl (.pointer (some ⟨w.heap.size, 3, none⟩)), .inl (vI N), .inl (⟨29, S, D, N, M, A, I, J, U, F, C, Y, G, X, O, L⟩ : Ins).val, .inl (.bool (spN ⟨29, S, D, N, M, A, I, J, U, F, C, Y, G, X, O, L⟩)), .inl (strV (rnT ⟨29, S, D, N, M, A, I, J, U, F, C, Y, G, X, O, L⟩)), .inl (.pointer (some ⟨w.heap.size, 4, none⟩)), .inl (vI M), .inl (strV (rmT ⟨29, S, D, N, M, A, I, J, U, F, C, Y, G, X, O, L⟩)), .inl (strV (rdT ⟨29, S, D, N, M, A, I, J, U, F, C, Y, G, X, O, L⟩)), .inl (strV (rnT ⟨29, S, D, N, M, A, I, J, U, F, C, Y, G, X, O, L⟩)), .inl (strV (rmT ⟨29, S, D, N, M, A, I, J, U, F, C, Y, G, X, O, L⟩))] (by kernel_rfl) (by kernel_rfl) (OneT.up _ _) HB.drew (by simp [upK]) ?_
  refine ⟨fun w1 hC _ => by go_simp; exact Below.refl _ _, ?_⟩
  simp only [Act.put, List.setIfInBounds_toArray, List.set_cons_succ, List.set_cons_zero]
  refine ⟨fun w1 hC _ => by have hq := hC.one.at 2 _ rfl; go_simp; exact Below.refl _ _, ?_⟩
  simp only [Act.put, List.setIfInBounds_toArray, List.set_cons_succ, List.set_cons_zero]
  refine ⟨fun w1 hC _ => rel_load_row 23 _ rfl w.heap.size (by go_simp) 23 (⟨29, S, D, N, M, A, I, J, U, F, C, Y, G, X, O, L⟩ : Ins).cells (0, 0) _ hC.one.box Tryz.underlying23 rfl (by kernel_rfl), ?_⟩
  simp only [Act.put, List.setIfInBounds_toArray, List.set_cons_succ, List.set_cons_zero]
  refine ⟨fun w1 hC _ => ?_, ?_⟩
  · go_simp
    refine (stackRd_c ⟨29, S, D, N, M, A, I, J, U, F, C, Y, G, X, O, L⟩ w1).mono ?_
    rintro e w2 ⟨rfl, rfl⟩
    exact ⟨rfl, below_alloc _ _⟩
  simp only [Act.put, List.setIfInBounds_toArray, List.set_cons_succ, List.set_cons_zero]
  refine ⟨fun w1 hC _ => ?_, ?_⟩
  · go_simp
    refine (name_c D (spD ⟨29, S, D, N, M, A, I, J, U, F, C, Y, G, X, O, L⟩) hr.d0 hr.d1 w1 hC.tab).mono ?_
    rintro e w2 ⟨rfl, hb⟩
    exact ⟨rfl, hb⟩
  simp only [Act.put, List.setIfInBounds_toArray, List.set_cons_succ, List.set_cons_zero]
  refine ⟨fun w1 hC _ => by go_simp; exact Below.refl _ _, ?_⟩
  simp only [Act.put, List.setIfInBounds_toArray, List.set_cons_succ, List.set_cons_zero]
  refine ⟨fun w1 hC _ => by have hq := hC.one.at 3 _ rfl; go_simp; exact Below.refl _ _, ?_⟩
  simp only [Act.put, List.setIfInBounds_toArray, List.set_cons_succ, List.set_cons_zero]
  refine ⟨fun w1 hC _ => rel_load_row 23 _ rfl w.heap.size (by go_simp) 23 (⟨29, S, D, N, M, A, I, J, U, F, C, Y, G, X, O, L⟩ : Ins).cells (0, 0) _ hC.one.box Tryz.underlying23 rfl (by kernel_rfl), ?_⟩
  simp only [Act.put, List.setIfInBounds_toArray, List.set_cons_succ, List.set_cons_zero]
  refine ⟨fun w1 hC _ => ?_, ?_⟩
  · go_simp
    refine (stackRn_c ⟨29, S, D, N, M, A, I, J, U, F, C, Y, G, X, O, L⟩ w1).mono ?_
    rintro e w2 ⟨rfl, rfl⟩
    exact ⟨rfl, below_alloc _ _⟩
  simp only [Act.put, List.setIfInBounds_toArray, List.set_cons_succ, List.set_cons_zero]
  refine ⟨fun w1 hC _ => ?_, ?_⟩
  · go_simp
    refine (name_c N (spN ⟨29, S, D, N, M, A, I, J, U, F, C, Y, G, X, O, L⟩) hr.n0 hr.n1 w1 hC.tab).mono ?_
    rintro e w2 ⟨rfl, hb⟩
    exact ⟨rfl, hb⟩
  simp only [Act.put, List.setIfInBounds_toArray, List.set_cons_succ, List.set_cons_zero]
  refine ⟨fun w1 hC _ => by go_simp; exact Below.refl _ _, ?_⟩
  simp only [Act.put, List.setIfInBounds_toArray, List.set_cons_succ, List.set_cons_zero]
  refine ⟨fun w1 hC _ => by have hq := hC.one.at 4 _ rfl; go_simp; exact Below.refl _ _, ?_⟩
  simp only [Act.put, List.setIfInBounds_toArray, List.set_cons_succ, List.set_cons_zero]
  refine ⟨fun w1 hC _ => ?_, ?_⟩
  · go_simp
    refine (name_c M false hr.m0 hr.m1 w1 hC.tab).mono ?_
    rintro e w2 ⟨rfl, hb⟩
    exact ⟨rfl, hb⟩
  simp only [Act.put, List.setIfInBounds_toArray, List.set_cons_succ, List.set_cons_zero]
  refine ⟨fun w1 hC _ => by go_simp; exact Below.refl _ _, ?_⟩
  simp only [Act.put, List.setIfInBounds_toArray, List.set_cons_succ, List.set_cons_zero]
  refine ⟨fun w1 hC _ => by go_simp; exact Below.refl _ _, ?_⟩
  simp only [Act.put, List.setIfInBounds_toArray, List.set_cons_succ, List.set_cons_zero]
  refine ⟨fun w1 hC _ => by go_simp; exact Below.refl _ _, ?_⟩
  simp only [Act.put, List.setIfInBounds_toArray, List.set_cons_succ, List.set_cons_zero]
  clear HB
  intro w1 HB _
  have c0 := HB.one.at 0 _ rfl
  repeat' (first | with_reducible refine then_exit ?_ | with_reducible refine then_normal ?_ | with_reducible refine inBlock_eq ?_ | with_reducible refine inBlock_ne rfl ?_ | with_reducible refine inBlock_normal ?_ | (refine wpList_load_if rfl 23 _ rfl w.heap.size rfl 23 _ (0, 0) _ HB.one.box Tryz.underlying23 rfl (by kernel_rfl) ?_; simp only [Act.put, List.setIfInBounds_toArray, List.set_cons_succ, List.set_cons_zero]) | (go_at_call 61; refine (last29 S D N M A I J U F C Y G X O L _).mono ?_; rintro e w' ⟨v, rfl, hrow, hb⟩; dsimp only) | go_step)
  go_ret
  exact ⟨_, rfl, own_mono hrow HB.size, below_then HB.one.below hb⟩

set_option maxRecDepth 8000 in
set_option maxHeartbeats 8000000 in
theorem parts33 (S D N M A I J U F C Y : Int) (G X O L : Bool) (hr : InR ⟨33, S, D, N, M, A, I, J, U, F, C, Y, G, X, O, L⟩) (HN : Num ⟨33, S, D, N, M, A, I, J, U, F, C, Y, G, X, O, L⟩) (s0 : 0 ≤ S) (s1 : S ≤ 1) (w : World) (T : Tab w) : Calls Tryz.prog 26 #[(⟨33, S, D, N, M, A, I, J, U, F, C, Y, G, X, O, L⟩ : Ins).val] w fun e w' => ∃ v, e = .returned v ∧ RowT w.heap.size ([daifT S, numT I]) v w' ∧ Below w.heap.size w w' := by
  have S0 : Hid (0 ≤ S) := s0
  have S1 : Hid (S ≤ 1) := s1
  clear s0 s1
  have HB := oneT_start ⟨33, S, D, N, M, A, I, J, U, F, C, Y, G, X, O, L⟩ w T
  go_enter Tryz.func26, Tryz.ntmps26
  repeat' (first | with_reducible refine then_exit ?_ | with_reducible refine then_normal ?_ | with_reducible refine inBlock_eq ?_ | with_reducible refine inBlock_ne rfl ?_ | with_reducible refine inBlock_normal ?_ | go_step)
  refine wp_region_rel Grows (fun x => OneT ⟨33, S, D, N, M, A, I, J, U, F, C, Y, G, X, O, L⟩ w x) [.inl (.pointer (some ⟨w.heap.size, 2, none⟩)), .inl (vI D), .inl (⟨33, S, D, N, M, A, I, J, U, F, C, Y, G, X, O, L⟩ : Ins).val, .inl (.bool (spD ⟨33, S, D, N, M, A, I, J, U, F, C, Y, G, X, O, L⟩)), .inl (strV (rdT ⟨33, S, D, N, M, A, I, J, U, F, C, Y, G, X, O, L⟩)), .inl (.pointer (some ⟨w.heap.size, 3, none⟩)), .inl (vI N), .inl (⟨33, S, D, N, M, A, I, J, U, F, C, Y, G, X, O, L⟩ : Ins).val, .inl (.bool (spN ⟨33, S, D, N, M, A, I, J, U, F, C, Y, G, X, O, L⟩)), .inl (strV (rnT ⟨33, S, D, N, M, A, I, J, U, F, C, Y, G, X, O, L⟩)), .inl (.pointer (some ⟨w.heap.size, 4, none⟩)), .inl (vI M), .inl (strV (rmT ⟨33, S, D, N, M, A, I, J, U, F, C, Y, G, X, O, L⟩)), .inl (strV (rdT ⟨33, S, D, N, M, A, I, J, U, F, C, Y, G, X, O, L⟩)), .inl (strV (rnT ⟨33, S, D, N, M, A, I, J, U, F, C, Y, G, X, O, L⟩)), .inl (strV (rmT ⟨33, S, D, N, M, A, I, J, U, F, C, Y, G, X, O, L⟩))] (by kernel_rfl) (by kernel_rfl) (OneT.up _ _) HB.drew (by simp [upK]) ?_
  refine ⟨fun w1 hC _ => by go_simp; exact Below.refl _ _, ?_⟩
  simp only [Act.put, List.setIfInBounds_toArray, List.set_cons_succ, List.set_cons_zero]
  refine ⟨fun w1 hC _ => by have hq := hC.one.at 2 _ rfl; go_simp; exact Below.refl _ _, ?_⟩
  simp only [Act.put, List.setIfInBounds_toArray, List.set_cons_succ, List.set_cons_zero]
  refine ⟨fun w1 hC _ => rel_load_row 23 _ rfl w.heap.size (by go_simp) 23 (⟨33, S, D, N, M, A, I, J, U, F, C, Y, G, X, O, L⟩ : Ins).cells (0, 0) _ hC.one.box Tryz.underlying23 rfl (by kernel_rfl), ?_⟩
  simp only [Act.put, List.setIfInBounds_toArray, List.set_cons_succ, List.set_cons_zero]
  refine ⟨fun w1 hC _ => ?_, ?_⟩
  · go_simp
    refine (stackRd_c ⟨33, S, D, N, M, A, I, J, U, F, C, Y, G, X, O, L⟩ w1).mono ?_
    rintro e w2 ⟨rfl, rfl⟩
    exact ⟨rfl, below_alloc _ _⟩
  simp only [Act.put, List.setIfInBounds_toArray, List.set_cons_succ, List.set_cons_zero]
  refine ⟨fun w1 hC _ => ?_, ?_⟩
  · go_simp
    refine (name_c D (spD ⟨33, S, D, N, M, A, I, J, U, F, C, Y, G, X, O, L⟩) hr.d0 hr.d1 w1 hC.tab).mono ?_
    rintro e w2 ⟨rfl, hb⟩
    exact ⟨rfl, hb⟩
  simp only [Act.put, List.setIfInBounds_toArray, List.set_cons_succ, List.set_cons_zero]
  refine ⟨fun w1 hC _ => by go_simp; exact Below.refl _ _, ?_⟩
  simp only [Act.put, List.setIfInBounds_toArray, List.set_cons_succ, List.set_cons_zero]
  refine ⟨fun w1 hC _ => by have hq := hC.one.at 3 _ rfl; go_simp; exact Below.refl _ _, ?_⟩
  simp only [Act.put, List.setIfInBounds_toArray, List.set_cons_succ, List.set_cons_zero]
  refine ⟨fun w1 hC _ => rel_load_row 23 _ rfl w.heap.size (by go_simp) 23 (⟨33, S, D, N, M, A, I, J, U, F, C, Y, G, X, O, L⟩ : Ins).cells (0, 0) _ hC.one.box Tryz.underlying23 rfl (by kernel_rfl), ?_⟩
  simp only [Act.put, List.setIfInBounds_toArray, List.set_cons_succ, List.set_cons_zero]
  refine ⟨fun w1 hC _ => ?_, ?_⟩
  · go_simp
    refine (stackRn_c ⟨33, S, D, N, M, A, I, J, U, F, C, Y, G, X, O, L⟩ w1).mono ?_
    rintro e w2 ⟨rfl, rfl⟩
    exact ⟨rfl, below_alloc _ _⟩
  simp only [Act.put, List.setIfInBounds_toArray, List.set_cons_succ, List.set_cons_zero]
  refine ⟨fun w1 hC _ => ?_, ?_⟩
  · go_simp
    refine (name_c N (spN ⟨33, S, D, N, M, A, I, J, U, F, C, Y, G, X, O, L⟩) hr.n0 hr.n1 w1 hC.tab).mono ?_
    rintro e w2 ⟨rfl, hb⟩
    exact ⟨rfl, hb⟩
  simp only [Act.put, List.setIfInBounds_toArray, List.set_cons_succ, List.set_cons_zero]
  refine ⟨fun w1 hC _ => by go_simp; exact Below.refl _ _, ?_⟩
  simp only [Act.put, List.setIfInBounds_toArray, List.set_cons_succ, List.set_cons_zero]
  refine ⟨fun w1 hC _ => by have hq := hC.one.at 4 _ rfl; go_simp; exact Below.refl _ _, ?_⟩
  simp only [Act.put, List.setIfInBounds_toArray, List.set_cons_succ, List.set_cons_zero]
  refine ⟨fun w1 hC _ => ?_, ?_⟩
  · go_simp
    refine (name_c M false hr.m0 hr.m1 w1 hC.tab).mono ?_
    rintro e w2 ⟨rfl, hb⟩
    exact ⟨rfl, hb⟩
  simp only [Act.put, List.setIfInBounds_toArray, List.set_cons_succ, List.set_cons_zero]
  refine ⟨fun w1 hC _ => by go_simp; exact Below.refl _ _, ?_⟩
  simp only [Act.put, List.setIfInBounds_toArray, List.set_cons_succ, List.set_cons_zero]
  refine ⟨fun w1 hC _ => by go_simp; exact Below.refl _ _, ?_⟩
  simp only [Act.put, List.setIfInBounds_toArray, List.set_cons_succ, List.set_cons_zero]
  refine ⟨fun w1 hC _ => by go_simp; exact Below.refl _ _, ?_⟩
  simp only [Act.put, List.setIfInBounds_toArray, List.set_cons_succ, List.set_cons_zero]
  clear HB
  intro w1 HB _
  have c0 := HB.one.at 0 _ rfl
  repeat' (first | with_reducible refine then_exit ?_ | with_reducible refine then_normal ?_ | with_reducible refine inBlock_eq ?_ | with_reducible refine inBlock_ne rfl ?_ | with_reducible refine inBlock_normal ?_ | (refine wpList_load_if rfl 23 _ rfl w.heap.size rfl 23 _ (0, 0) _ HB.one.box Tryz.underlying23 rfl (by kernel_rfl) ?_; simp only [Act.put, List.setIfInBounds_toArray, List.set_cons_succ, List.set_cons_zero]) | (go_at_call 61; refine (last33 S D N M A I J U F C Y G X O L HN S0.out S1.out _ HB.tab).mono ?_; rintro e w' ⟨v, rfl, hrow, hb⟩; dsimp only) | go_step)
  go_ret
  exact ⟨_, rfl, own_mono hrow HB.size, below_then HB.one.below hb⟩

set_option maxRecDepth 8000 in
set_option maxHeartbeats 8000000 in
theorem parts34 (S D N M A I J U F C Y : Int) (G X O L : Bool) (hr : InR ⟨34, S, D, N, M, A, I, J, U, F, C, Y, G, X, O, L⟩) (HN : Num ⟨34, S, D, N, M, A, I, J, U, F, C, Y, G, X, O, L⟩) (w : World) (T : Tab w) : Calls Tryz.prog 26 #[(⟨34, S, D, N, M, A, I, J, U, F, C, Y, G, X, O, L⟩ : Ins).val] w fun e w' => ∃ v, e = .returned v ∧ RowT w.heap.size ([numT I]) v w' ∧ Below w.heap.size w w' := by
  have HB := oneT_start ⟨34, S, D, N, M, A, I, J, U, F, C, Y, G, X, O, L⟩ w T
  go_enter Tryz.func26, Tryz.ntmps26
  repeat' (first | with_reducible refine then_exit ?_ | with_reducible refine then_normal ?_ | with_reducible refine inBlock_eq ?_ | with_reducible refine inBlock_ne rfl ?_ | with_reducible refine inBlock_normal ?_ | go_step)
  refine wp_region_rel Grows (fun x => OneT ⟨34, S, D, N, M, A, I, J, U, F, C, Y, G, X, O, L⟩ w x) [.inl (.pointer (some ⟨w.heap.size, 2, none⟩)), .inl (vI D), .inl (⟨34, S, D, N, M, A, I, J, U, F, C, Y, G, X, O, L⟩ : Ins).val, .inl (.bool (spD ⟨34, S, D, N, M, A, I, J, U, F, C, Y, G, X, O, L⟩)), .inl (strV (rdT ⟨34, S, D, N, M, A, I, J, U, F, C, Y, G, X, O, L⟩)), .inl (.pointer (some ⟨w.heap.size, 3, none⟩)), .inl (vI N), .inl (⟨34, S, D, N, M, A, I, J, U, F, C, Y, G, X, O, L⟩ : Ins).val, .inl (.bool (spN ⟨34, S, D, N, M, A, I, J, U, F, C, Y, G, X, O, L⟩)), .inl (strV (rnT ⟨34, S, D, N, M, A, I, J, U, F, C, Y, G, X, O, L⟩)), .inl (.pointer (some ⟨w.heap.size, 4, none⟩)), .inl (vI M), .inl (strV (rmT ⟨34, S, D, N, M, A, I, J, U, F, C, Y, G, X, O, L⟩)), .inl (strV (rdT ⟨34, S, D, N, M, A, I, J, U, F, C, Y, G, X, O, L⟩)), .inl (strV (rnT ⟨34, S, D, N, M, A, I, J, U, F, C, Y, G, X, O, L⟩)), .inl (strV (rmT ⟨34, S, D, N, M, A, I, J, U, F, C, Y, G, X, O, L⟩))] (by kernel_rfl) (by kernel_rfl) (OneT.up _ _) HB.drew (by simp [upK]) ?_
  refine ⟨fun w1 hC _ => by go_simp; exact Below.refl _ _, ?_⟩
  simp only [Act.put, List.setIfInBounds_toArray, List.set_cons_succ, List.set_cons_zero]
  refine ⟨fun w1 hC _ => by have hq := hC.one.at 2 _ rfl; go_simp; exact Below.refl _ _, ?_⟩
  simp only [Act.put, List.setIfInBounds_toArray, List.set_cons_succ, List.set_cons_zero]
  refine ⟨fun w1 hC _ => rel_load_row 23 _ rfl w.heap.size (by go_simp) 23 (⟨34, S, D, N, M, A, I, J, U, F, C, Y, G, X, O, L⟩ : Ins).cells (0, 0) _ hC.one.box Tryz.underlying23 rfl (by kernel_rfl), ?_⟩
  simp only [Act.put, List.setIfInBounds_toArray, List.set_cons_succ, List.set_cons_zero]
  refine ⟨fun w1 hC _ => ?_, ?_⟩
  · go_simp
    refine (stackRd_c ⟨34, S, D, N, M, A, I, J, U, F, C, Y, G, X, O, L⟩ w1).mono ?_
    rintro e w2 ⟨rfl, rfl⟩
    exact ⟨rfl, below_alloc _ _⟩
  simp only [Act.put, List.setIfInBounds_toArray, List.set_cons_succ, List.set_cons_zero]
  refine ⟨fun w1 hC _ => ?_, ?_⟩
  · go_simp
    refine (name_c D (spD ⟨34, S, D, N, M, A, I, J, U, F, C, Y, G, X, O, L⟩) hr.d0 hr.d1 w1 hC.tab).mono ?_
    rintro e w2 ⟨rfl, hb⟩
    exact ⟨rfl, hb⟩
  simp only [Act.put, List.setIfInBounds_toArray, List.set_cons_succ, List.set_cons_zero]
  refine ⟨fun w1 hC _ => by go_simp; exact Below.refl _ _, ?_⟩
  simp only [Act.put, List.setIfInBounds_toArray, List.set_cons_succ, List.set_cons_zero]
  refine ⟨fun w1 hC _ => by have hq := hC.one.at 3 _ rfl; go_simp; exact Below.refl _ _, ?_⟩
  simp only [Act.put, List.setIfInBounds_toArray, List.set_cons_succ, List.set_cons_zero]
  refine ⟨fun w1 hC _ => rel_load_row 23 _ rfl w.heap.size (by go_simp) 23 (⟨34, S, D, N, M, A, I, J, U, F, C, Y, G, X, O, L⟩ : Ins).cells (0, 0) _ hC.one.box Tryz.underlying23 rfl (by kernel_rfl), ?_⟩
  simp only [Act.put, List.setIfInBounds_toArray, List.set_cons_succ, List.set_cons_zero]
  refine ⟨fun w1 hC _ => ?_, ?_⟩
  · go_simp
    refine (stackRn_c ⟨34, S, D, N, M, A, I, J, U, F, C, Y, G, X, O, L⟩ w1).mono ?_
    rintro e w2 ⟨rfl, rfl⟩
    exact ⟨rfl, below_alloc _ _⟩
  simp only [Act.put, List.setIfInBounds_toArray, List.set_cons_succ, List.set_cons_zero]
  refine ⟨fun w1 hC _ => ?_, ?_⟩
  · go_simp
    refine (name_c N (spN ⟨34, S, D, N, M, A, I, J, U, F, C, Y, G, X, O, L⟩) hr.n0 hr.n1 w1 hC.tab).mono ?_
    rintro e w2 ⟨rfl, hb⟩
    exact ⟨rfl, hb⟩
  simp only [Act.put, List.setIfInBounds_toArray, List.set_cons_succ, List.set_cons_zero]
  refine ⟨fun w1 hC _ => by go_simp; exact Below.refl _ _, ?_⟩
  simp only [Act.put, List.setIfInBounds_toArray, List.set_cons_succ, List.set_cons_zero]
  refine ⟨fun w1 hC _ => by have hq := hC.one.at 4 _ rfl; go_simp; exact Below.refl _ _, ?_⟩
  simp only [Act.put, List.setIfInBounds_toArray, List.set_cons_succ, List.set_cons_zero]
  refine ⟨fun w1 hC _ => ?_, ?_⟩
  · go_simp
    refine (name_c M false hr.m0 hr.m1 w1 hC.tab).mono ?_
    rintro e w2 ⟨rfl, hb⟩
    exact ⟨rfl, hb⟩
  simp only [Act.put, List.setIfInBounds_toArray, List.set_cons_succ, List.set_cons_zero]
  refine ⟨fun w1 hC _ => by go_simp; exact Below.refl _ _, ?_⟩
  simp only [Act.put, List.setIfInBounds_toArray, List.set_cons_succ, List.set_cons_zero]
  refine ⟨fun w1 hC _ => by go_simp; exact Below.refl _ _, ?_⟩
  simp only [Act.put, List.setIfInBounds_toArray, List.set_cons_succ, List.set_cons_zero]
  refine ⟨fun w1 hC _ => by go_simp; exact Below.refl _ _, ?_⟩
  simp only [Act.put, List.setIfInBounds_toArray, List.set_cons_succ, List.set_cons_zero]
  clear HB
  intro w1 HB _
  have c0 := HB.one.at 0 _ rfl
  repeat' (first | with_reducible refine then_exit ?_ | with_reducible refine then_normal ?_ | with_reducible refine inBlock_eq ?_ | with_reducible refine inBlock_ne rfl ?_ | with_reducible refine inBlock_normal ?_ | (refine wpList_load_if rfl 23 _ rfl w.heap.size rfl 23 _ (0, 0) _ HB.one.box Tryz.underlying23 rfl (by kernel_rfl) ?_; simp only [Act.put, List.setIfInBounds_toArray, List.set_cons_succ, List.set_cons_zero]) | (go_at_call 61; refine (last34 S D N M A I J U F C Y G X O L HN _ HB.tab).mono ?_; rintro e w' ⟨v, rfl, hrow, hb⟩; dsimp only) | go_step)
  go_ret
  exact ⟨_, rfl, own_mono hrow HB.size, below_then HB.one.below hb⟩

set_option maxRecDepth 8000 in
set_option maxHeartbeats 8000000 in
theorem parts35 (S D N M A I J U F C Y : Int) (G X O L : Bool) (hr : InR ⟨35, S, D, N, M, A, I, J, U, F, C, Y, G, X, O, L⟩) (HN : Num ⟨35, S, D, N, M, A, I, J, U, F, C, Y, G, X, O, L⟩) (w : World) (T : Tab w) : Calls Tryz.prog 26 #[(⟨35, S, D, N, M, A, I, J, U, F, C, Y, G, X, O, L⟩ : Ins).val] w fun e w' => ∃ v, e = .returned v ∧ RowT w.heap.size ([numT I]) v w' ∧ Below w.heap.size w w' := by
  have HB := oneT_start ⟨35, S, D, N, M, A, I, J, U, F, C, Y, G, X, O, L⟩ w T
  go_enter Tryz.func26, Tryz.ntmps26
  repeat' (first | with_reducible refine then_exit ?_ | with_reducible refine then_normal ?_ | with_reducible refine inBlock_eq ?_ | with_reducible refine inBlock_ne rfl ?_ | with_reducible refine inBlock_normal ?_ | go_step)
  refine wp_region_rel Grows (fun x => OneT ⟨35, S, D, N, M, A, I, J, U, F, C, Y, G, X, O, L⟩ w x) [.inl (.pointer (some ⟨w.heap.size, 2, none⟩)), .inl (vI D), .inl (⟨35, S, D, N, M, A, I, J, U, F, C, Y, G, X, O, L⟩ : Ins).val, .inl (.bool (spD ⟨35, S, D, N, M, A, I, J, U, F, C, Y, G, X, O, L⟩)), .inl (strV (rdT ⟨35, S, D, N, M, A, I, J, U, F, C, Y, G, X, O, L⟩)), .inl (.pointer (some ⟨w.heap.size, 3, none⟩)), .inl (vI N), .inl (⟨35, S, D, N, M, A, I, J, U, F, C, Y, G, X, O, L⟩ : Ins).val, .inl (.bool (spN ⟨35, S, D, N, M, A, I, J, U, F, C, Y, G, X, O, L⟩)), .inl (strV (rnT ⟨35, S, D, N, M, A, I, J, U, F, C, Y, G, X, O, L⟩)), .inl (.pointer (some ⟨w.heap.size, 4, none⟩)), .inl (vI M), .inl (strV (rmT ⟨35, S, D, N, M, A, I, J, U, F, C, Y, G, X, O, L⟩)), .inl (strV (rdT ⟨35, S, D, N, M, A, I, J, U, F, C, Y, G, X, O, L⟩)), .inl (strV (rnT ⟨35, S, D, N, M, A, I, J, U, F, C, Y, G, X, O, L⟩)), .inl (strV (rmT ⟨35, S, D, N, M, A, I, J, U, F, C, Y, G, X, O, L⟩))] (by kernel_rfl) (by kernel_rfl) (OneT.up _ _) HB.drew (by simp [upK]) ?_
  refine ⟨fun w1 hC _ => by go_simp; exact Below.refl _ _, ?_⟩
  simp only [Act.put, List.setIfInBounds_toArray, List.set_cons_succ, List.set_cons_zero]
  refine ⟨fun w1 hC _ => by have hq := hC.one.at 2 _ rfl; go_simp; exact Below.refl _ _, ?_⟩
  simp only [Act.put, List.setIfInBounds_toArray, List.set_cons_succ, List.set_cons_zero]
  refine ⟨fun w1 hC _ => rel_load_row 23 _ rfl w.heap.size (by go_simp) 23 (⟨35, S, D, N, M, A, I, J, U, F, C, Y, G, X, O, L⟩ : Ins).cells (0, 0) _ hC.one.box Tryz.underlying23 rfl (by kernel_rfl), ?_⟩
  simp only [Act.put, List.setIfInBounds_toArray, List.set_cons_succ, List.set_cons_zero]
  refine ⟨fun w1 hC _ => ?_, ?_⟩
  · go_simp
    refine (stackRd_c ⟨35, S, D, N, M, A, I, J, U, F, C, Y, G, X, O, L⟩ w1).mono ?_
    rintro e w2 ⟨rfl, rfl⟩
    exact ⟨rfl, below_alloc _ _⟩
  simp only [Act.put, List.setIfInBounds_toArray, List.set_cons_succ, List.set_cons_zero]
  refine ⟨fun w1 hC _ => ?_, ?_⟩
  · go_simp
    refine (name_c D (spD ⟨35, S, D, N, M, A, I, J, U, F, C, Y, G, X, O, L⟩) hr.d0 hr.d1 w1 hC.tab).mono ?_
    rintro e w2 ⟨rfl, hb⟩
    exact ⟨rfl, hb⟩
  simp only [Act.put, List.setIfInBounds_toArray, List.set_cons_succ, List.set_cons_zero]
  refine ⟨fun w1 hC _ => by go_simp; exact Below.refl _ _, ?_⟩
  simp only [Act.put, List.setIfInBounds_toArray, List.set_cons_succ, List.set_cons_zero]
  refine ⟨fun w1 hC _ => by have hq := hC.one.at 3 _ rfl; go_simp; exact Below.refl _ _, ?_⟩
  simp only [Act.put, List.setIfInBounds_toArray, List.set_cons_succ, List.set_cons_zero]
  refine ⟨fun w1 hC _ => rel_load_row 23 _ rfl w.heap.size (by go_simp) 23 (⟨35, S, D, N, M, A, I, J, U, F, C, Y, G, X, O, L⟩ : Ins).cells (0, 0) _ hC.one.box Tryz.underlying23 rfl (by kernel_rfl), ?_⟩
  simp only [Act.put, List.setIfInBounds_toArray, List.set_cons_succ, List.set_cons_zero]
  refine ⟨fun w1 hC _ => ?_, ?_⟩
  · go_simp
    refine (stackRn_c ⟨35, S, D, N, M, A, I, J, U, F, C, Y, G, X, O, L⟩ w1).mono ?_
    rintro e w2 ⟨rfl, rfl⟩
    exact ⟨rfl, below_alloc _ _⟩
  simp only [Act.put, List.setIfInBounds_toArray, List.set_cons_succ, List.set_cons_zero]
  refine ⟨fun w1 hC _ => ?_, ?_⟩
  · go_simp
    refine (name_c N (spN ⟨35, S, D, N, M, A, I, J, U, F, C, Y, G, X, O, L⟩) hr.n0 hr.n1 w1 hC.tab).mono ?_
    rintro e w2 ⟨rfl, hb⟩
    exact ⟨rfl, hb⟩
  simp only [Act.put, List.setIfInBounds_toArray, List.set_cons_succ, List.set_cons_zero]
  refine ⟨fun w1 hC _ => by go_simp; exact Below.refl _ _, ?_⟩
  simp only [Act.put, List.setIfInBounds_toArray, List.set_cons_succ, List.set_cons_zero]
  refine ⟨fun w1 hC _ => by have hq := hC.one.at 4 _ rfl; go_simp; exact Below.refl _ _, ?_⟩
  simp only [Act.put, List.setIfInBounds_toArray, List.set_cons_succ, List.set_cons_zero]
  refine ⟨fun w1 hC _ => ?_, ?_⟩
  · go_simp
    refine (name_c M false hr.m0 hr.m1 w1 hC.tab).mono ?_
    rintro e w2 ⟨rfl, hb⟩
    exact ⟨rfl, hb⟩
  simp only [Act.put, List.setIfInBounds_toArray, List.set_cons_succ, List.set_cons_zero]
  refine ⟨fun w1 hC _ => by go_simp; exact Below.refl _ _, ?_⟩
  simp only [Act.put, List.setIfInBounds_toArray, List.set_cons_succ, List.set_cons_zero]
  refine ⟨fun w1 hC _ => by go_simp; exact Below.refl _ _, ?_⟩
  simp only [Act.put, List.setIfInBounds_toArray, List.set_cons_succ, List.set_cons_zero]
  refine ⟨fun w1 hC _ => by go_simp; exact Below.refl _ _, ?_⟩
  simp only [Act.put, List.setIfInBounds_toArray, List.set_cons_succ, List.set_cons_zero]
  clear HB
  intro w1 HB _
  have c0 := HB.one.at 0 _ rfl
  repeat' (first | with_reducible refine then_exit ?_ | with_reducible refine then_normal ?_ | with_reducible refine inBlock_eq ?_ | with_reducible refine inBlock_ne rfl ?_ | with_reducible refine inBlock_normal ?_ | (refine wpList_load_if rfl 23 _ rfl w.heap.size rfl 23 _ (0, 0) _ HB.one.box Tryz.underlying23 rfl (by kernel_rfl) ?_; simp only [Act.put, List.setIfInBounds_toArray, List.set_cons_succ, List.set_cons_zero]) | (go_at_call 61; refine (last35 S D N M A I J U F C Y G X O L HN _ HB.tab).mono ?_; rintro e w' ⟨v, rfl, hrow, hb⟩; dsimp only) | go_step)
  go_ret
  exact ⟨_, rfl, own_mono hrow HB.size, below_then HB.one.below hb⟩

set_option maxRecDepth 8000 in
set_option maxHeartbeats 8000000 in
theorem parts36 (S D N M A I J U F C Y : Int) (G X O L : Bool) (hr : InR ⟨36, S, D, N, M, A, I, J, U, F, C, Y, G, X, O, L⟩) (w : World) (T : Tab w) : Calls Tryz.prog 26 #[(⟨36, S, D, N, M, A, I, J, U, F, C, Y, G, X, O, L⟩ : Ins).val] w fun e w' => ∃ v, e = .returned v ∧ RowT w.heap.size (([] : List Tx)) v w' ∧ Below w.heap.size w w' := by
  have HB := oneT_start ⟨36, S, D, N, M, A, I, J, U, F, C, Y, G, X, O, L⟩ w T
  go_enter Tryz.func26, Tryz.ntmps26
  repeat' (first | with_reducible refine then_exit ?_ | with_reducible refine then_normal ?_ | with_reducible refine inBlock_eq ?_ | with_reducible refine inBlock_ne rfl ?_ | with_reducible refine inBlock_normal ?_ | go_step)
  refine wp_region_rel Grows (fun x => OneT ⟨36, S, D, N, M, A, I, J, U, F, C, Y, G, X, O, L⟩ w x) [.inl (.pointer (some ⟨w.heap.size, 2, none⟩)), .inl (vI D), .inl (⟨36, S, D, N, M, A, I, J, U, F, C, Y, G, X, O, L⟩ : Ins).val, .inl (.bool (spD ⟨36, S, D, N, M, A, I, J, U, F, C, Y, G, X, O, L⟩)), .inl (strV (rdT ⟨36, S, D, N, M, A, I, J, U, F, C, Y, G, X, O, L⟩)), .inl (.pointer (some ⟨w.heap.size, 3, none⟩)), .inl (vI N), .inl (⟨36, S, D, N, M, A, I, J, U, F, C, Y, G, X, O, L⟩ : Ins).val, .inl (.bool (spN ⟨36, S, D, N, M, A, I, J, U, F, C, Y, G, X, O, L⟩)), .inl (strV (rnT ⟨36, S, D, N, M, A, I, J, U, F, C, Y, G, X, O, L⟩)), .inl (.pointer (some ⟨w.heap.size, 4, none⟩)), .inl (vI M), .inl (strV (rmT ⟨36, S, D, N, M, A, I, J, U, F, C, Y, G, X, O, L⟩)), .inl (strV (rdT ⟨36, S, D, N, M, A, I, J, U, F, C, Y, G, X, O, L⟩)), .inl (strV (rnT ⟨36, S, D, N, M, A, I, J, U, F, C, Y, G, X, O, L⟩)), .inl (strV (rmT ⟨36, S, D, N, M, A, I, J, U, F, C, Y, G, X, O, L⟩))] (by kernel_rfl) (by kernel_rfl) (OneT.up _ _) HB.drew (by simp [upK]) ?_
  refine ⟨fun w1 hC _ => by go_simp; exact Below.refl _ _, ?_⟩
  simp only [Act.put, List.setIfInBounds_toArray, List.set_cons_succ, List.set_cons_zero]
  refine ⟨fun w1 hC _ => by have hq := hC.one.at 2 _ rfl; go_simp; exact Below.refl _ _, ?_⟩
  simp only [Act.put, List.setIfInBounds_toArray, List.set_cons_succ, List.set_cons_zero]
  refine ⟨fun w1 hC _ => rel_load_row 23 _ rfl w.heap.size (by go_simp) 23 (⟨36, S, D, N, M, A, I, J, U, F, C, Y, G, X, O, L⟩ : Ins).cells (0, 0) _ hC.one.box Tryz.underlying23 rfl (by kernel_rfl), ?_⟩
  simp only [Act.put, List.setIfInBounds_toArray, List.set_cons_succ, List.set_cons_zero]
  refine ⟨fun w1 hC _ => ?_, ?_⟩
  · go_simp
    refine (stackRd_c ⟨36, S, D, N, M, A, I, J, U, F, C, Y, G, X, O, L⟩ w1).mono ?_
    rintro e w2 ⟨rfl, rfl⟩
    exact ⟨rfl, below_alloc _ _⟩
  simp only [Act.put, List.setIfInBounds_toArray, List.set_cons_succ, List.set_cons_zero]
  refine ⟨fun w1 hC _ => ?_, ?_⟩
  · go_simp
    refine (name_c D (spD ⟨36, S, D, N, M, A, I, J, U, F, C, Y, G, X, O, L⟩) hr.d0 hr.d1 w1 hC.tab).mono ?_
    rintro e w2 ⟨rfl, hb⟩
    exact ⟨rfl, hb⟩
  simp only [Act.put, List.setIfInBounds_toArray, List.set_cons_succ, List.set_cons_zero]
  refine ⟨fun w1 hC _ => by go_simp; exact Below.refl _ _, ?_⟩
  simp only [Act.put, List.setIfInBounds_toArray, List.set_cons_succ, List.set_cons_zero]
  refine ⟨fun w1 hC _ => by have hq := hC.one.at 3 _ rfl; go_simp; exact Below.refl _ _, ?_⟩
  simp only [Act.put, List.setIfInBounds_toArray, List.set_cons_succ, List.set_cons_zero]
  refine ⟨fun w1 hC _ => rel_load_row 23 _ rfl w.heap.size (by go_simp) 23 (⟨36, S, D, N, M, A, I, J, U, F, C, Y, G, X, O, L⟩ : Ins).cells (0, 0) _ hC.one.box Tryz.underlying23 rfl (by kernel_rfl), ?_⟩
  simp only [Act.put, List.setIfInBounds_toArray, List.set_cons_succ, List.set_cons_zero]
  refine ⟨fun w1 hC _ => ?_, ?_⟩
  · go_simp
    refine (stackRn_c ⟨36, S, D, N, M, A, I, J, U, F, C, Y, G, X, O, L⟩ w1).mono ?_
    rintro e w2 ⟨rfl, rfl⟩
    exact ⟨rfl, below_alloc _ _⟩
  simp only [Act.put, List.setIfInBounds_toArray, List.set_cons_succ, List.set_cons_zero]
  refine ⟨fun w1 hC _ => ?_, ?_⟩
  · go_simp
    refine (name_c N (spN ⟨36, S, D, N, M, A, I, J, U, F, C, Y, G, X, O, L⟩) hr.n0 hr.n1 w1 hC.tab).mono ?_
    rintro e w2 ⟨rfl, hb⟩
    exact ⟨rfl, hb⟩
  simp only [Act.put, List.setIfInBounds_toArray, List.set_cons_succ, List.set_cons_zero]
  refine ⟨fun w1 hC _ => by go_simp; exact Below.refl _ _, ?_⟩
  simp only [Act.put, List.setIfInBounds_toArray, List.set_cons_succ, List.set_cons_zero]
  refine ⟨fun w1 hC _ => by have hq := hC.one.at 4 _ rfl; go_simp; exact Below.refl _ _, ?_⟩
  simp only [Act.put, List.setIfInBounds_toArray, List.set_cons_succ, List.set_cons_zero]
  refine ⟨fun w1 hC _ => ?_, ?_⟩
  · go_simp
    refine (name_c M false hr.m0 hr.m1 w1 hC.tab).mono ?_
    rintro e w2 ⟨rfl, hb⟩
    exact ⟨rfl, hb⟩
  simp only [Act.put, List.setIfInBounds_toArray, List.set_cons_succ, List.set_cons_zero]
  refine ⟨fun w1 hC _ => by go_simp; exact Below.refl _ _, ?_⟩
  simp only [Act.put, List.setIfInBounds_toArray, List.set_cons_succ, List.set_cons_zero]
  refine ⟨fun w1 hC _ => by go_simp; exact Below.refl _ _, ?_⟩
  simp only [Act.put, List.setIfInBounds_toArray, List.set_cons_succ, List.set_cons_zero]
  refine ⟨fun w1 hC _ => by go_simp; exact Below.refl _ _, ?_⟩
  simp only [Act.put, List.setIfInBounds_toArray, List.set_cons_succ, List.set_cons_zero]
  clear HB
  intro w1 HB _
  have c0 := HB.one.at 0 _ rfl
  repeat' (first | with_reducible refine then_exit ?_ | with_reducible refine then_normal ?_ | with_reducible refine inBlock_eq ?_ | with_reducible refine inBlock_ne rfl ?_ | with_reducible refine inBlock_normal ?_ | (refine wpList_load_if rfl 23 _ rfl w.heap.size rfl 23 _ (0, 0) _ HB.one.box Tryz.underlying23 rfl (by kernel_rfl) ?_; simp only [Act.put, List.setIfInBounds_toArray, List.set_cons_succ, List.set_cons_zero]) | (go_at_call 61; refine (last36 S D N M A I J U F C Y G X O L _).mono ?_; rintro e w' ⟨v, rfl, hrow, hb⟩; dsimp only) | go_step)
  go_ret
  exact ⟨_, rfl, own_mono hrow HB.size, below_then HB.one.below hb⟩

set_option maxRecDepth 8000 in
set_option maxHeartbeats 8000000 in
theorem parts37 (S D N M A I J U F C Y : Int) (G X O L : Bool) (hr : InR ⟨37, S, D, N, M, A, I, J, U, F, C, Y, G, X, O, L⟩) (HN : Num ⟨37, S, D, N, M, A, I, J, U, F, C, Y, G, X, O, L⟩) (w : World) (T : Tab w) : Calls Tryz.prog 26 #[(⟨37, S, D, N, M, A, I, J, U, F, C, Y, G, X, O, L⟩ : Ins).val] w fun e w' => ∃ v, e = .returned v ∧ RowT w.heap.size ([numT I]) v w' ∧ Below w.heap.size w w' := by
  have HB := oneT_start ⟨37, S, D, N, M, A, I, J, U, F, C, Y, G, X, O, L⟩ w T
  go_enter Tryz.func26, Tryz.ntmps26
  repeat' (first | with_reducible refine then_exit ?_ | with_reducible refine then_normal ?_ | with_reducible refine inBlock_eq ?_ | with_reducible refine inBlock_ne rfl ?_ | with_reducible refine inBlock_normal ?_ | go_step)
  refine wp_region_rel Grows (fun x => OneT ⟨37, S, D, N, M, A, I, J, U, F, C, Y, G, X, O, L⟩ w x) [.inl (.pointer (some ⟨w.heap.size, 2, none⟩)), .inl (vI D), .inl (⟨37, S, D, N, M, A, I, J, U, F, C, Y, G, X, O, L⟩ : Ins).val, .inl (.bool (spD ⟨37, S, D, N, M, A, I, J, U, F, C, Y, G, X, O, L⟩)), .inl (strV (rdT ⟨37, S, D, N, M, A, I, J, U, F, C, Y, G, X, O, L⟩)), .inl (.pointer (some ⟨w.heap.size, 3, none⟩)), .inl (vI N), .inl (⟨37, S, D, N, M, A, I, J, U, F, C, Y, G, X, O, L⟩ : Ins).val, .inl (.bool (spN ⟨37, S, D, N, M, A, I, J, U, F, C, Y, G, X, O, L⟩)), .inl (strV (rnT ⟨37, S, D, N, M, A, I, J, U, F, C, Y, G, X, O, L⟩)), .inl (.pointer (some ⟨w.heap.size, 4, none⟩)), .inl (vI M), .inl (strV (rmT ⟨37, S, D, N, M, A, I, J, U, F, C, Y, G, X, O, L⟩)), .inl (strV (rdT ⟨37, S, D, N, M, A, I, J, U, F, C, Y, G, X, O, L⟩)), .inl (strV (rnT ⟨37, S, D, N, M, A, I, J, U, F, C, Y, G, X, O, L⟩)), .inl (strV (rmT ⟨37, S, D, N, M, A, I, J, U, F, C, Y, G, X, O, L⟩))] (by kernel_rfl) (by kernel_rfl) (OneT.up _ _) HB.drew (by simp [upK]) ?_
  refine ⟨fun w1 hC _ => by go_simp; exact Below.refl _ _, ?_⟩
  simp only [Act.put, List.setIfInBounds_toArray, List.set_cons_succ, List.set_cons_zero]
  refine ⟨fun w1 hC _ => by have hq := hC.one.at 2 _ rfl; go_simp; exact Below.refl _ _, ?_⟩
  simp only [Act.put, List.setIfInBounds_toArray, List.set_cons_succ, List.set_cons_zero]
  refine ⟨fun w1 hC _ => rel_load_row 23 _ rfl w.heap.size (by go_simp) 23 (⟨37, S, D, N, M, A, I, J, U, F, C, Y, G, X, O, L⟩ : Ins).cells (0, 0) _ hC.one.box Tryz.underlying23 rfl (by kernel_rfl), ?_⟩
  simp only [Act.put, List.setIfInBounds_toArray, List.set_cons_succ, List.set_cons_zero]
  refine ⟨fun w1 hC _ => ?_, ?_⟩
  · go_simp
    refine (stackRd_c ⟨37, S, D, N, M, A, I, J, U, F, C, Y, G, X, O, L⟩ w1).mono ?_
    rintro e w2 ⟨rfl, rfl⟩
    exact ⟨rfl, below_alloc _ _⟩
  simp only [Act.put, List.setIfInBounds_toArray, List.set_cons_succ, List.set_cons_zero]
  refine ⟨fun w1 hC _ => ?_, ?_⟩
  · go_simp
    refine (name_c D (spD ⟨37, S, D, N, M, A, I, J, U, F, C, Y, G, X, O, L⟩) hr.d0 hr.d1 w1 hC.tab).mono ?_
    rintro e w2 ⟨rfl, hb⟩
    exact ⟨rfl, hb⟩
  simp only [Act.put, List.setIfInBounds_toArray, List.set_cons_succ, List.set_cons_zero]
  refine ⟨fun w1 hC _ => by go_simp; exact Below.refl _ _, ?_⟩
  simp only [Act.put, List.setIfInBounds_toArray, List.set_cons_succ, List.set_cons_zero]
  refine ⟨fun w1 hC _ => by have hq := hC.one.at 3 _ rfl; go_simp; exact Below.refl _ _, ?_⟩
  simp only [Act.put, List.setIfInBounds_toArray, List.set_cons_succ, List.set_cons_zero]
  refine ⟨fun w1 hC _ => rel_load_row 23 _ rfl w.heap.size (by go_simp) 23 (⟨37, S, D, N, M, A, I, J, U, F, C, Y, G, X, O, L⟩ : Ins).cells (0, 0) _ hC.one.box Tryz.underlying23 rfl (by kernel_rfl), ?_⟩
  simp only [Act.put, List.setIfInBounds_toArray, List.set_cons_succ, List.set_cons_zero]
  refine ⟨fun w1 hC _ => ?_, ?_⟩
  · go_simp
    refine (stackRn_c ⟨37, S, D, N, M, A, I, J, U, F, C, Y, G, X, O, L⟩ w1).mono ?_
    rintro e w2 ⟨rfl, rfl⟩
    exact ⟨rfl, below_alloc _ _⟩
  simp only [Act.put, List.setIfInBounds_toArray, List.set_cons_succ, List.set_cons_zero]
  refine ⟨fun w1 hC _ => ?_, ?_⟩
  · go_simp
    refine (name_c N (spN ⟨37, S, D, N, M, A, I, J, U, F, C, Y, G, X, O, L⟩) hr.n0 hr.n1 w1 hC.tab).mono ?_
    rintro e w2 ⟨rfl, hb⟩
    exact ⟨rfl, hb⟩
  simp only [Act.put, List.setIfInBounds_toArray, List.set_cons_succ, List.set_cons_zero]
  refine ⟨fun w1 hC _ => by go_simp; exact Below.refl _ _, ?_⟩
  simp only [Act.put, List.setIfInBounds_toArray, List.set_cons_succ, List.set_cons_zero]
  refine ⟨fun w1 hC _ => by have hq := hC.one.at 4 _ rfl; go_simp; exact Below.refl _ _, ?_⟩
  simp only [Act.put, List.setIfInBounds_toArray, List.set_cons_succ, List.set_cons_zero]
  refine ⟨fun w1 hC _ => ?_, ?_⟩
  · go_simp
    refine (name_c M false hr.m0 hr.m1 w1 hC.tab).mono ?_
    rintro e w2 ⟨rfl, hb⟩
    exact ⟨rfl, hb⟩
  simp only [Act.put, List.setIfInBounds_toArray, List.set_cons_succ, List.set_cons_zero]
  refine ⟨fun w1 hC _ => by go_simp; exact Below.refl _ _, ?_⟩
  simp only [Act.put, List.setIfInBounds_toArray, List.set_cons_succ, List.set_cons_zero]
  refine ⟨fun w1 hC _ => by go_simp; exact Below.refl _ _, ?_⟩
  simp only [Act.put, List.setIfInBounds_toArray, List.set_cons_succ, List.set_cons_zero]
  refine ⟨fun w1 hC _ => by go_simp; exact Below.refl _ _, ?_⟩
  simp only [Act.put, List.setIfInBounds_toArray, List.set_cons_succ, List.set_cons_zero]
  clear HB
  intro w1 HB _
  have c0 := HB.one.at 0 _ rfl
  repeat' (first | with_reducible refine then_exit ?_ | with_reducible refine then_normal ?_ | with_reducible refine inBlock_eq ?_ | with_reducible refine inBlock_ne rfl ?_ | with_reducible refine inBlock_normal ?_ | (refine wpList_load_if rfl 23 _ rfl w.heap.size rfl 23 _ (0, 0) _ HB.one.box Tryz.underlying23 rfl (by kernel_rfl) ?_; simp only [Act.put, List.setIfInBounds_toArray, List.set_cons_succ, List.set_cons_zero]) | (go_at_call 61; refine (last37 S D N M A I J U F C Y G X O L HN _ HB.tab).mono ?_; rintro e w' ⟨v, rfl, hrow, hb⟩; dsimp only) | go_step)
  go_ret
  exact ⟨_, rfl, own_mono hrow HB.size, below_then HB.one.below hb⟩
end Go.Proofs.YtjmdgfimmjodjaaGreatDoor
